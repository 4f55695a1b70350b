/-
  A part exchanged for another one of its type: the contract of changed, where the part lies deeper.
  A byte that came in, as a number.
  Some answers that the document fixes: the contract of alive.
  A part that is exchanged for another one of its type leaves the type as it is: the walk of the law.
-/
import Derived.Test.YtakjkhfglihggaaDoorG7
import Derived.Test.YtakjkhfglihggaaDoorG1
import Derived.Test.YtakjkhfglihggaaDoorG5
import Derived.Test.YtakjkhfglihggaaDoorG6
namespace Go.Proofs.YtakjkhfglihggaaDoor.Lex
open Go.ChangeShapes Go.WideShapes Go.ChangeAt Go.RowKit Go.Joins
/-- Three rows, and the row of the parts. -/
structure Put3 (w : World) (P c d : Array Value) (v : Value) (ps : List (Ex × Value)) (W : World) : Prop where
  below : Below w.heap.size w W
  one : W.heap[w.heap.size]? = some (.cells P 26 (0, 0))
  two : W.heap[w.heap.size + 1]? = some (.cells c 30 (0, 0))
  three : W.heap[w.heap.size + 1 + 1]? = some (.cells d 30 (0, 0))
  row : W.ownsRow (w.heap.size + 3) 30 4 v ps.length (pairsV ps)
theorem Put3.grown {w W W' : World} {P c d : Array Value} {v v' : Value} {ps ps' : List (Ex × Value)} (h : Put3 w P c d v ps W) (hg : W.grownBy W' v.ownBlock) (hr : W'.ownsRow (w.heap.size + 3) 30 4 v' ps'.length (pairsV ps')) : Put3 w P c d v' ps' W' := by
  have hlt := h.row.lt
  have k : ∀ b, b < w.heap.size + 3 → b < W.heap.size → W'.heap[b]? = W.heap[b]? := fun b h1 h2 => hg.block b h2 (fun e => by have := (hlt b e.symm).1; omega)
  refine ⟨h.below.grown hg h.below.size (fun j hj => by have := (hlt j hj).1; omega), ?_, ?_, ?_, hr⟩
  · rw [k _ (by omega) (Array.getElem?_eq_some_iff.1 h.one).1]; exact h.one
  · rw [k _ (by omega) (Array.getElem?_eq_some_iff.1 h.two).1]; exact h.two
  · rw [k _ (by omega) (Array.getElem?_eq_some_iff.1 h.three).1]; exact h.three
theorem Put3.later {w W W' : World} {P c d : Array Value} {v : Value} {ps : List (Ex × Value)} (h : Put3 w P c d v ps W) (hb : Below W.heap.size W W') : Put3 w P c d v ps W' :=
  ⟨bstep h.below hb, keep_row h.one hb, keep_row h.two hb, keep_row h.three hb, own_block h.row fun g hg => hb.block g (h.row.lt g hg).2⟩
theorem there4 {B g3 n c3 k : Nat} {W : World} {ps : List (Ex × Value)} (h : W.ownsRow B 30 4 (.slice (some ⟨g3, 0, none⟩) n c3) ps.length (pairsV ps)) (hn : ps.length = n) (hk : k < n) : W.there g3 (k * 4) 4 := by
  subst hn
  intro j hj
  refine ⟨?_, h.frozenAt _⟩
  rw [h.cellAt _ (by omega), List.getElem?_eq_getElem (by rw [pairsV_len]; omega)]
  rfl
/-- What came back lies in a row of its own, and stands wherever what made it stands. -/
structure Mid (w0 w : World) (P c d : Array Value) (g3 n c3 yb : Nat) (ps : List (Ex × Value)) (z : Ex) (a4 : Option Addr) (c4 : Nat) (W : World) : Prop where
  below : Below w.heap.size w W
  one : W.heap[w.heap.size]? = some (.cells P 26 (0, 0))
  two : W.heap[w.heap.size + 1]? = some (.cells c 30 (0, 0))
  three : W.heap[w.heap.size + 1 + 1]? = some (.cells d 30 (0, 0))
  row : W.ownsRow (w.heap.size + 3) 30 4 (.slice (some ⟨g3, 0, none⟩) n c3) ps.length (pairsV ps)
  yrow : W.heap[yb]? = some (.cells #[.int .u8 (z.op : Int), .int .i64 z.n, .string z.name, .slice a4 z.args.length c4] 30 (0, 0))
  st : ∀ V, Below w0.heap.size w0 V → (∀ b, w.heap.size + 3 ≤ b → b < W.heap.size → b ≠ yb → some b ≠ some g3 → V.heap[b]? = W.heap[b]?) → St V z (.slice a4 z.args.length c4)
theorem Mid.of_store {w0 w W : World} {P c d : Array Value} {g3 n c3 yb : Nat} {ps : List (Ex × Value)} {z : Ex} {a4 : Option Addr} {c4 : Nat} {old : Array Value} (h : Put3 w P c d (.slice (some ⟨g3, 0, none⟩) n c3) ps W) (hy : W.heap[yb]? = some (.cells old 30 (0, 0))) (hyb : w.heap.size + 3 ≤ yb) (hne : some g3 ≠ some yb)
    (hst : ∀ V, Below w0.heap.size w0 V → (∀ b, w.heap.size + 3 ≤ b → b < W.heap.size → b ≠ yb → some b ≠ some g3 → V.heap[b]? = W.heap[b]?) → St V z (.slice a4 z.args.length c4)) : Mid w0 w P c d g3 n c3 yb ps z a4 c4 (W.setRow yb #[.int .u8 (z.op : Int), .int .i64 z.n, .string z.name, .slice a4 z.args.length c4]) := by
  have hsz : (W.setRow yb #[.int .u8 (z.op : Int), .int .i64 z.n, .string z.name, .slice a4 z.args.length c4]).heap.size = W.heap.size := by simp [World.setRow]
  have ho : ∀ b, b ≠ yb → (W.setRow yb #[.int .u8 (z.op : Int), .int .i64 z.n, .string z.name, .slice a4 z.args.length c4]).heap[b]? = W.heap[b]? := fun b hb => setRow_other _ _ _ _ hb
  refine ⟨below_row h.below h.below.size (by omega) _, ?_, ?_, ?_, own_block h.row fun g hg => ho g (fun e => hne (by subst e; exact hg)), setRow_heap _ _ _ _ _ _ hy, fun V hV hb => hst V hV fun b h1 h2 h3 h4 => by rw [hb b h1 (by omega) h3 h4, ho b h3]⟩
  · rw [ho _ (by omega)]; exact h.one
  · rw [ho _ (by omega)]; exact h.two
  · rw [ho _ (by omega)]; exact h.three
theorem Mid.at4 {w0 w W : World} {P c d : Array Value} {g3 n c3 yb k : Nat} {ps : List (Ex × Value)} {z y : Ex} {a4 : Option Addr} {c4 : Nat} {sy : Value} (h : Mid w0 w P c d g3 n c3 yb ps z a4 c4 W) (hn : ps.length = n) (hq : (pairsV ps)[k * 4]? = some (.int .u8 (y.op : Int)) ∧ (pairsV ps)[k * 4 + 1]? = some (.int .i64 y.n) ∧ (pairsV ps)[k * 4 + 2]? = some (.string y.name) ∧ (pairsV ps)[k * 4 + 3]? = some sy) (hk : k < n) :
    W.cell? ⟨g3, k * 4, none⟩ = some (.int .u8 (y.op : Int)) ∧ W.cell? ⟨g3, k * 4 + 1, none⟩ = some (.int .i64 y.n) ∧ W.cell? ⟨g3, k * 4 + 2, none⟩ = some (.string y.name) ∧ W.cell? ⟨g3, k * 4 + 3, none⟩ = some sy := by
  subst hn
  exact ⟨(h.row.cellAt (k * 4) (by omega)).trans hq.1, (h.row.cellAt (k * 4 + 1) (by omega)).trans hq.2.1, (h.row.cellAt (k * 4 + 2) (by omega)).trans hq.2.2.1, (h.row.cellAt (k * 4 + 3) (by omega)).trans hq.2.2.2⟩
/-- The part is laid in the row. -/
structure Fin4 (w0 w : World) (P c d : Array Value) (v : Value) (ps : List (Ex × Value)) (W : World) : Prop where
  below : Below w.heap.size w W
  two : W.heap[w.heap.size + 1]? = some (.cells c 30 (0, 0))
  three : W.heap[w.heap.size + 1 + 1]? = some (.cells d 30 (0, 0))
  row : W.ownsRow (w.heap.size + 3) 30 4 v ps.length (pairsV ps)
  st : ∀ V, Below w0.heap.size w0 V → (∀ b, w.heap.size + 3 ≤ b → b < W.heap.size → V.heap[b]? = W.heap[b]?) → ∀ q ∈ ps, St V q.1 q.2
theorem Mid.set' {w0 w W : World} {P c d : Array Value} {g3 n c3 yb k : Nat} {ps : List (Ex × Value)} {z : Ex} {a4 : Option Addr} {c4 : Nat} (h : Mid w0 w P c d g3 n c3 yb ps z a4 c4 W) (hst : ∀ q ∈ ps, St w0 q.1 q.2) (hn : n = ps.length) (_hk : k < n) :
    Fin4 w0 w P c d (.slice (some ⟨g3, 0, none⟩) n c3) (ps.set k (z, .slice a4 z.args.length c4)) (W.setCells g3 (k * 4) (#[.int .u8 (z.op : Int), .int .i64 z.n, .string z.name, .slice a4 z.args.length c4] : Array Value).toList) := by
  subst hn
  have hg := h.row.lt g3 rfl
  have ho : ∀ b, b ≠ g3 → (W.setCells g3 (k * 4) (#[.int .u8 (z.op : Int), .int .i64 z.n, .string z.name, .slice a4 z.args.length c4] : Array Value).toList).heap[b]? = W.heap[b]? := fun b hb => by
    show (((((W.setCell ⟨g3, k * 4, none⟩ (.int .u8 (z.op : Int))).setCell ⟨g3, k * 4 + 1, none⟩ (.int .i64 z.n)).setCell ⟨g3, k * 4 + 2, none⟩ (.string z.name)).setCell ⟨g3, k * 4 + 3, none⟩ (.slice a4 z.args.length c4))).heap[b]? = _
    rw [Below.heap_setCell _ _ _ _ (by exact hb), Below.heap_setCell _ _ _ _ (by exact hb), Below.heap_setCell _ _ _ _ (by exact hb), Below.heap_setCell _ _ _ _ (by exact hb)]
  have hsz : (W.setCells g3 (k * 4) (#[.int .u8 (z.op : Int), .int .i64 z.n, .string z.name, .slice a4 z.args.length c4] : Array Value).toList).heap.size = W.heap.size := by
    show (((((W.setCell ⟨g3, k * 4, none⟩ (.int .u8 (z.op : Int))).setCell ⟨g3, k * 4 + 1, none⟩ (.int .i64 z.n)).setCell ⟨g3, k * 4 + 2, none⟩ (.string z.name)).setCell ⟨g3, k * 4 + 3, none⟩ (.slice a4 z.args.length c4))).heap.size = _
    simp
  refine ⟨?_, ?_, ?_, ?_, fun V hV hb q hq => ?_⟩
  · exact (((h.below.setCell (p := ⟨g3, k * 4, none⟩) (by show w.heap.size ≤ g3; omega) _).setCell (p := ⟨g3, k * 4 + 1, none⟩) (by show w.heap.size ≤ g3; omega) _).setCell (p := ⟨g3, k * 4 + 2, none⟩) (by show w.heap.size ≤ g3; omega) _).setCell (p := ⟨g3, k * 4 + 3, none⟩) (by show w.heap.size ≤ g3; omega) _
  · rw [ho _ (by omega)]; exact h.two
  · rw [ho _ (by omega)]; exact h.three
  · have r := ((((h.row.stored (k * 4) (.int .u8 (z.op : Int))).1.stored (k * 4 + 1) (.int .i64 z.n)).1.stored (k * 4 + 2) (.string z.name)).1.stored (k * 4 + 3) (.slice a4 z.args.length c4)).1
    rw [List.length_set, ← pairsV_set]
    exact r
  · rcases List.mem_or_eq_of_mem_set hq with hq | hq
    · exact (hst q hq).keep hV
    · rw [hq]
      exact h.st V hV fun b h1 h2 _ h4 => by rw [hb b h1 (by omega), ho b (fun e => h4 (by rw [e]))]
theorem Fin4.done {w0 w W : World} {op : Nat} {n : Int} {nm : ByteArray} {s v : Value} {P d d' : Array Value} {ps : List (Ex × Value)} (h : Fin4 w0 w P #[.int .u8 (op : Int), .int .i64 n, .string nm, s] d v ps W) (hop : op < 256) (hn : -9223372036854775808 ≤ n ∧ n ≤ 9223372036854775807) (hnm : nm.size ≤ 140737488355328) (hlen : ps.length ≤ 2513169434843) :
    Below w.heap.size w ((W.setCell ⟨w.heap.size + 1, 3, none⟩ v).setRow (w.heap.size + 1 + 1) d') ∧ ∀ V, Below w0.heap.size w0 V → (∀ b, w.heap.size ≤ b → b < ((W.setCell ⟨w.heap.size + 1, 3, none⟩ v).setRow (w.heap.size + 1 + 1) d').heap.size → V.heap[b]? = ((W.setCell ⟨w.heap.size + 1, 3, none⟩ v).setRow (w.heap.size + 1 + 1) d').heap[b]?) → St V ⟨op, n, nm, ps.map (·.1)⟩ v := by
  have hsize : ((W.setCell ⟨w.heap.size + 1, 3, none⟩ v).setRow (w.heap.size + 1 + 1) d').heap.size = W.heap.size := by simp [World.setRow]
  have kk : ∀ b, w.heap.size + 3 ≤ b → ((W.setCell ⟨w.heap.size + 1, 3, none⟩ v).setRow (w.heap.size + 1 + 1) d').heap[b]? = W.heap[b]? := fun b hb => by
    rw [setRow_other _ _ _ _ (by omega), Below.heap_setCell _ _ _ _ (by show b ≠ w.heap.size + 1; omega)]
  have h3 := (Array.getElem?_eq_some_iff.1 h.three).1
  refine ⟨below_row (h.below.setCell (p := ⟨w.heap.size + 1, 3, none⟩) (by show w.heap.size ≤ w.heap.size + 1; omega) _) (by simp; omega) (by omega) _, fun V h1 h2 => ?_⟩
  have hV : ∀ b, w.heap.size + 3 ≤ b → b < W.heap.size → V.heap[b]? = W.heap[b]? := fun b hb hlt => by rw [h2 b (by omega) (by omega), kk b hb]
  exact St.of_row op n nm hop hn hnm hlen (own_block h.row fun g hg => hV g (h.row.lt g hg).1 (h.row.lt g hg).2) (h.st V h1 fun b hb hlt => hV b hb hlt)
/-- What changed does, looked at so deep. -/
def ChC (p : Pg) (f : Nat) : Prop := ∀ (x : Ex) (way : Nat) (w0 w : World) (s A B C : Value), way ≤ f → way < 256 → (ofV p x).2 = 0 → PgAt w0 p A B C → TabR w0 → TabJ w0 → St w0 x s → Below w0.heap.size w0 w →
  Calls Tryd.prog 22 #[pgV p A B C, exV x s, .int .i64 (way : Int)] w (ChP (chX p f x way) w0 w)
set_option maxRecDepth 100000 in
set_option maxHeartbeats 4000000 in
theorem ch_step (p : Pg) (f : Nat) (ih : ChC p f) : ChC p (f + 1) := by
  intro x way w0 w s A B C hf hwy hz hP hR hJ hS hB
  by_cases hcond : x.args.length = 0 ∨ way = 0
  · have e : chX p (f + 1) x way = chL p x := by rw [chX, if_pos hcond]
    rw [e]
    obtain ⟨ao, cap, _, rfl, _⟩ := hS.out
    exact ch_leaf p x way w0 w ao cap A B C hz hP hR hJ hS hB hcond hwy
  · obtain ⟨hn0, hw0⟩ := not_or.1 hcond
    have e : chX p (f + 1) x way = ⟨x.op, x.n, x.name, x.args.modify (way % x.args.length) fun y => chX p f y (way / 2)⟩ := by rw [chX, if_neg hcond]
    rw [e]
    obtain ⟨ao, cap, sl, rfl, hop, hn, hnm, -, -, hc, -⟩ := hS.out
    obtain ⟨b, o, rfl, -⟩ := hc.resolve_left hn0
    obtain ⟨_, hlen, ps, hps, hst, hcell, hone⟩ := hS.row
    have hpl : ps.length = x.args.length := by rw [← hps]; simp
    obtain ⟨k, hkdef⟩ : ∃ k, way % x.args.length = k := ⟨_, rfl⟩
    have hk : k < x.args.length := by rw [← hkdef]; exact Nat.mod_lt _ (by omega)
    have hmod : (way : Int) % (x.args.length : Int) = (k : Int) := by rw [← hkdef]; simp
    have hmod' : Int.tmod (way : Int) (x.args.length : Int) = (k : Int) := by rw [← hmod]; exact Int.tmod_eq_emod_of_nonneg (by omega)
    obtain ⟨m, hm⟩ : ∃ m, way / 2 = m := ⟨_, rfl⟩
    have hdiv : (way : Int) / 2 = (m : Int) := by omega
    have hdiv' : Int.tdiv (way : Int) 2 = (m : Int) := by rw [← hdiv]; exact Int.tdiv_eq_ediv_of_nonneg (by omega)
    have hwrap : IntKind.i64.wrap (m : Int) = (m : Int) := by rw [IntKind.wrap_i64]; omega
    have hwrapk : IntKind.i64.wrap (k : Int) = (k : Int) := by rw [IntKind.wrap_i64]; omega
    have hpos : (0 : Int) < (x.args.length : Int) := by omega
    have e0 : ((x.args.length : Int) == 0) = false := by rw [beq_eq_false_iff_ne]; omega
    have e0' : ((way : Int) == 0) = false := by rw [beq_eq_false_iff_ne]; omega
    have hpos' : 0 < x.args.length := by omega
    have hlt : (k : Int) < (x.args.length : Int) := by omega
    have hk0 : (0 : Int) ≤ (k : Int) := by omega
    have b3 := bstep (bstep ((Below.refl w.heap.size w).alloc (Nat.le_refl _) (.cells (pgC p A B C) 26)) ((Below.refl _ _).alloc (Nat.le_refl _) (.cells #[.int .u8 (x.op : Int), .int .i64 x.n, .string x.name, .slice (some ⟨b, o, none⟩) x.args.length cap] 30))) ((Below.refl _ _).alloc (Nat.le_refl _) (.cells #[.int .u8 0, .int .i64 0, .string ⟨#[]⟩, .slice none 0 0] 30))
    have SC := hid fun j u hj => cell_kept (hcell _ rfl j u hj) (bstep hB b3)
    have HP2 := hid (show Put3 w (pgC p A B C) #[.int .u8 (x.op : Int), .int .i64 x.n, .string x.name, .slice (some ⟨b, o, none⟩) x.args.length cap] #[.int .u8 0, .int .i64 0, .string ⟨#[]⟩, .slice none 0 0] (.slice none 0 0) [] (((w.alloc (.cells (pgC p A B C) 26)).alloc (.cells #[.int .u8 (x.op : Int), .int .i64 x.n, .string x.name, .slice (some ⟨b, o, none⟩) x.args.length cap] 30)).alloc (.cells #[.int .u8 0, .int .i64 0, .string ⟨#[]⟩, .slice none 0 0] 30)) from ⟨b3, push_old (push_old (push_new _ _ _ rfl)), push_old (push_new _ _ _ (by simp)), push_new _ _ _ (by simp), World.ownsRow_nil _ _ _ _⟩)
    have HB := hid hB
    have HST := hid hst
    have HN := hid hn
    have HMM := hid (modify_map hps k hk fun y => chX p f y m)
    have hy : ∃ y sy, ps[k]? = some (y, sy) ∧ x.args[k] = y := ⟨ps[k].1, ps[k].2, by rw [List.getElem?_eq_getElem (by omega)], by simp [← hps]⟩
    obtain ⟨y, sy, hyk, hyx⟩ := hy
    rw [hyx] at HMM
    have HM2 : Hid (∀ s, (ps.set k (chX p f y m, s)).map (·.1) = x.args.modify k fun y => chX p f y m) := hid fun s => HMM.out s
    clear HMM
    have hys : St w0 y sy := hst (y, sy) (List.mem_of_getElem? hyk)
    have hyz : (ofV p y).2 = 0 := by rw [(of_part hz (hyx ▸ List.getElem_mem hk)).1]
    obtain ⟨ay, cy, _, rfl, _⟩ := id hys.out
    have ihy := hid fun W (hb : Below w0.heap.size w0 W) => ih y m w0 W (.slice ay y.args.length cy) A B C (by omega) (by omega) hyz hP hR hJ hys hb
    obtain ⟨q0, q1, q2, q3⟩ := pairsV_at ps [] k (by omega)
    rw [List.append_nil] at q0 q1 q2 q3
    have e1 : ps[k]'(by omega) = (y, .slice ay y.args.length cy) := by rw [List.getElem?_eq_getElem (by omega)] at hyk; exact Option.some.inj hyk
    rw [e1] at q0 q1 q2 q3
    have HQ := hid (And.intro q0 (And.intro q1 (And.intro q2 q3)))
    obtain ⟨i0, hi, hi0, hi1, hi2⟩ := info_parts info25'
    rw [hkdef, hm]
    clear hS hst hcell hB b3 hn hc hcond hf hz e hyz hys q0 q1 q2 q3 e1 hyk hyx hkdef hm hP hR hJ ih
    generalize (x.args.modify k fun y => chX p f y m) = A' at *
    generalize chX p f y m = z at *
    go_enter Tryd.func22, Tryd.ntmps22
    go_wp2_with (at_builtin; refine wpList_append_own _ rfl (.const (.slice none 0 0)) (.tmp 42) 28 rfl (w.heap.size + 3) 30 i0 _ 4 56 Tryd.underlying28 hi hi0 hi1 hi2 rfl (by decide) (.slice none 0 0) 0 [] rfl HP2.out.row ⟨b, o, none⟩ x.args.length cap (pairsV ps) rfl (by rw [pairsV_len, hpl]) SC.out hone (by unfold maxLen; omega) (by omega) (by simp) ?_; intro v3 W3 hown3 hgrow3 _; rw [Nat.zero_add] at hown3; obtain ⟨g3, c3, rfl⟩ := row_pos hown3 hpos'; have M3 := hid (HP2.out.grown (ps' := ps) hgrow3 (by rw [hpl]; simpa using hown3)); have hr3 := M3.out.row; rw [hpl] at hr3; have y0 := (hr3.cellAt (k * 4) (by omega)).trans HQ.out.1; have y1 := (hr3.cellAt (k * 4 + 1) (by omega)).trans HQ.out.2.1; have y2 := (hr3.cellAt (k * 4 + 2) (by omega)).trans HQ.out.2.2.1; have y3 := (hr3.cellAt (k * 4 + 3) (by omega)).trans HQ.out.2.2.2; clear hown3 hgrow3 hr3 HP2 SC)
    obtain ⟨p0, p1, p2, p3⟩ := row4p M3.out.one
    (try dsimp only at y0 y1 y2 y3)
    refine wp_region_held_drew (S := fun W => W.cell? ⟨w.heap.size, 0, none⟩ = some (.int .i64 p.st) ∧ W.cell? ⟨w.heap.size, 1, none⟩ = some (A) ∧ W.cell? ⟨w.heap.size, 2, none⟩ = some (B) ∧ W.cell? ⟨w.heap.size, 3, none⟩ = some (C) ∧ W.cell? ⟨g3, k * 4, none⟩ = some (.int .u8 (y.op : Int)) ∧ W.cell? ⟨g3, k * 4 + 1, none⟩ = some (.int .i64 y.n) ∧ W.cell? ⟨g3, k * 4 + 2, none⟩ = some (.string y.name) ∧ W.cell? ⟨g3, k * 4 + 3, none⟩ = some (.slice ay y.args.length cy)) (by kernel_rfl) ?_ (fun hHeld => ?_)
    · exact ⟨p0, p1, p2, p3, y0, y1, y2, y3⟩
    refine wpAnyH_take (i := 0) (oi := { dst := some 45, op := Go.Op.load 26 (Go.Operand.tmp 3), type := 26, pos := _, after := #[], guard := none }) (v := ?_) rfl (by kernel_rfl) (by kernel_rfl) (by kernel_rfl) (fun _ _ _ h => h) (Or.inl ⟨by rfl, ?_⟩) (by assumption) ?_
    rotate_left
    · intro w hSw; (try dsimp only at hSw); go_simp <;> first | with_reducible rfl | (rw [if_neg (by first | omega | (simp only [ByteArray.size_append] at *; omega))])
    simp only [Act.put, List.setIfInBounds_toArray, List.set_cons_zero, List.set_cons_succ]
    refine wpAnyH_take (i := 1) (oi := { dst := some 46, op := Go.Op.move (Go.Operand.tmp 11), type := 28, pos := _, after := #[], guard := none }) (v := ?_) rfl (by kernel_rfl) (by kernel_rfl) (by kernel_rfl) (fun _ _ _ h => h) (Or.inl ⟨by rfl, ?_⟩) (by assumption) ?_
    rotate_left
    · intro w hSw; (try dsimp only at hSw); go_simp <;> first | with_reducible rfl | (rw [if_neg (by first | omega | (simp only [ByteArray.size_append] at *; omega))])
    simp only [Act.put, List.setIfInBounds_toArray, List.set_cons_zero, List.set_cons_succ]
    refine wpAnyH_take (i := 2) (oi := { dst := some 47, op := Go.Op.move (Go.Operand.tmp 10), type := 3, pos := _, after := #[], guard := none }) (v := ?_) rfl (by kernel_rfl) (by kernel_rfl) (by kernel_rfl) (fun _ _ _ h => h) (Or.inl ⟨by rfl, ?_⟩) (by assumption) ?_
    rotate_left
    · intro w hSw; (try dsimp only at hSw); go_simp <;> first | with_reducible rfl | (rw [if_neg (by first | omega | (simp only [ByteArray.size_append] at *; omega))])
    simp only [Act.put, List.setIfInBounds_toArray, List.set_cons_zero, List.set_cons_succ]
    refine wpAnyH_take (i := 3) (oi := { dst := some 48, op := Go.Op.indexAddr 28 (Go.Operand.tmp 46) (Go.Operand.tmp 47), type := 0, pos := _, after := #[{ on := 1, ground := Go.Ground.data }, { on := 2, ground := Go.Ground.data }], guard := none }) (v := ?_) rfl (by kernel_rfl) (by kernel_rfl) (by kernel_rfl) (fun _ _ _ h => h) (Or.inl ⟨by rfl, ?_⟩) (by assumption) ?_
    rotate_left
    · intro w hSw; (try dsimp only at hSw); go_simp <;> first | with_reducible rfl | (rw [if_neg (by first | omega | (simp only [ByteArray.size_append] at *; omega))])
    simp only [Act.put, List.setIfInBounds_toArray, List.set_cons_zero, List.set_cons_succ]
    refine wpAnyH_take (i := 4) (oi := { dst := some 49, op := Go.Op.load 30 (Go.Operand.tmp 48), type := 30, pos := _, after := #[{ on := 3, ground := Go.Ground.data }], guard := none }) (v := ?_) rfl (by kernel_rfl) (by kernel_rfl) (by kernel_rfl) (fun _ _ _ h => h) (Or.inl ⟨by rfl, ?_⟩) (by assumption) ?_
    rotate_left
    · intro w hSw; (try dsimp only at hSw); go_simp <;> first | with_reducible rfl | (rw [if_neg (by first | omega | (simp only [ByteArray.size_append] at *; omega))])
    simp only [Act.put, List.setIfInBounds_toArray, List.set_cons_zero, List.set_cons_succ]
    refine wpAnyH_take (i := 5) (oi := { dst := some 50, op := Go.Op.move (Go.Operand.tmp 2), type := 3, pos := _, after := #[], guard := none }) (v := ?_) rfl (by kernel_rfl) (by kernel_rfl) (by kernel_rfl) (fun _ _ _ h => h) (Or.inl ⟨by rfl, ?_⟩) (by assumption) ?_
    rotate_left
    · intro w hSw; (try dsimp only at hSw); go_simp <;> first | with_reducible rfl | (rw [if_neg (by first | omega | (simp only [ByteArray.size_append] at *; omega))])
    simp only [Act.put, List.setIfInBounds_toArray, List.set_cons_zero, List.set_cons_succ]
    refine wpAnyH_take (i := 6) (oi := { dst := some 51, op := Go.Op.binOp Go.BinOp.quo 3 (Go.Operand.tmp 50) (Go.Operand.const (Go.Value.int Go.IntKind.i64 2)) 3, type := 3, pos := _, after := #[{ on := 5, ground := Go.Ground.data }], guard := none }) (v := ?_) rfl (by kernel_rfl) (by kernel_rfl) (by kernel_rfl) (fun _ _ _ h => h) (Or.inl ⟨by rfl, ?_⟩) (by assumption) ?_
    rotate_left
    · intro w hSw; (try dsimp only at hSw); go_simp <;> first | with_reducible rfl | (rw [if_neg (by first | omega | (simp only [ByteArray.size_append] at *; omega))])
    simp only [Act.put, List.setIfInBounds_toArray, List.set_cons_zero, List.set_cons_succ]
    refine wpAnyH_ready (rs := [7, 11]) (by kernel_rfl) (by simp) ?_
    refine AllReadyH.cons (o := { dst := some 52, op := Go.Op.call { callee := Go.Callee.value (Go.Operand.func 22), args := #[Go.Operand.tmp 45, Go.Operand.tmp 49, Go.Operand.tmp 51], argTypes := #[26, 30, 3] }, type := 48, pos := _, after := #[{ on := 0, ground := Go.Ground.data }, { on := 4, ground := Go.Ground.data }, { on := 6, ground := Go.Ground.data }], guard := none }) rfl (fun K hK => ?_) (AllReadyH.cons (o := { dst := some 12, op := Go.Op.alloc 30, type := 0, pos := _, after := #[], guard := none }) rfl (fun K hK => ?_) AllReadyH.nil)
    · go_simp
      refine (ihy.out W3.drew (bstep HB.out (M3.out.below.drew))).mono ?_
      rintro e w4 ⟨s4, rfl, hb4', hst4⟩
      have hb4 : Below W3.heap.size W3 w4 := (Below.refl _ _).drew.trans (hb4'.mono (by simp))
      have M4 := hid (M3.out.later hb4)
      have st4 := hst4 w4 (bstep (bstep HB.out M3.out.below) hb4) (fun _ _ _ => rfl)
      obtain ⟨a4, c4, _, rfl, _⟩ := st4.out
      obtain ⟨t0, t1, t2, t3⟩ := row4p M4.out.one
      have HX4 := hid hst4
      go_wp2_with fail
      refine hK.out _ _ ?_ (fun hHeld1 => ?_)
      · exact ⟨t0, t1, t2, t3, cell_kept y0 hb4, cell_kept y1 hb4, cell_kept y2 hb4, cell_kept y3 hb4⟩
      clear hK K
      refine wpAnyH_take (i := 8) (oi := { dst := some 44, op := Go.Op.move (Go.Operand.tmp 52), type := 48, pos := _, after := #[{ on := 7, ground := Go.Ground.data }], guard := none }) (v := ?_) rfl (by kernel_rfl) (by kernel_rfl) (by kernel_rfl) (fun _ _ _ h => h) (Or.inl ⟨by rfl, ?_⟩) (by assumption) ?_
      rotate_left
      · intro w hSw; (try dsimp only at hSw); go_simp <;> first | with_reducible rfl | (rw [if_neg (by first | omega | (simp only [ByteArray.size_append] at *; omega))])
      simp only [Act.put, List.setIfInBounds_toArray, List.set_cons_zero, List.set_cons_succ]
      refine wpAnyH_take (i := 9) (oi := { dst := some 53, op := Go.Op.extract (Go.Operand.tmp 44) 0, type := 30, pos := _, after := #[{ on := 8, ground := Go.Ground.data }], guard := none }) (v := ?_) rfl (by kernel_rfl) (by kernel_rfl) (by kernel_rfl) (fun _ _ _ h => h) (Or.inl ⟨by rfl, ?_⟩) (by assumption) ?_
      rotate_left
      · intro w hSw; (try dsimp only at hSw); go_simp <;> first | with_reducible rfl | (rw [if_neg (by first | omega | (simp only [ByteArray.size_append] at *; omega))])
      simp only [Act.put, List.setIfInBounds_toArray, List.set_cons_zero, List.set_cons_succ]
      refine wpAnyH_take (i := 10) (oi := { dst := some 54, op := Go.Op.extract (Go.Operand.tmp 44) 1, type := 4, pos := _, after := #[{ on := 8, ground := Go.Ground.data }, { on := 12, ground := Go.Ground.gcOnly Go.Departure.lateStores }], guard := none }) (v := ?_) rfl (by kernel_rfl) (by kernel_rfl) (by kernel_rfl) (fun _ _ _ h => h) (Or.inl ⟨by rfl, ?_⟩) (by assumption) ?_
      rotate_left
      · intro w hSw; (try dsimp only at hSw); go_simp <;> first | with_reducible rfl | (rw [if_neg (by first | omega | (simp only [ByteArray.size_append] at *; omega))])
      simp only [Act.put, List.setIfInBounds_toArray, List.set_cons_zero, List.set_cons_succ]
      refine wpAnyH_ready (rs := [11]) (by kernel_rfl) (by simp) ?_
      refine AllReadyH.cons (o := { dst := some 12, op := Go.Op.alloc 30, type := 0, pos := _, after := #[], guard := none }) rfl (fun K hK => ?_) AllReadyH.nil
      go_simp
      go_wp2_with fail
      have BZ := hid ((Below.refl w4.heap.size w4).alloc (Nat.le_refl _) (.cells #[.int .u8 0, .int .i64 0, .string ⟨#[]⟩, .slice none 0 0] 30))
      have hb5 := bstep hb4 BZ.out
      have M5 := hid (M3.out.later hb5)
      obtain ⟨t0, t1, t2, t3⟩ := row4p M5.out.one
      refine hK.out _ _ ?_ (fun hHeld2 => ?_)
      · exact ⟨t0, t1, t2, t3, cell_kept y0 hb5, cell_kept y1 hb5, cell_kept y2 hb5, cell_kept y3 hb5⟩
      clear hK K
      refine wpAnyH_ready (rs := [12]) (by kernel_rfl) (by simp) ?_
      refine AllReadyH.cons (o := { dst := none, op := Go.Op.store 30 (Go.Operand.tmp 12) (Go.Operand.tmp 53), type := 0, pos := _, after := #[{ on := 11, ground := Go.Ground.data }, { on := 9, ground := Go.Ground.data }, { on := 7, ground := Go.Ground.chain }, { on := 0, ground := Go.Ground.phase }, { on := 1, ground := Go.Ground.phase }, { on := 2, ground := Go.Ground.phase }, { on := 3, ground := Go.Ground.phase }, { on := 4, ground := Go.Ground.phase }, { on := 5, ground := Go.Ground.phase }, { on := 6, ground := Go.Ground.phase }, { on := 7, ground := Go.Ground.phase }, { on := 8, ground := Go.Ground.phase }, { on := 9, ground := Go.Ground.phase }, { on := 10, ground := Go.Ground.textOnly Go.Departure.lateStores }, { on := 11, ground := Go.Ground.phase }], guard := none }) rfl (fun K hK => ?_) AllReadyH.nil
      refine if_take (by rfl) ?_
      refine wp_store_row 30 _ _ rfl w4.heap.size #[.int .u8 (z.op : Int), .int .i64 z.n, .string z.name, .slice a4 z.args.length c4] rfl rfl 30 _ (heap_alloc_new w4 _) info30 rfl (by simp [Value.oneCell']) ?_
      have hlt4 := (M4.out.row.lt g3 rfl)
      have hw4 := (Array.getElem?_eq_some_iff.1 M4.out.three).1
      have hW3 := (Array.getElem?_eq_some_iff.1 M3.out.three).1
      have hs4 := hb4.size
      have M8' := Mid.of_store (z := z) (a4 := a4) (c4 := c4) (yb := w4.heap.size) (w0 := w0) M5.out (heap_alloc_new w4 _) (by omega) (by intro e; have e' : some g3 = some w4.heap.size := e; injection e' with e'; omega) (fun V hV hb => hst4 V hV (fun c h1 h2 => by
        have h1' : W3.heap.size ≤ c := by simpa using h1
        rw [hb c (by omega) (by simp; omega) (by omega) (by intro e; have e' : some c = some g3 := e; injection e' with e'; have := (M3.out.row.lt g3 rfl).2; omega), Below.heap_alloc _ _ _ h2]))
      refine hK.out _ _ ?_ (fun hHeld3 => ?_)
      · have M8 := M8'
        obtain ⟨t0, t1, t2, t3⟩ := row4p M8.one
        exact ⟨t0, t1, t2, t3, M8.at4 hpl HQ.out hk⟩
      clear hK K
      refine wpAnyH_take (i := 13) (oi := { dst := some 13, op := Go.Op.assign (Go.Operand.tmp 54), type := 4, pos := _, after := #[{ on := 10, ground := Go.Ground.data }, { on := 12, ground := Go.Ground.chain }, { on := 0, ground := Go.Ground.phase }, { on := 1, ground := Go.Ground.phase }, { on := 2, ground := Go.Ground.phase }, { on := 3, ground := Go.Ground.phase }, { on := 4, ground := Go.Ground.phase }, { on := 5, ground := Go.Ground.phase }, { on := 6, ground := Go.Ground.phase }, { on := 7, ground := Go.Ground.phase }, { on := 8, ground := Go.Ground.phase }, { on := 9, ground := Go.Ground.phase }, { on := 10, ground := Go.Ground.phase }, { on := 11, ground := Go.Ground.phase }, { on := 12, ground := Go.Ground.phase }], guard := none }) (v := ?_) rfl (by kernel_rfl) (by kernel_rfl) (by kernel_rfl) (fun _ _ _ h => h) (Or.inl ⟨by rfl, ?_⟩) (by assumption) ?_
      rotate_left
      · intro w hSw; (try dsimp only at hSw); go_simp <;> first | with_reducible rfl | (rw [if_neg (by first | omega | (simp only [ByteArray.size_append] at *; omega))])
      simp only [Act.put, List.setIfInBounds_toArray, List.set_cons_zero, List.set_cons_succ]
      refine wpAnyH_done (by kernel_rfl) ?_ _
      have M8 := hid M8'
      clear M8' hlt4 hw4 hW3 hs4 hst4 hb4 hb4' hb5 BZ M4 M5 t0 t1 t2 t3 y0 y1 y2 y3 st4 HX4
      generalize (w4.alloc (.cells #[.int .u8 0, .int .i64 0, .string ⟨#[]⟩, .slice none 0 0] 30)).setRow w4.heap.size #[.int .u8 (z.op : Int), .int .i64 z.n, .string z.name, .slice a4 z.args.length c4] = W5 at *
      generalize w4.heap.size = yb at *
      have f3 := frozen_of_row W5 (w.heap.size + 1) 3 _ 30 M8.out.two
      obtain ⟨z0, z1, z2, z3⟩ := row4e M8.out.yrow
      have TH := there4 M8.out.row hpl hk
      go_wp2_with (first
        | (refine wpList_store_mid rfl 30 _ _ rfl g3 (k * 4) #[.int .u8 (z.op : Int), .int .i64 z.n, .string z.name, .slice a4 z.args.length c4] rfl rfl TH info30 (by simp [Value.oneCell']) ?_; have F6 := M8.out.set' (k := k) HST.out hpl.symm hk; generalize (W5.setCells g3 (k * 4) (#[.int .u8 (z.op : Int), .int .i64 z.n, .string z.name, .slice a4 z.args.length c4] : Array Value).toList) = W6 at *; have M9 := hid F6; have x3 : W6.cell? ⟨w.heap.size + 1, 3, none⟩ = some (.slice (some ⟨b, o, none⟩) x.args.length cap) := (by rw [cell_of_row _ _ _ _ 30 (0, 0) M9.out.two]; rfl); have f6 := frozen_of_row W6 (w.heap.size + 1) 3 _ 30 M9.out.two; have hX5 := heap_setCell_same W6 (w.heap.size + 1) 3 _ 30 (.slice (some ⟨g3, 0, none⟩) x.args.length c3) M9.out.two; have hY5 : (W6.setCell ⟨w.heap.size + 1, 3, none⟩ (.slice (some ⟨g3, 0, none⟩) x.args.length c3)).heap[w.heap.size + 1 + 1]? = some (.cells #[.int .u8 0, .int .i64 0, .string ⟨#[]⟩, .slice none 0 0] 30 (0, 0)) := (by rw [Below.heap_setCell _ _ _ _ (by show w.heap.size + 1 + 1 ≠ w.heap.size + 1; omega)]; exact M9.out.three); clear TH z0 z1 z2 z3 f3)
        | (refine wpList_load_row rfl 30 _ rfl (w.heap.size + 1) rfl 30 #[.int .u8 (x.op : Int), .int .i64 x.n, .string x.name, .slice (some ⟨g3, 0, none⟩) x.args.length c3] (0, 0) _ hX5 Tryd.underlying30 rfl info30 ?_)
        | (refine wpList_store_row rfl 30 _ _ rfl (w.heap.size + 1 + 1) #[.int .u8 (x.op : Int), .int .i64 x.n, .string x.name, .slice (some ⟨g3, 0, none⟩) x.args.length c3] rfl rfl 30 _ hY5 info30 rfl (by simp [Value.oneCell']) ?_))
      have D5 := M9.out.done (d' := #[.int .u8 (x.op : Int), .int .i64 x.n, .string x.name, .slice (some ⟨g3, 0, none⟩) x.args.length c3]) hop HN.out hnm (by rw [List.length_set]; omega)
      rw [HM2.out] at D5
      exact bodyPost_ret (results_row_tmp rfl _ _ (w.heap.size + 1 + 1) #[.int .u8 (x.op : Int), .int .i64 x.n, .string x.name, .slice (some ⟨g3, 0, none⟩) x.args.length c3] rfl (run_loadVar_row _ _ 30 30 #[.int .u8 (x.op : Int), .int .i64 x.n, .string x.name, .slice (some ⟨g3, 0, none⟩) x.args.length c3] (0, 0) _ (setRow_heap _ _ _ _ _ _ hY5) Tryd.underlying30 rfl info30)) rfl ⟨_, rfl, D5.1, D5.2⟩
    · go_simp
      go_wp2_with fail
      have BZ := hid ((Below.refl W3.heap.size W3).drew.trans (((Below.refl W3.drew.heap.size W3.drew).alloc (Nat.le_refl _) (.cells #[.int .u8 0, .int .i64 0, .string ⟨#[]⟩, .slice none 0 0] 30)).mono (by simp)))
      have M5 := hid (M3.out.later BZ.out)
      have R5 : Hid ((W3.drew.alloc (.cells #[.int .u8 0, .int .i64 0, .string ⟨#[]⟩, .slice none 0 0] 30)).heap[W3.heap.size]? = some (.cells #[.int .u8 0, .int .i64 0, .string ⟨#[]⟩, .slice none 0 0] 30 (0, 0))) := hid (push_new _ _ _ (by simp))
      obtain ⟨t0, t1, t2, t3⟩ := row4p M5.out.one
      refine hK.out _ _ ?_ (fun hHeld1 => ?_)
      · exact ⟨t0, t1, t2, t3, cell_kept y0 BZ.out, cell_kept y1 BZ.out, cell_kept y2 BZ.out, cell_kept y3 BZ.out⟩
      clear hK K
      refine wpAnyH_ready (rs := [7]) (by kernel_rfl) (by simp) ?_
      refine AllReadyH.cons (o := { dst := some 52, op := Go.Op.call { callee := Go.Callee.value (Go.Operand.func 22), args := #[Go.Operand.tmp 45, Go.Operand.tmp 49, Go.Operand.tmp 51], argTypes := #[26, 30, 3] }, type := 48, pos := _, after := #[{ on := 0, ground := Go.Ground.data }, { on := 4, ground := Go.Ground.data }, { on := 6, ground := Go.Ground.data }], guard := none }) rfl (fun K hK => ?_) AllReadyH.nil
      go_simp
      refine (ihy.out _ (bstep (bstep HB.out M3.out.below) BZ.out)).mono ?_
      rintro e w4 ⟨s4, rfl, hb4', hst4⟩
      have hb4 : Below W3.heap.size W3 w4 := bstep BZ.out hb4'
      have M4 := hid (M3.out.later hb4)
      have R4 := hid (keep_row R5.out hb4')
      have st4 := hst4 w4 (bstep (bstep HB.out M3.out.below) hb4) (fun _ _ _ => rfl)
      obtain ⟨a4, c4, _, rfl, _⟩ := st4.out
      obtain ⟨t0, t1, t2, t3⟩ := row4p M4.out.one
      go_wp2_with fail
      refine hK.out _ _ ?_ (fun hHeld2 => ?_)
      · exact ⟨t0, t1, t2, t3, cell_kept y0 hb4, cell_kept y1 hb4, cell_kept y2 hb4, cell_kept y3 hb4⟩
      clear hK K
      refine wpAnyH_take (i := 8) (oi := { dst := some 44, op := Go.Op.move (Go.Operand.tmp 52), type := 48, pos := _, after := #[{ on := 7, ground := Go.Ground.data }], guard := none }) (v := ?_) rfl (by kernel_rfl) (by kernel_rfl) (by kernel_rfl) (fun _ _ _ h => h) (Or.inl ⟨by rfl, ?_⟩) (by assumption) ?_
      rotate_left
      · intro w hSw; (try dsimp only at hSw); go_simp <;> first | with_reducible rfl | (rw [if_neg (by first | omega | (simp only [ByteArray.size_append] at *; omega))])
      simp only [Act.put, List.setIfInBounds_toArray, List.set_cons_zero, List.set_cons_succ]
      refine wpAnyH_take (i := 9) (oi := { dst := some 53, op := Go.Op.extract (Go.Operand.tmp 44) 0, type := 30, pos := _, after := #[{ on := 8, ground := Go.Ground.data }], guard := none }) (v := ?_) rfl (by kernel_rfl) (by kernel_rfl) (by kernel_rfl) (fun _ _ _ h => h) (Or.inl ⟨by rfl, ?_⟩) (by assumption) ?_
      rotate_left
      · intro w hSw; (try dsimp only at hSw); go_simp <;> first | with_reducible rfl | (rw [if_neg (by first | omega | (simp only [ByteArray.size_append] at *; omega))])
      simp only [Act.put, List.setIfInBounds_toArray, List.set_cons_zero, List.set_cons_succ]
      refine wpAnyH_take (i := 10) (oi := { dst := some 54, op := Go.Op.extract (Go.Operand.tmp 44) 1, type := 4, pos := _, after := #[{ on := 8, ground := Go.Ground.data }, { on := 12, ground := Go.Ground.gcOnly Go.Departure.lateStores }], guard := none }) (v := ?_) rfl (by kernel_rfl) (by kernel_rfl) (by kernel_rfl) (fun _ _ _ h => h) (Or.inl ⟨by rfl, ?_⟩) (by assumption) ?_
      rotate_left
      · intro w hSw; (try dsimp only at hSw); go_simp <;> first | with_reducible rfl | (rw [if_neg (by first | omega | (simp only [ByteArray.size_append] at *; omega))])
      simp only [Act.put, List.setIfInBounds_toArray, List.set_cons_zero, List.set_cons_succ]
      refine wpAnyH_ready (rs := [12]) (by kernel_rfl) (by simp) ?_
      refine AllReadyH.cons (o := { dst := none, op := Go.Op.store 30 (Go.Operand.tmp 12) (Go.Operand.tmp 53), type := 0, pos := _, after := #[{ on := 11, ground := Go.Ground.data }, { on := 9, ground := Go.Ground.data }, { on := 7, ground := Go.Ground.chain }, { on := 0, ground := Go.Ground.phase }, { on := 1, ground := Go.Ground.phase }, { on := 2, ground := Go.Ground.phase }, { on := 3, ground := Go.Ground.phase }, { on := 4, ground := Go.Ground.phase }, { on := 5, ground := Go.Ground.phase }, { on := 6, ground := Go.Ground.phase }, { on := 7, ground := Go.Ground.phase }, { on := 8, ground := Go.Ground.phase }, { on := 9, ground := Go.Ground.phase }, { on := 10, ground := Go.Ground.textOnly Go.Departure.lateStores }, { on := 11, ground := Go.Ground.phase }], guard := none }) rfl (fun K hK => ?_) AllReadyH.nil
      refine if_take (by rfl) ?_
      refine wp_store_row 30 _ _ rfl W3.heap.size #[.int .u8 (z.op : Int), .int .i64 z.n, .string z.name, .slice a4 z.args.length c4] rfl rfl 30 _ R4.out info30 rfl (by simp [Value.oneCell']) ?_
      have hlt4 := (M4.out.row.lt g3 rfl)
      have hlt3 := (M3.out.row.lt g3 rfl)
      have hW3 := (Array.getElem?_eq_some_iff.1 M3.out.three).1
      have M8' := Mid.of_store (z := z) (a4 := a4) (c4 := c4) (yb := W3.heap.size) (w0 := w0) M4.out R4.out (by omega) (by intro e; have e' : some g3 = some W3.heap.size := e; injection e' with e'; omega) (fun V hV hb => hst4 V hV (fun c h1 h2 => by
        have h1' : W3.heap.size + 1 ≤ c := by simpa using h1
        rw [hb c (by omega) (by omega) (by omega) (by intro e; have e' : some c = some g3 := e; injection e' with e'; omega)]))
      refine hK.out _ _ ?_ (fun hHeld3 => ?_)
      · have M8 := M8'
        obtain ⟨t0, t1, t2, t3⟩ := row4p M8.one
        exact ⟨t0, t1, t2, t3, M8.at4 hpl HQ.out hk⟩
      clear hK K
      refine wpAnyH_take (i := 13) (oi := { dst := some 13, op := Go.Op.assign (Go.Operand.tmp 54), type := 4, pos := _, after := #[{ on := 10, ground := Go.Ground.data }, { on := 12, ground := Go.Ground.chain }, { on := 0, ground := Go.Ground.phase }, { on := 1, ground := Go.Ground.phase }, { on := 2, ground := Go.Ground.phase }, { on := 3, ground := Go.Ground.phase }, { on := 4, ground := Go.Ground.phase }, { on := 5, ground := Go.Ground.phase }, { on := 6, ground := Go.Ground.phase }, { on := 7, ground := Go.Ground.phase }, { on := 8, ground := Go.Ground.phase }, { on := 9, ground := Go.Ground.phase }, { on := 10, ground := Go.Ground.phase }, { on := 11, ground := Go.Ground.phase }, { on := 12, ground := Go.Ground.phase }], guard := none }) (v := ?_) rfl (by kernel_rfl) (by kernel_rfl) (by kernel_rfl) (fun _ _ _ h => h) (Or.inl ⟨by rfl, ?_⟩) (by assumption) ?_
      rotate_left
      · intro w hSw; (try dsimp only at hSw); go_simp <;> first | with_reducible rfl | (rw [if_neg (by first | omega | (simp only [ByteArray.size_append] at *; omega))])
      simp only [Act.put, List.setIfInBounds_toArray, List.set_cons_zero, List.set_cons_succ]
      refine wpAnyH_done (by kernel_rfl) ?_ _
      have M8 := hid M8'
      clear M8' hlt4 hlt3 hW3 hst4 hb4 hb4' BZ M4 M5 R4 R5 t0 t1 t2 t3 y0 y1 y2 y3 st4
      generalize w4.setRow W3.heap.size #[.int .u8 (z.op : Int), .int .i64 z.n, .string z.name, .slice a4 z.args.length c4] = W5 at *
      generalize W3.heap.size = yb at *
      have f3 := frozen_of_row W5 (w.heap.size + 1) 3 _ 30 M8.out.two
      obtain ⟨z0, z1, z2, z3⟩ := row4e M8.out.yrow
      have TH := there4 M8.out.row hpl hk
      go_wp2_with (first
        | (refine wpList_store_mid rfl 30 _ _ rfl g3 (k * 4) #[.int .u8 (z.op : Int), .int .i64 z.n, .string z.name, .slice a4 z.args.length c4] rfl rfl TH info30 (by simp [Value.oneCell']) ?_; have F6 := M8.out.set' (k := k) HST.out hpl.symm hk; generalize (W5.setCells g3 (k * 4) (#[.int .u8 (z.op : Int), .int .i64 z.n, .string z.name, .slice a4 z.args.length c4] : Array Value).toList) = W6 at *; have M9 := hid F6; have x3 : W6.cell? ⟨w.heap.size + 1, 3, none⟩ = some (.slice (some ⟨b, o, none⟩) x.args.length cap) := (by rw [cell_of_row _ _ _ _ 30 (0, 0) M9.out.two]; rfl); have f6 := frozen_of_row W6 (w.heap.size + 1) 3 _ 30 M9.out.two; have hX5 := heap_setCell_same W6 (w.heap.size + 1) 3 _ 30 (.slice (some ⟨g3, 0, none⟩) x.args.length c3) M9.out.two; have hY5 : (W6.setCell ⟨w.heap.size + 1, 3, none⟩ (.slice (some ⟨g3, 0, none⟩) x.args.length c3)).heap[w.heap.size + 1 + 1]? = some (.cells #[.int .u8 0, .int .i64 0, .string ⟨#[]⟩, .slice none 0 0] 30 (0, 0)) := (by rw [Below.heap_setCell _ _ _ _ (by show w.heap.size + 1 + 1 ≠ w.heap.size + 1; omega)]; exact M9.out.three); clear TH z0 z1 z2 z3 f3)
        | (refine wpList_load_row rfl 30 _ rfl (w.heap.size + 1) rfl 30 #[.int .u8 (x.op : Int), .int .i64 x.n, .string x.name, .slice (some ⟨g3, 0, none⟩) x.args.length c3] (0, 0) _ hX5 Tryd.underlying30 rfl info30 ?_)
        | (refine wpList_store_row rfl 30 _ _ rfl (w.heap.size + 1 + 1) #[.int .u8 (x.op : Int), .int .i64 x.n, .string x.name, .slice (some ⟨g3, 0, none⟩) x.args.length c3] rfl rfl 30 _ hY5 info30 rfl (by simp [Value.oneCell']) ?_))
      have D5 := M9.out.done (d' := #[.int .u8 (x.op : Int), .int .i64 x.n, .string x.name, .slice (some ⟨g3, 0, none⟩) x.args.length c3]) hop HN.out hnm (by rw [List.length_set]; omega)
      rw [HM2.out] at D5
      exact bodyPost_ret (results_row_tmp rfl _ _ (w.heap.size + 1 + 1) #[.int .u8 (x.op : Int), .int .i64 x.n, .string x.name, .slice (some ⟨g3, 0, none⟩) x.args.length c3] rfl (run_loadVar_row _ _ 30 30 #[.int .u8 (x.op : Int), .int .i64 x.n, .string x.name, .slice (some ⟨g3, 0, none⟩) x.args.length c3] (0, 0) _ (setRow_heap _ _ _ _ _ _ hY5) Tryd.underlying30 rfl info30)) rfl ⟨_, rfl, D5.1, D5.2⟩
theorem ch_zero (p : Pg) : ChC p 0 := by
  intro x way w0 w s A B C hf hwy hz hP hR hJ hS hB
  obtain ⟨ao, cap, _, rfl, _⟩ := hS.out
  exact ch_leaf p x way w0 w ao cap A B C hz hP hR hJ hS hB (.inr (by omega)) hwy
/-- changed. -/
theorem ch_all (p : Pg) : ∀ f, ChC p f
  | 0 => ch_zero p
  | f + 1 => ch_step p f (ch_all p f)
end Go.Proofs.YtakjkhfglihggaaDoor.Lex
namespace Go.Proofs.YtakjkhfglihggaaDoor.Lex
theorem nat_c {n : Int} (h : (Lit.int .u8 n).wf = true) : ∃ k : Nat, k < 256 ∧ n = (k : Int) := by
  simp [Lit.wf, IntKind.min, IntKind.max, IntKind.signed, IntKind.bits] at h
  exact ⟨n.toNat, by omega, by omega⟩
end Go.Proofs.YtakjkhfglihggaaDoor.Lex
namespace Go.Proofs.YtakjkhfglihggaaDoor.Lex
open Go.ChangeShapes Go.WideShapes Go.ChangeAt Go.RowKit Go.Joins
abbrev exA : Ex := ⟨3, 0, ⟨#[97]⟩, []⟩
abbrev exB : Ex := ⟨3, 0, ⟨#[98]⟩, []⟩
abbrev exC : Ex := ⟨3, 0, ⟨#[99]⟩, []⟩
abbrev exD : Ex := ⟨2, 0, ⟨#[]⟩, []⟩
abbrev exZ : Ex := ⟨0, 0, ⟨#[]⟩, []⟩
theorem st_leaf (W : World) (x : Ex) (ha : x.args = []) (ho : x.op < 256) (hn : -9223372036854775808 ≤ x.n ∧ x.n ≤ 9223372036854775807) (hs : x.name.size ≤ 140737488355328) : St W x N0 := by
  obtain ⟨op, n, nm, args⟩ := x
  subst ha
  exact St.intro ⟨op, n, nm, []⟩ none 0 (fun _ => N0) ho hn hs (by simp) (by simp) (.inl rfl) (fun i hi => absurd hi (Nat.not_lt_zero i))
theorem stA (W : World) : St W exA N0 := st_leaf W exA rfl (by decide) (by decide) (by show (1 : Nat) ≤ _; omega)
theorem stB (W : World) : St W exB N0 := st_leaf W exB rfl (by decide) (by decide) (by show (1 : Nat) ≤ _; omega)
theorem stC (W : World) : St W exC N0 := st_leaf W exC rfl (by decide) (by decide) (by show (1 : Nat) ≤ _; omega)
theorem stD (W : World) : St W exD N0 := st_leaf W exD rfl (by decide) (by decide) (by show (0 : Nat) ≤ _; omega)
theorem stZ (W : World) : St W exZ N0 := st_leaf W exZ rfl (by decide) (by decide) (by show (0 : Nat) ≤ _; omega)
theorem st1 (W : World) (op : Nat) (x : Ex) (s : Value) (ho : op < 256) (hx : St W x s) : St (W.alloc (.cells #[.int .u8 (x.op : Int), .int .i64 x.n, .string x.name, s] 30)) ⟨op, 0, ⟨#[]⟩, [x]⟩ (.slice (some ⟨W.heap.size, 0, none⟩) 1 1) := by
  have hb := (Below.refl W.heap.size W).alloc (Nat.le_refl _) (.cells #[.int .u8 (x.op : Int), .int .i64 x.n, .string x.name, s] 30)
  have hr := heap_alloc_new W (.cells #[.int .u8 (x.op : Int), .int .i64 x.n, .string x.name, s] 30)
  refine St.intro ⟨op, 0, ⟨#[]⟩, [x]⟩ _ 1 (fun _ => s) ho ⟨by show (-9223372036854775808 : Int) ≤ 0; omega, by show (0 : Int) ≤ _; omega⟩ (by show (0 : Nat) ≤ _; omega) (by simp) (by simp) (.inr ⟨W.heap.size, 0, rfl, fun i hi => ?_⟩) (fun i hi => ?_)
  · have hi1 : i < 1 := hi
    obtain rfl : i = 0 := by omega
    refine ⟨?_, ?_, ?_, ?_⟩ <;> (rw [cell_of_row _ _ _ _ 30 (0, 0) hr]; rfl)
  · have hi1 : i < 1 := hi
    obtain rfl : i = 0 := by omega
    exact hx.keep hb
theorem st2 (W : World) (op : Nat) (x y : Ex) (s t : Value) (ho : op < 256) (hx : St W x s) (hy : St W y t) : St (W.alloc (.cells #[.int .u8 (x.op : Int), .int .i64 x.n, .string x.name, s, .int .u8 (y.op : Int), .int .i64 y.n, .string y.name, t] 30)) ⟨op, 0, ⟨#[]⟩, [x, y]⟩ (.slice (some ⟨W.heap.size, 0, none⟩) 2 2) := by
  have hb := (Below.refl W.heap.size W).alloc (Nat.le_refl _) (.cells #[.int .u8 (x.op : Int), .int .i64 x.n, .string x.name, s, .int .u8 (y.op : Int), .int .i64 y.n, .string y.name, t] 30)
  have hr := heap_alloc_new W (.cells #[.int .u8 (x.op : Int), .int .i64 x.n, .string x.name, s, .int .u8 (y.op : Int), .int .i64 y.n, .string y.name, t] 30)
  refine St.intro ⟨op, 0, ⟨#[]⟩, [x, y]⟩ _ 2 (fun i => if i = 0 then s else t) ho ⟨by show (-9223372036854775808 : Int) ≤ 0; omega, by show (0 : Int) ≤ _; omega⟩ (by show (0 : Nat) ≤ _; omega) (by simp) (by simp) (.inr ⟨W.heap.size, 0, rfl, fun i hi => ?_⟩) (fun i hi => ?_)
  · have hi1 : i < 2 := hi
    rcases (by omega : i = 0 ∨ i = 1) with rfl | rfl <;> refine ⟨?_, ?_, ?_, ?_⟩ <;> (rw [cell_of_row _ _ _ _ 30 (0, 0) hr]; rfl)
  · have hi1 : i < 2 := hi
    rcases (by omega : i = 0 ∨ i = 1) with rfl | rfl
    · exact hx.keep hb
    · exact hy.keep hb
theorem st3 (W : World) (op : Nat) (x y z : Ex) (s t u : Value) (ho : op < 256) (hx : St W x s) (hy : St W y t) (hz : St W z u) : St (W.alloc (.cells #[.int .u8 (x.op : Int), .int .i64 x.n, .string x.name, s, .int .u8 (y.op : Int), .int .i64 y.n, .string y.name, t, .int .u8 (z.op : Int), .int .i64 z.n, .string z.name, u] 30)) ⟨op, 0, ⟨#[]⟩, [x, y, z]⟩ (.slice (some ⟨W.heap.size, 0, none⟩) 3 3) := by
  have hb := (Below.refl W.heap.size W).alloc (Nat.le_refl _) (.cells #[.int .u8 (x.op : Int), .int .i64 x.n, .string x.name, s, .int .u8 (y.op : Int), .int .i64 y.n, .string y.name, t, .int .u8 (z.op : Int), .int .i64 z.n, .string z.name, u] 30)
  have hr := heap_alloc_new W (.cells #[.int .u8 (x.op : Int), .int .i64 x.n, .string x.name, s, .int .u8 (y.op : Int), .int .i64 y.n, .string y.name, t, .int .u8 (z.op : Int), .int .i64 z.n, .string z.name, u] 30)
  refine St.intro ⟨op, 0, ⟨#[]⟩, [x, y, z]⟩ _ 3 (fun i => if i = 0 then s else if i = 1 then t else u) ho ⟨by show (-9223372036854775808 : Int) ≤ 0; omega, by show (0 : Int) ≤ _; omega⟩ (by show (0 : Nat) ≤ _; omega) (by simp) (by simp) (.inr ⟨W.heap.size, 0, rfl, fun i hi => ?_⟩) (fun i hi => ?_)
  · have hi1 : i < 3 := hi
    rcases (by omega : i = 0 ∨ i = 1 ∨ i = 2) with rfl | rfl | rfl <;> refine ⟨?_, ?_, ?_, ?_⟩ <;> (rw [cell_of_row _ _ _ _ 30 (0, 0) hr]; rfl)
  · have hi1 : i < 3 := hi
    rcases (by omega : i = 0 ∨ i = 1 ∨ i = 2) with rfl | rfl | rfl
    · exact hx.keep hb
    · exact hy.keep hb
    · exact hz.keep hb
def findD (l : List (Int × Hd)) (name : ByteArray) : Option (Int × Hd) := l.find? fun x => x.2.name.data.toList == name.data.toList
theorem findT_D (l : List (Int × Hd)) (name : ByteArray) : findT l name = findD l name := by
  unfold findT findD
  congr 1
  funext x
  rw [ByteArray.toList_eq, ByteArray.toList_eq]
theorem asks_D (p : Pg) (x : Ex) : asksAll p x = (gat 32 x 0 []).all fun r => (findD (thingsL p) r.1).isSome := by
  unfold asksAll
  congr 1
  funext r
  rw [findT_D]
theorem tyA : tyN smQ ⟨#[97]⟩ = 1 := by unfold tyN; rw [findT_D]; decide +kernel
theorem tyB : tyN smQ ⟨#[98]⟩ = 2 := by unfold tyN; rw [findT_D]; decide +kernel
theorem of_good (x : Ex) (t : Nat) (h1 : chk x = true) (h2 : ((gat 32 x 0 []).all fun r => (findD (thingsL smQ) r.1).isSome) = true) (h3 : tyE smQ x = t) (h4 : t ≠ 0) : ofV smQ x = (t, 0) := by
  unfold ofV
  rw [if_neg (by rw [h1]; simp), if_neg (by rw [asks_D, h2]; simp), h3, if_neg h4]
theorem of_bad (x : Ex) (h1 : chk x = true) (h2 : ((gat 32 x 0 []).all fun r => (findD (thingsL smQ) r.1).isSome) = true) (h3 : tyE smQ x = 0) : ofV smQ x = (0, 7) := by
  unfold ofV
  rw [if_neg (by rw [h1]; simp), if_neg (by rw [asks_D, h2]; simp), h3, if_pos rfl]
theorem t1 : ofV smQ ⟨6, 0, ⟨#[]⟩, [exA, exA]⟩ = (1, 0) := of_good _ 1 (by decide +kernel) (by decide +kernel) (by simp [tyE_eq, ruleT, tyA, com]) (by decide)
theorem t2 : ofV smQ ⟨16, 0, ⟨#[]⟩, [⟨13, 0, ⟨#[]⟩, [exA, exA]⟩, exB]⟩ = (2, 0) := of_good _ 2 (by decide +kernel) (by decide +kernel) (by simp [tyE_eq, ruleT, tyA, tyB, com]) (by decide)
theorem t3 : ofV smQ ⟨17, 0, ⟨#[]⟩, [exB, exA, ⟨4, 0, ⟨#[]⟩, [exA]⟩]⟩ = (1, 0) := of_good _ 1 (by decide +kernel) (by decide +kernel) (by simp [tyE_eq, ruleT, tyA, tyB, com]) (by decide)
theorem t4 : ofV smQ ⟨18, 0, ⟨#[]⟩, [exA, ⟨19, 0, ⟨#[]⟩, [exA]⟩]⟩ = (1, 0) := of_good _ 1 (by decide +kernel) (by decide +kernel) (by simp [tyE_eq, ruleT, tyA, com]) (by decide)
theorem t5 : ofV smQ ⟨11, 0, ⟨#[]⟩, [exB, exB]⟩ = (2, 0) := of_good _ 2 (by decide +kernel) (by decide +kernel) (by simp [tyE_eq, ruleT, tyB, com]) (by decide)
theorem t6 : ofV smQ ⟨6, 0, ⟨#[]⟩, [exA, exB]⟩ = (0, 7) := of_bad _ (by decide +kernel) (by decide +kernel) (by simp [tyE_eq, ruleT, tyA, tyB, com])
theorem t7 : ofV smQ ⟨11, 0, ⟨#[]⟩, [exA, exB]⟩ = (0, 7) := of_bad _ (by decide +kernel) (by decide +kernel) (by simp [tyE_eq, ruleT, tyA, tyB, com])
theorem t8 : ofV smQ ⟨6, 0, ⟨#[]⟩, [exC, exD]⟩ = (0, 6) := by
  have h1 : chk ⟨6, 0, ⟨#[]⟩, [exC, exD]⟩ = true := by decide +kernel
  unfold ofV
  rw [if_neg (by rw [h1]; simp), if_pos (by rw [asks_D]; decide +kernel)]
theorem t9 : ofV smQ exZ = (0, 1) := by
  have h1 : chk exZ = false := by decide +kernel
  unfold ofV
  rw [if_pos h1]
theorem ckS : ckV smQ = 0 := by decide +kernel
/-- A world that alive has come to. -/
structure AWv (w : World) (ka kb : Nat) (W : World) : Prop where
  ra : W.heap[ka]? = some (.cells #[.int .u8 3, .int .i64 0, .string ⟨#[97]⟩, .slice none 0 0] 30 (0, 0))
  rb : W.heap[kb]? = some (.cells #[.int .u8 3, .int .i64 0, .string ⟨#[98]⟩, .slice none 0 0] 30 (0, 0))
  R : TabR W
  J : TabJ W
  below : Below w.heap.size w W
theorem AWv.keep {w W W' : World} {ka kb : Nat} (h : AWv w ka kb W) (hb : Below W.heap.size W W') : AWv w ka kb W' := ⟨keep_row h.ra hb, keep_row h.rb hb, h.R.below hb, h.J.below hb, bstep h.below hb⟩
theorem AWv.drew {w W : World} {ka kb : Nat} (h : AWv w ka kb W) : AWv w ka kb W.drew := h.keep (Below.refl _ _).drew
theorem AWv.cells {w W : World} {ka kb : Nat} (h : AWv w ka kb W) : W.cell? ⟨ka, 0, none⟩ = some (.int .u8 3) ∧ W.cell? ⟨ka, 1, none⟩ = some (.int .i64 0) ∧ W.cell? ⟨ka, 2, none⟩ = some (.string ⟨#[97]⟩) ∧ W.cell? ⟨ka, 3, none⟩ = some (.slice none 0 0) ∧ W.cell? ⟨kb, 0, none⟩ = some (.int .u8 3) ∧ W.cell? ⟨kb, 1, none⟩ = some (.int .i64 0) ∧ W.cell? ⟨kb, 2, none⟩ = some (.string ⟨#[98]⟩) ∧ W.cell? ⟨kb, 3, none⟩ = some (.slice none 0 0) := by
  refine ⟨?_, ?_, ?_, ?_, ?_, ?_, ?_, ?_⟩ <;> first | (rw [cell_of_row _ _ _ _ 30 (0, 0) h.ra]; rfl) | (rw [cell_of_row _ _ _ _ 30 (0, 0) h.rb]; rfl)
set_option maxRecDepth 100000 in
set_option maxHeartbeats 8000000 in
theorem alive (w : World) (hR : TabR w) (hJ : TabJ w) : Calls Tryd.prog 19 #[] w fun e w' => e = .returned (.bool true) ∧ Below w.heap.size w w' := by
  have HT := hid (And.intro hR hJ)
  clear hR hJ
  go_enter Tryd.func19, Tryd.ntmps19
  go_wp2_with (fail)
  refine (name_at ⟨#[97]⟩ _).mono ?_
  rintro e w1 ⟨rfl, hb1⟩
  go_wp2_with (fail)
  refine (name_at ⟨#[98]⟩ _).mono ?_
  rintro e w2 ⟨rfl, hb2⟩
  have BB := bstep hb1 (bstep ((Below.refl w1.heap.size w1).alloc (Nat.le_refl _) (.cells #[.int .u8 3, .int .i64 0, .string ⟨#[97]⟩, .slice none 0 0] 30)) (bstep hb2 ((Below.refl w2.heap.size w2).alloc (Nat.le_refl _) (.cells #[.int .u8 3, .int .i64 0, .string ⟨#[98]⟩, .slice none 0 0] 30))))
  have L0 : Hid (AWv w w1.heap.size w2.heap.size (w2.alloc (.cells #[.int .u8 3, .int .i64 0, .string ⟨#[98]⟩, .slice none 0 0] 30))) := hid ⟨push_old (keep_row (heap_alloc_new w1 _) hb2), heap_alloc_new w2 _, HT.out.1.below BB, HT.out.2.below BB, BB⟩
  clear BB hb1 hb2
  go_wp2_with (fail)
  generalize w2.alloc (.cells #[.int .u8 3, .int .i64 0, .string ⟨#[98]⟩, .slice none 0 0] 30) = W0 at *
  generalize w1.heap.size = ka at *
  generalize w2.heap.size = kb at *
  simp only [List.append_eq, List.cons_append, List.nil_append]
  refine wp_region_held_drew (S := fun W => W.cell? ⟨ka, 0, none⟩ = some (.int .u8 3) ∧ W.cell? ⟨ka, 1, none⟩ = some (.int .i64 0) ∧ W.cell? ⟨ka, 2, none⟩ = some (.string ⟨#[97]⟩) ∧ W.cell? ⟨ka, 3, none⟩ = some (.slice none 0 0) ∧ W.cell? ⟨kb, 0, none⟩ = some (.int .u8 3) ∧ W.cell? ⟨kb, 1, none⟩ = some (.int .i64 0) ∧ W.cell? ⟨kb, 2, none⟩ = some (.string ⟨#[98]⟩) ∧ W.cell? ⟨kb, 3, none⟩ = some (.slice none 0 0)) (by kernel_rfl) ?_ (fun hHeld => ?_)
  · exact L0.out.drew.cells
  have K0 := hid L0.out.drew
  refine wpAnyH_take (i := 0) (oi := { dst := some 5, op := Go.Op.load 30 (Go.Operand.tmp 1), type := 30, pos := _, after := #[], guard := none }) (v := ?_) rfl (by kernel_rfl) (by kernel_rfl) (by kernel_rfl) (fun _ _ _ h => h) (Or.inl ⟨by rfl, ?_⟩) (by assumption) ?_
  rotate_left
  · intro w hSw; (try dsimp only at hSw); go_simp <;> first | with_reducible rfl | (rw [if_neg (by first | omega | (simp only [ByteArray.size_append] at *; omega))])
  simp only [Act.put, List.setIfInBounds_toArray, List.set_cons_zero, List.set_cons_succ]
  refine wpAnyH_take (i := 1) (oi := { dst := some 6, op := Go.Op.load 30 (Go.Operand.tmp 1), type := 30, pos := _, after := #[], guard := none }) (v := ?_) rfl (by kernel_rfl) (by kernel_rfl) (by kernel_rfl) (fun _ _ _ h => h) (Or.inl ⟨by rfl, ?_⟩) (by assumption) ?_
  rotate_left
  · intro w hSw; (try dsimp only at hSw); go_simp <;> first | with_reducible rfl | (rw [if_neg (by first | omega | (simp only [ByteArray.size_append] at *; omega))])
  simp only [Act.put, List.setIfInBounds_toArray, List.set_cons_zero, List.set_cons_succ]
  refine wpAnyH_ready (rs := [2]) (by kernel_rfl) (by simp) ?_
  refine AllReadyH.cons (o := { dst := some 7, op := Go.Op.buildSlice 28 2 #[(0, Go.Operand.tmp 5), (1, Go.Operand.tmp 6)], type := 28, pos := _, after := #[{ on := 0, ground := Go.Ground.data }, { on := 1, ground := Go.Ground.data }], guard := none }) rfl (fun K hK => ?_) AllReadyH.nil
  go_simp
  go_wp2_with fail
  have SX1 := hid (st2 W0.drew 6 exA exA _ _ (by decide) (stA _) (stA _))
  have K1 := hid (K0.out.keep ((Below.refl _ _).alloc (Nat.le_refl _) (.cells #[.int .u8 3, .int .i64 0, .string ⟨#[97]⟩, .slice none 0 0, .int .u8 3, .int .i64 0, .string ⟨#[97]⟩, .slice none 0 0] 30)))
  refine hK.out _ _ ?_ (fun hHeld1 => ?_)
  · exact K1.out.cells
  clear hK K
  have HG1 : ∃ G, G = W0.drew.heap.size := ⟨_, rfl⟩
  refine wpAnyH_ready (rs := [3]) (by kernel_rfl) (by simp) ?_
  refine AllReadyH.cons (o := { dst := some 8, op := Go.Op.call { callee := Go.Callee.value (Go.Operand.func 45), args := #[Go.Operand.const (Go.Value.int Go.IntKind.u8 6), Go.Operand.tmp 7], argTypes := #[27, 28] }, type := 30, pos := _, after := #[{ on := 2, ground := Go.Ground.data }], guard := none }) rfl (fun K hK => ?_) AllReadyH.nil
  go_simp
  refine (of_pl 6 _ _ _ _).mono ?_
  rintro e v2 ⟨rfl, hb2⟩
  have K2 := hid (K1.out.keep hb2)
  have SY2 := hid (SX1.out.keep hb2)
  go_wp2_with fail
  refine hK.out _ _ ?_ (fun hHeld2 => ?_)
  · exact K2.out.cells
  clear hK K
  refine wpAnyH_ready (rs := [4]) (by kernel_rfl) (by simp) ?_
  refine AllReadyH.cons (o := { dst := some 9, op := Go.Op.call { callee := Go.Callee.value (Go.Operand.func 44), args := #[Go.Operand.tmp 8, Go.Operand.const (Go.Value.int Go.IntKind.u8 1), Go.Operand.const (Go.Value.int Go.IntKind.i64 0)], argTypes := #[30, 35, 36] }, type := 4, pos := _, after := #[{ on := 3, ground := Go.Ground.data }, { on := 3, ground := Go.Ground.chain }], guard := none }) rfl (fun K hK => ?_) AllReadyH.nil
  go_simp
  refine (is_at _ _ _ t1 _ _ SY2.out K2.out.R K2.out.J).mono ?_
  rintro e v3 ⟨rfl, hb3⟩
  have K3 := hid (K2.out.keep hb3)
  go_wp2_with fail
  refine hK.out _ _ ?_ (fun hHeld3 => ?_)
  · exact K3.out.cells
  clear hK K
  clear hb3
  refine wpAnyH_take (i := 5) (oi := { dst := some 10, op := Go.Op.move (Go.Operand.tmp 9), type := 4, pos := _, after := #[{ on := 4, ground := Go.Ground.data }, { on := 4, ground := Go.Ground.chain }], guard := none }) (v := ?_) rfl (by kernel_rfl) (by kernel_rfl) (by kernel_rfl) (fun _ _ _ h => h) (Or.inl ⟨by rfl, ?_⟩) (by assumption) ?_
  rotate_left
  · intro w hSw; (try dsimp only at hSw); go_simp <;> first | with_reducible rfl | (rw [if_neg (by first | omega | (simp only [ByteArray.size_append] at *; omega))])
  simp only [Act.put, List.setIfInBounds_toArray, List.set_cons_zero, List.set_cons_succ]
  refine wpAnyH_take (i := 6) (oi := { dst := some 11, op := Go.Op.load 30 (Go.Operand.tmp 1), type := 30, pos := _, after := #[{ on := 5, ground := Go.Ground.guard }], guard := some (5, true) }) (v := ?_) rfl (by kernel_rfl) (by kernel_rfl) (by kernel_rfl) (fun _ _ _ h => h) (Or.inl ⟨by rfl, ?_⟩) (by assumption) ?_
  rotate_left
  · intro w hSw; (try dsimp only at hSw); go_simp <;> first | with_reducible rfl | (rw [if_neg (by first | omega | (simp only [ByteArray.size_append] at *; omega))])
  simp only [Act.put, List.setIfInBounds_toArray, List.set_cons_zero, List.set_cons_succ]
  refine wpAnyH_take (i := 7) (oi := { dst := some 12, op := Go.Op.load 30 (Go.Operand.tmp 1), type := 30, pos := _, after := #[{ on := 5, ground := Go.Ground.guard }], guard := some (5, true) }) (v := ?_) rfl (by kernel_rfl) (by kernel_rfl) (by kernel_rfl) (fun _ _ _ h => h) (Or.inl ⟨by rfl, ?_⟩) (by assumption) ?_
  rotate_left
  · intro w hSw; (try dsimp only at hSw); go_simp <;> first | with_reducible rfl | (rw [if_neg (by first | omega | (simp only [ByteArray.size_append] at *; omega))])
  simp only [Act.put, List.setIfInBounds_toArray, List.set_cons_zero, List.set_cons_succ]
  refine wpAnyH_take (i := 10) (oi := { dst := some 15, op := Go.Op.load 30 (Go.Operand.tmp 2), type := 30, pos := _, after := #[{ on := 5, ground := Go.Ground.guard }], guard := some (5, true) }) (v := ?_) rfl (by kernel_rfl) (by kernel_rfl) (by kernel_rfl) (fun _ _ _ h => h) (Or.inl ⟨by rfl, ?_⟩) (by assumption) ?_
  rotate_left
  · intro w hSw; (try dsimp only at hSw); go_simp <;> first | with_reducible rfl | (rw [if_neg (by first | omega | (simp only [ByteArray.size_append] at *; omega))])
  simp only [Act.put, List.setIfInBounds_toArray, List.set_cons_zero, List.set_cons_succ]
  refine wpAnyH_ready (rs := [8]) (by kernel_rfl) (by simp) ?_
  refine AllReadyH.cons (o := { dst := some 13, op := Go.Op.buildSlice 28 2 #[(0, Go.Operand.tmp 11), (1, Go.Operand.tmp 12)], type := 28, pos := _, after := #[{ on := 6, ground := Go.Ground.data }, { on := 7, ground := Go.Ground.data }, { on := 5, ground := Go.Ground.guard }], guard := some (5, true) }) rfl (fun K hK => ?_) AllReadyH.nil
  go_simp
  go_wp2_with fail
  have SX4 := hid (st2 v3 13 exA exA _ _ (by decide) (stA _) (stA _))
  have K4 := hid (K3.out.keep ((Below.refl _ _).alloc (Nat.le_refl _) (.cells #[.int .u8 3, .int .i64 0, .string ⟨#[97]⟩, .slice none 0 0, .int .u8 3, .int .i64 0, .string ⟨#[97]⟩, .slice none 0 0] 30)))
  refine hK.out _ _ ?_ (fun hHeld4 => ?_)
  · exact K4.out.cells
  clear hK K
  have HG4 : ∃ G, G = v3.heap.size := ⟨_, rfl⟩
  refine wpAnyH_ready (rs := [9]) (by kernel_rfl) (by simp) ?_
  refine AllReadyH.cons (o := { dst := some 14, op := Go.Op.call { callee := Go.Callee.value (Go.Operand.func 45), args := #[Go.Operand.const (Go.Value.int Go.IntKind.u8 13), Go.Operand.tmp 13], argTypes := #[27, 28] }, type := 30, pos := _, after := #[{ on := 8, ground := Go.Ground.data }, { on := 5, ground := Go.Ground.chain }, { on := 5, ground := Go.Ground.guard }], guard := some (5, true) }) rfl (fun K hK => ?_) AllReadyH.nil
  go_simp
  refine (of_pl 13 _ _ _ _).mono ?_
  rintro e v5 ⟨rfl, hb5⟩
  have K5 := hid (K4.out.keep hb5)
  have SY5 := hid (SX4.out.keep hb5)
  go_wp2_with fail
  refine hK.out _ _ ?_ (fun hHeld5 => ?_)
  · exact K5.out.cells
  clear hK K
  refine wpAnyH_ready (rs := [11]) (by kernel_rfl) (by simp) ?_
  refine AllReadyH.cons (o := { dst := some 16, op := Go.Op.buildSlice 28 2 #[(0, Go.Operand.tmp 14), (1, Go.Operand.tmp 15)], type := 28, pos := _, after := #[{ on := 9, ground := Go.Ground.data }, { on := 10, ground := Go.Ground.data }, { on := 5, ground := Go.Ground.guard }], guard := some (5, true) }) rfl (fun K hK => ?_) AllReadyH.nil
  go_simp
  go_wp2_with fail
  have SX6 := hid (st2 v5 16 ⟨13, 0, ⟨#[]⟩, [exA, exA]⟩ exB _ _ (by decide) SY5.out (stB _))
  have K6 := hid (K5.out.keep ((Below.refl _ _).alloc (Nat.le_refl _) (.cells #[.int .u8 13, .int .i64 0, .string ⟨#[]⟩, .slice (some ⟨v3.heap.size, 0, none⟩) 2 2, .int .u8 3, .int .i64 0, .string ⟨#[98]⟩, .slice none 0 0] 30)))
  refine hK.out _ _ ?_ (fun hHeld6 => ?_)
  · exact K6.out.cells
  clear hK K
  have HG6 : ∃ G, G = v5.heap.size := ⟨_, rfl⟩
  refine wpAnyH_ready (rs := [12]) (by kernel_rfl) (by simp) ?_
  refine AllReadyH.cons (o := { dst := some 17, op := Go.Op.call { callee := Go.Callee.value (Go.Operand.func 45), args := #[Go.Operand.const (Go.Value.int Go.IntKind.u8 16), Go.Operand.tmp 16], argTypes := #[27, 28] }, type := 30, pos := _, after := #[{ on := 11, ground := Go.Ground.data }, { on := 9, ground := Go.Ground.chain }, { on := 5, ground := Go.Ground.guard }], guard := some (5, true) }) rfl (fun K hK => ?_) AllReadyH.nil
  go_simp
  refine (of_pl 16 _ _ _ _).mono ?_
  rintro e v7 ⟨rfl, hb7⟩
  have K7 := hid (K6.out.keep hb7)
  have SY7 := hid (SX6.out.keep hb7)
  go_wp2_with fail
  refine hK.out _ _ ?_ (fun hHeld7 => ?_)
  · exact K7.out.cells
  clear hK K
  refine wpAnyH_ready (rs := [13]) (by kernel_rfl) (by simp) ?_
  refine AllReadyH.cons (o := { dst := some 18, op := Go.Op.call { callee := Go.Callee.value (Go.Operand.func 44), args := #[Go.Operand.tmp 17, Go.Operand.const (Go.Value.int Go.IntKind.u8 2), Go.Operand.const (Go.Value.int Go.IntKind.i64 0)], argTypes := #[30, 35, 36] }, type := 4, pos := _, after := #[{ on := 12, ground := Go.Ground.data }, { on := 12, ground := Go.Ground.chain }, { on := 5, ground := Go.Ground.guard }], guard := some (5, true) }) rfl (fun K hK => ?_) AllReadyH.nil
  go_simp
  refine (is_at _ _ _ t2 _ _ SY7.out K7.out.R K7.out.J).mono ?_
  rintro e v8 ⟨rfl, hb8⟩
  have K8 := hid (K7.out.keep hb8)
  go_wp2_with fail
  refine hK.out _ _ ?_ (fun hHeld8 => ?_)
  · exact K8.out.cells
  clear hK K
  clear hb8
  refine wpAnyH_take (i := 14) (oi := { dst := some 19, op := Go.Op.pick (Go.Operand.tmp 10) (Go.Operand.tmp 18) (Go.Operand.const (Go.Value.bool false)), type := 4, pos := _, after := #[{ on := 5, ground := Go.Ground.data }, { on := 13, ground := Go.Ground.data }], guard := none }) (v := ?_) rfl (by kernel_rfl) (by kernel_rfl) (by kernel_rfl) (fun _ _ _ h => h) (Or.inl ⟨by rfl, ?_⟩) (by assumption) ?_
  rotate_left
  · intro w hSw; (try dsimp only at hSw); go_simp <;> first | with_reducible rfl | (rw [if_neg (by first | omega | (simp only [ByteArray.size_append] at *; omega))])
  simp only [Act.put, List.setIfInBounds_toArray, List.set_cons_zero, List.set_cons_succ]
  refine wpAnyH_take (i := 15) (oi := { dst := some 20, op := Go.Op.move (Go.Operand.tmp 19), type := 4, pos := _, after := #[{ on := 14, ground := Go.Ground.data }, { on := 13, ground := Go.Ground.chain }], guard := none }) (v := ?_) rfl (by kernel_rfl) (by kernel_rfl) (by kernel_rfl) (fun _ _ _ h => h) (Or.inl ⟨by rfl, ?_⟩) (by assumption) ?_
  rotate_left
  · intro w hSw; (try dsimp only at hSw); go_simp <;> first | with_reducible rfl | (rw [if_neg (by first | omega | (simp only [ByteArray.size_append] at *; omega))])
  simp only [Act.put, List.setIfInBounds_toArray, List.set_cons_zero, List.set_cons_succ]
  refine wpAnyH_take (i := 16) (oi := { dst := some 21, op := Go.Op.load 30 (Go.Operand.tmp 2), type := 30, pos := _, after := #[{ on := 15, ground := Go.Ground.guard }], guard := some (15, true) }) (v := ?_) rfl (by kernel_rfl) (by kernel_rfl) (by kernel_rfl) (fun _ _ _ h => h) (Or.inl ⟨by rfl, ?_⟩) (by assumption) ?_
  rotate_left
  · intro w hSw; (try dsimp only at hSw); go_simp <;> first | with_reducible rfl | (rw [if_neg (by first | omega | (simp only [ByteArray.size_append] at *; omega))])
  simp only [Act.put, List.setIfInBounds_toArray, List.set_cons_zero, List.set_cons_succ]
  refine wpAnyH_take (i := 17) (oi := { dst := some 22, op := Go.Op.load 30 (Go.Operand.tmp 1), type := 30, pos := _, after := #[{ on := 15, ground := Go.Ground.guard }], guard := some (15, true) }) (v := ?_) rfl (by kernel_rfl) (by kernel_rfl) (by kernel_rfl) (fun _ _ _ h => h) (Or.inl ⟨by rfl, ?_⟩) (by assumption) ?_
  rotate_left
  · intro w hSw; (try dsimp only at hSw); go_simp <;> first | with_reducible rfl | (rw [if_neg (by first | omega | (simp only [ByteArray.size_append] at *; omega))])
  simp only [Act.put, List.setIfInBounds_toArray, List.set_cons_zero, List.set_cons_succ]
  refine wpAnyH_take (i := 18) (oi := { dst := some 23, op := Go.Op.load 30 (Go.Operand.tmp 1), type := 30, pos := _, after := #[{ on := 15, ground := Go.Ground.guard }], guard := some (15, true) }) (v := ?_) rfl (by kernel_rfl) (by kernel_rfl) (by kernel_rfl) (fun _ _ _ h => h) (Or.inl ⟨by rfl, ?_⟩) (by assumption) ?_
  rotate_left
  · intro w hSw; (try dsimp only at hSw); go_simp <;> first | with_reducible rfl | (rw [if_neg (by first | omega | (simp only [ByteArray.size_append] at *; omega))])
  simp only [Act.put, List.setIfInBounds_toArray, List.set_cons_zero, List.set_cons_succ]
  refine wpAnyH_ready (rs := [19]) (by kernel_rfl) (by simp) ?_
  refine AllReadyH.cons (o := { dst := some 24, op := Go.Op.buildSlice 28 1 #[(0, Go.Operand.tmp 23)], type := 28, pos := _, after := #[{ on := 18, ground := Go.Ground.data }, { on := 15, ground := Go.Ground.guard }], guard := some (15, true) }) rfl (fun K hK => ?_) AllReadyH.nil
  go_simp
  go_wp2_with fail
  have SX9 := hid (st1 v8 4 exA _ (by decide) (stA _))
  have K9 := hid (K8.out.keep ((Below.refl _ _).alloc (Nat.le_refl _) (.cells #[.int .u8 3, .int .i64 0, .string ⟨#[97]⟩, .slice none 0 0] 30)))
  refine hK.out _ _ ?_ (fun hHeld9 => ?_)
  · exact K9.out.cells
  clear hK K
  have HG9 : ∃ G, G = v8.heap.size := ⟨_, rfl⟩
  refine wpAnyH_ready (rs := [20]) (by kernel_rfl) (by simp) ?_
  refine AllReadyH.cons (o := { dst := some 25, op := Go.Op.call { callee := Go.Callee.value (Go.Operand.func 45), args := #[Go.Operand.const (Go.Value.int Go.IntKind.u8 4), Go.Operand.tmp 24], argTypes := #[27, 28] }, type := 30, pos := _, after := #[{ on := 19, ground := Go.Ground.data }, { on := 15, ground := Go.Ground.chain }, { on := 15, ground := Go.Ground.guard }], guard := some (15, true) }) rfl (fun K hK => ?_) AllReadyH.nil
  go_simp
  refine (of_pl 4 _ _ _ _).mono ?_
  rintro e v10 ⟨rfl, hb10⟩
  have K10 := hid (K9.out.keep hb10)
  have SY10 := hid (SX9.out.keep hb10)
  go_wp2_with fail
  refine hK.out _ _ ?_ (fun hHeld10 => ?_)
  · exact K10.out.cells
  clear hK K
  refine wpAnyH_ready (rs := [21]) (by kernel_rfl) (by simp) ?_
  refine AllReadyH.cons (o := { dst := some 26, op := Go.Op.buildSlice 28 3 #[(0, Go.Operand.tmp 21), (1, Go.Operand.tmp 22), (2, Go.Operand.tmp 25)], type := 28, pos := _, after := #[{ on := 16, ground := Go.Ground.data }, { on := 17, ground := Go.Ground.data }, { on := 20, ground := Go.Ground.data }, { on := 15, ground := Go.Ground.guard }], guard := some (15, true) }) rfl (fun K hK => ?_) AllReadyH.nil
  go_simp
  go_wp2_with fail
  have SX11 := hid (st3 v10 17 exB exA ⟨4, 0, ⟨#[]⟩, [exA]⟩ _ _ _ (by decide) (stB _) (stA _) SY10.out)
  have K11 := hid (K10.out.keep ((Below.refl _ _).alloc (Nat.le_refl _) (.cells #[.int .u8 3, .int .i64 0, .string ⟨#[98]⟩, .slice none 0 0, .int .u8 3, .int .i64 0, .string ⟨#[97]⟩, .slice none 0 0, .int .u8 4, .int .i64 0, .string ⟨#[]⟩, .slice (some ⟨v8.heap.size, 0, none⟩) 1 1] 30)))
  refine hK.out _ _ ?_ (fun hHeld11 => ?_)
  · exact K11.out.cells
  clear hK K
  have HG11 : ∃ G, G = v10.heap.size := ⟨_, rfl⟩
  refine wpAnyH_ready (rs := [22]) (by kernel_rfl) (by simp) ?_
  refine AllReadyH.cons (o := { dst := some 27, op := Go.Op.call { callee := Go.Callee.value (Go.Operand.func 45), args := #[Go.Operand.const (Go.Value.int Go.IntKind.u8 17), Go.Operand.tmp 26], argTypes := #[27, 28] }, type := 30, pos := _, after := #[{ on := 21, ground := Go.Ground.data }, { on := 20, ground := Go.Ground.chain }, { on := 15, ground := Go.Ground.guard }], guard := some (15, true) }) rfl (fun K hK => ?_) AllReadyH.nil
  go_simp
  refine (of_pl 17 _ _ _ _).mono ?_
  rintro e v12 ⟨rfl, hb12⟩
  have K12 := hid (K11.out.keep hb12)
  have SY12 := hid (SX11.out.keep hb12)
  go_wp2_with fail
  refine hK.out _ _ ?_ (fun hHeld12 => ?_)
  · exact K12.out.cells
  clear hK K
  refine wpAnyH_ready (rs := [23]) (by kernel_rfl) (by simp) ?_
  refine AllReadyH.cons (o := { dst := some 28, op := Go.Op.call { callee := Go.Callee.value (Go.Operand.func 44), args := #[Go.Operand.tmp 27, Go.Operand.const (Go.Value.int Go.IntKind.u8 1), Go.Operand.const (Go.Value.int Go.IntKind.i64 0)], argTypes := #[30, 35, 36] }, type := 4, pos := _, after := #[{ on := 22, ground := Go.Ground.data }, { on := 22, ground := Go.Ground.chain }, { on := 15, ground := Go.Ground.guard }], guard := some (15, true) }) rfl (fun K hK => ?_) AllReadyH.nil
  go_simp
  refine (is_at _ _ _ t3 _ _ SY12.out K12.out.R K12.out.J).mono ?_
  rintro e v13 ⟨rfl, hb13⟩
  have K13 := hid (K12.out.keep hb13)
  go_wp2_with fail
  refine hK.out _ _ ?_ (fun hHeld13 => ?_)
  · exact K13.out.cells
  clear hK K
  clear hb13
  refine wpAnyH_take (i := 24) (oi := { dst := some 29, op := Go.Op.pick (Go.Operand.tmp 20) (Go.Operand.tmp 28) (Go.Operand.const (Go.Value.bool false)), type := 4, pos := _, after := #[{ on := 15, ground := Go.Ground.data }, { on := 23, ground := Go.Ground.data }], guard := none }) (v := ?_) rfl (by kernel_rfl) (by kernel_rfl) (by kernel_rfl) (fun _ _ _ h => h) (Or.inl ⟨by rfl, ?_⟩) (by assumption) ?_
  rotate_left
  · intro w hSw; (try dsimp only at hSw); go_simp <;> first | with_reducible rfl | (rw [if_neg (by first | omega | (simp only [ByteArray.size_append] at *; omega))])
  simp only [Act.put, List.setIfInBounds_toArray, List.set_cons_zero, List.set_cons_succ]
  refine wpAnyH_take (i := 25) (oi := { dst := some 30, op := Go.Op.move (Go.Operand.tmp 29), type := 4, pos := _, after := #[{ on := 24, ground := Go.Ground.data }, { on := 23, ground := Go.Ground.chain }], guard := none }) (v := ?_) rfl (by kernel_rfl) (by kernel_rfl) (by kernel_rfl) (fun _ _ _ h => h) (Or.inl ⟨by rfl, ?_⟩) (by assumption) ?_
  rotate_left
  · intro w hSw; (try dsimp only at hSw); go_simp <;> first | with_reducible rfl | (rw [if_neg (by first | omega | (simp only [ByteArray.size_append] at *; omega))])
  simp only [Act.put, List.setIfInBounds_toArray, List.set_cons_zero, List.set_cons_succ]
  refine wpAnyH_take (i := 26) (oi := { dst := some 31, op := Go.Op.load 30 (Go.Operand.tmp 1), type := 30, pos := _, after := #[{ on := 25, ground := Go.Ground.guard }], guard := some (25, true) }) (v := ?_) rfl (by kernel_rfl) (by kernel_rfl) (by kernel_rfl) (fun _ _ _ h => h) (Or.inl ⟨by rfl, ?_⟩) (by assumption) ?_
  rotate_left
  · intro w hSw; (try dsimp only at hSw); go_simp <;> first | with_reducible rfl | (rw [if_neg (by first | omega | (simp only [ByteArray.size_append] at *; omega))])
  simp only [Act.put, List.setIfInBounds_toArray, List.set_cons_zero, List.set_cons_succ]
  refine wpAnyH_take (i := 27) (oi := { dst := some 32, op := Go.Op.load 30 (Go.Operand.tmp 1), type := 30, pos := _, after := #[{ on := 25, ground := Go.Ground.guard }], guard := some (25, true) }) (v := ?_) rfl (by kernel_rfl) (by kernel_rfl) (by kernel_rfl) (fun _ _ _ h => h) (Or.inl ⟨by rfl, ?_⟩) (by assumption) ?_
  rotate_left
  · intro w hSw; (try dsimp only at hSw); go_simp <;> first | with_reducible rfl | (rw [if_neg (by first | omega | (simp only [ByteArray.size_append] at *; omega))])
  simp only [Act.put, List.setIfInBounds_toArray, List.set_cons_zero, List.set_cons_succ]
  refine wpAnyH_ready (rs := [28]) (by kernel_rfl) (by simp) ?_
  refine AllReadyH.cons (o := { dst := some 33, op := Go.Op.buildSlice 28 1 #[(0, Go.Operand.tmp 32)], type := 28, pos := _, after := #[{ on := 27, ground := Go.Ground.data }, { on := 25, ground := Go.Ground.guard }], guard := some (25, true) }) rfl (fun K hK => ?_) AllReadyH.nil
  go_simp
  go_wp2_with fail
  have SX14 := hid (st1 v13 19 exA _ (by decide) (stA _))
  have K14 := hid (K13.out.keep ((Below.refl _ _).alloc (Nat.le_refl _) (.cells #[.int .u8 3, .int .i64 0, .string ⟨#[97]⟩, .slice none 0 0] 30)))
  refine hK.out _ _ ?_ (fun hHeld14 => ?_)
  · exact K14.out.cells
  clear hK K
  have HG14 : ∃ G, G = v13.heap.size := ⟨_, rfl⟩
  refine wpAnyH_ready (rs := [29]) (by kernel_rfl) (by simp) ?_
  refine AllReadyH.cons (o := { dst := some 34, op := Go.Op.call { callee := Go.Callee.value (Go.Operand.func 45), args := #[Go.Operand.const (Go.Value.int Go.IntKind.u8 19), Go.Operand.tmp 33], argTypes := #[27, 28] }, type := 30, pos := _, after := #[{ on := 28, ground := Go.Ground.data }, { on := 25, ground := Go.Ground.chain }, { on := 25, ground := Go.Ground.guard }], guard := some (25, true) }) rfl (fun K hK => ?_) AllReadyH.nil
  go_simp
  refine (of_pl 19 _ _ _ _).mono ?_
  rintro e v15 ⟨rfl, hb15⟩
  have K15 := hid (K14.out.keep hb15)
  have SY15 := hid (SX14.out.keep hb15)
  go_wp2_with fail
  refine hK.out _ _ ?_ (fun hHeld15 => ?_)
  · exact K15.out.cells
  clear hK K
  refine wpAnyH_ready (rs := [30]) (by kernel_rfl) (by simp) ?_
  refine AllReadyH.cons (o := { dst := some 35, op := Go.Op.buildSlice 28 2 #[(0, Go.Operand.tmp 31), (1, Go.Operand.tmp 34)], type := 28, pos := _, after := #[{ on := 26, ground := Go.Ground.data }, { on := 29, ground := Go.Ground.data }, { on := 25, ground := Go.Ground.guard }], guard := some (25, true) }) rfl (fun K hK => ?_) AllReadyH.nil
  go_simp
  go_wp2_with fail
  have SX16 := hid (st2 v15 18 exA ⟨19, 0, ⟨#[]⟩, [exA]⟩ _ _ (by decide) (stA _) SY15.out)
  have K16 := hid (K15.out.keep ((Below.refl _ _).alloc (Nat.le_refl _) (.cells #[.int .u8 3, .int .i64 0, .string ⟨#[97]⟩, .slice none 0 0, .int .u8 19, .int .i64 0, .string ⟨#[]⟩, .slice (some ⟨v13.heap.size, 0, none⟩) 1 1] 30)))
  refine hK.out _ _ ?_ (fun hHeld16 => ?_)
  · exact K16.out.cells
  clear hK K
  have HG16 : ∃ G, G = v15.heap.size := ⟨_, rfl⟩
  refine wpAnyH_ready (rs := [31]) (by kernel_rfl) (by simp) ?_
  refine AllReadyH.cons (o := { dst := some 36, op := Go.Op.call { callee := Go.Callee.value (Go.Operand.func 45), args := #[Go.Operand.const (Go.Value.int Go.IntKind.u8 18), Go.Operand.tmp 35], argTypes := #[27, 28] }, type := 30, pos := _, after := #[{ on := 30, ground := Go.Ground.data }, { on := 29, ground := Go.Ground.chain }, { on := 25, ground := Go.Ground.guard }], guard := some (25, true) }) rfl (fun K hK => ?_) AllReadyH.nil
  go_simp
  refine (of_pl 18 _ _ _ _).mono ?_
  rintro e v17 ⟨rfl, hb17⟩
  have K17 := hid (K16.out.keep hb17)
  have SY17 := hid (SX16.out.keep hb17)
  go_wp2_with fail
  refine hK.out _ _ ?_ (fun hHeld17 => ?_)
  · exact K17.out.cells
  clear hK K
  refine wpAnyH_ready (rs := [32]) (by kernel_rfl) (by simp) ?_
  refine AllReadyH.cons (o := { dst := some 37, op := Go.Op.call { callee := Go.Callee.value (Go.Operand.func 44), args := #[Go.Operand.tmp 36, Go.Operand.const (Go.Value.int Go.IntKind.u8 1), Go.Operand.const (Go.Value.int Go.IntKind.i64 0)], argTypes := #[30, 35, 36] }, type := 4, pos := _, after := #[{ on := 31, ground := Go.Ground.data }, { on := 31, ground := Go.Ground.chain }, { on := 25, ground := Go.Ground.guard }], guard := some (25, true) }) rfl (fun K hK => ?_) AllReadyH.nil
  go_simp
  refine (is_at _ _ _ t4 _ _ SY17.out K17.out.R K17.out.J).mono ?_
  rintro e v18 ⟨rfl, hb18⟩
  have K18 := hid (K17.out.keep hb18)
  go_wp2_with fail
  refine hK.out _ _ ?_ (fun hHeld18 => ?_)
  · exact K18.out.cells
  clear hK K
  clear hb18
  refine wpAnyH_take (i := 33) (oi := { dst := some 38, op := Go.Op.pick (Go.Operand.tmp 30) (Go.Operand.tmp 37) (Go.Operand.const (Go.Value.bool false)), type := 4, pos := _, after := #[{ on := 25, ground := Go.Ground.data }, { on := 32, ground := Go.Ground.data }], guard := none }) (v := ?_) rfl (by kernel_rfl) (by kernel_rfl) (by kernel_rfl) (fun _ _ _ h => h) (Or.inl ⟨by rfl, ?_⟩) (by assumption) ?_
  rotate_left
  · intro w hSw; (try dsimp only at hSw); go_simp <;> first | with_reducible rfl | (rw [if_neg (by first | omega | (simp only [ByteArray.size_append] at *; omega))])
  simp only [Act.put, List.setIfInBounds_toArray, List.set_cons_zero, List.set_cons_succ]
  refine wpAnyH_take (i := 34) (oi := { dst := some 39, op := Go.Op.move (Go.Operand.tmp 38), type := 4, pos := _, after := #[{ on := 33, ground := Go.Ground.data }, { on := 32, ground := Go.Ground.chain }], guard := none }) (v := ?_) rfl (by kernel_rfl) (by kernel_rfl) (by kernel_rfl) (fun _ _ _ h => h) (Or.inl ⟨by rfl, ?_⟩) (by assumption) ?_
  rotate_left
  · intro w hSw; (try dsimp only at hSw); go_simp <;> first | with_reducible rfl | (rw [if_neg (by first | omega | (simp only [ByteArray.size_append] at *; omega))])
  simp only [Act.put, List.setIfInBounds_toArray, List.set_cons_zero, List.set_cons_succ]
  refine wpAnyH_take (i := 35) (oi := { dst := some 40, op := Go.Op.load 30 (Go.Operand.tmp 2), type := 30, pos := _, after := #[{ on := 34, ground := Go.Ground.guard }], guard := some (34, true) }) (v := ?_) rfl (by kernel_rfl) (by kernel_rfl) (by kernel_rfl) (fun _ _ _ h => h) (Or.inl ⟨by rfl, ?_⟩) (by assumption) ?_
  rotate_left
  · intro w hSw; (try dsimp only at hSw); go_simp <;> first | with_reducible rfl | (rw [if_neg (by first | omega | (simp only [ByteArray.size_append] at *; omega))])
  simp only [Act.put, List.setIfInBounds_toArray, List.set_cons_zero, List.set_cons_succ]
  refine wpAnyH_take (i := 36) (oi := { dst := some 41, op := Go.Op.load 30 (Go.Operand.tmp 2), type := 30, pos := _, after := #[{ on := 34, ground := Go.Ground.guard }], guard := some (34, true) }) (v := ?_) rfl (by kernel_rfl) (by kernel_rfl) (by kernel_rfl) (fun _ _ _ h => h) (Or.inl ⟨by rfl, ?_⟩) (by assumption) ?_
  rotate_left
  · intro w hSw; (try dsimp only at hSw); go_simp <;> first | with_reducible rfl | (rw [if_neg (by first | omega | (simp only [ByteArray.size_append] at *; omega))])
  simp only [Act.put, List.setIfInBounds_toArray, List.set_cons_zero, List.set_cons_succ]
  refine wpAnyH_ready (rs := [37]) (by kernel_rfl) (by simp) ?_
  refine AllReadyH.cons (o := { dst := some 42, op := Go.Op.buildSlice 28 2 #[(0, Go.Operand.tmp 40), (1, Go.Operand.tmp 41)], type := 28, pos := _, after := #[{ on := 35, ground := Go.Ground.data }, { on := 36, ground := Go.Ground.data }, { on := 34, ground := Go.Ground.guard }], guard := some (34, true) }) rfl (fun K hK => ?_) AllReadyH.nil
  go_simp
  go_wp2_with fail
  have SX19 := hid (st2 v18 11 exB exB _ _ (by decide) (stB _) (stB _))
  have K19 := hid (K18.out.keep ((Below.refl _ _).alloc (Nat.le_refl _) (.cells #[.int .u8 3, .int .i64 0, .string ⟨#[98]⟩, .slice none 0 0, .int .u8 3, .int .i64 0, .string ⟨#[98]⟩, .slice none 0 0] 30)))
  refine hK.out _ _ ?_ (fun hHeld19 => ?_)
  · exact K19.out.cells
  clear hK K
  have HG19 : ∃ G, G = v18.heap.size := ⟨_, rfl⟩
  refine wpAnyH_ready (rs := [38]) (by kernel_rfl) (by simp) ?_
  refine AllReadyH.cons (o := { dst := some 43, op := Go.Op.call { callee := Go.Callee.value (Go.Operand.func 45), args := #[Go.Operand.const (Go.Value.int Go.IntKind.u8 11), Go.Operand.tmp 42], argTypes := #[27, 28] }, type := 30, pos := _, after := #[{ on := 37, ground := Go.Ground.data }, { on := 34, ground := Go.Ground.chain }, { on := 34, ground := Go.Ground.guard }], guard := some (34, true) }) rfl (fun K hK => ?_) AllReadyH.nil
  go_simp
  refine (of_pl 11 _ _ _ _).mono ?_
  rintro e v20 ⟨rfl, hb20⟩
  have K20 := hid (K19.out.keep hb20)
  have SY20 := hid (SX19.out.keep hb20)
  go_wp2_with fail
  refine hK.out _ _ ?_ (fun hHeld20 => ?_)
  · exact K20.out.cells
  clear hK K
  refine wpAnyH_ready (rs := [39]) (by kernel_rfl) (by simp) ?_
  refine AllReadyH.cons (o := { dst := some 44, op := Go.Op.call { callee := Go.Callee.value (Go.Operand.func 44), args := #[Go.Operand.tmp 43, Go.Operand.const (Go.Value.int Go.IntKind.u8 2), Go.Operand.const (Go.Value.int Go.IntKind.i64 0)], argTypes := #[30, 35, 36] }, type := 4, pos := _, after := #[{ on := 38, ground := Go.Ground.data }, { on := 38, ground := Go.Ground.chain }, { on := 34, ground := Go.Ground.guard }], guard := some (34, true) }) rfl (fun K hK => ?_) AllReadyH.nil
  go_simp
  refine (is_at _ _ _ t5 _ _ SY20.out K20.out.R K20.out.J).mono ?_
  rintro e v21 ⟨rfl, hb21⟩
  have K21 := hid (K20.out.keep hb21)
  go_wp2_with fail
  refine hK.out _ _ ?_ (fun hHeld21 => ?_)
  · exact K21.out.cells
  clear hK K
  clear hb21
  refine wpAnyH_take (i := 40) (oi := { dst := some 45, op := Go.Op.pick (Go.Operand.tmp 39) (Go.Operand.tmp 44) (Go.Operand.const (Go.Value.bool false)), type := 4, pos := _, after := #[{ on := 34, ground := Go.Ground.data }, { on := 39, ground := Go.Ground.data }], guard := none }) (v := ?_) rfl (by kernel_rfl) (by kernel_rfl) (by kernel_rfl) (fun _ _ _ h => h) (Or.inl ⟨by rfl, ?_⟩) (by assumption) ?_
  rotate_left
  · intro w hSw; (try dsimp only at hSw); go_simp <;> first | with_reducible rfl | (rw [if_neg (by first | omega | (simp only [ByteArray.size_append] at *; omega))])
  simp only [Act.put, List.setIfInBounds_toArray, List.set_cons_zero, List.set_cons_succ]
  refine wpAnyH_take (i := 41) (oi := { dst := some 46, op := Go.Op.move (Go.Operand.tmp 45), type := 4, pos := _, after := #[{ on := 40, ground := Go.Ground.data }, { on := 39, ground := Go.Ground.chain }], guard := none }) (v := ?_) rfl (by kernel_rfl) (by kernel_rfl) (by kernel_rfl) (fun _ _ _ h => h) (Or.inl ⟨by rfl, ?_⟩) (by assumption) ?_
  rotate_left
  · intro w hSw; (try dsimp only at hSw); go_simp <;> first | with_reducible rfl | (rw [if_neg (by first | omega | (simp only [ByteArray.size_append] at *; omega))])
  simp only [Act.put, List.setIfInBounds_toArray, List.set_cons_zero, List.set_cons_succ]
  refine wpAnyH_take (i := 42) (oi := { dst := some 47, op := Go.Op.load 30 (Go.Operand.tmp 1), type := 30, pos := _, after := #[{ on := 41, ground := Go.Ground.guard }], guard := some (41, true) }) (v := ?_) rfl (by kernel_rfl) (by kernel_rfl) (by kernel_rfl) (fun _ _ _ h => h) (Or.inl ⟨by rfl, ?_⟩) (by assumption) ?_
  rotate_left
  · intro w hSw; (try dsimp only at hSw); go_simp <;> first | with_reducible rfl | (rw [if_neg (by first | omega | (simp only [ByteArray.size_append] at *; omega))])
  simp only [Act.put, List.setIfInBounds_toArray, List.set_cons_zero, List.set_cons_succ]
  refine wpAnyH_take (i := 43) (oi := { dst := some 48, op := Go.Op.load 30 (Go.Operand.tmp 2), type := 30, pos := _, after := #[{ on := 41, ground := Go.Ground.guard }], guard := some (41, true) }) (v := ?_) rfl (by kernel_rfl) (by kernel_rfl) (by kernel_rfl) (fun _ _ _ h => h) (Or.inl ⟨by rfl, ?_⟩) (by assumption) ?_
  rotate_left
  · intro w hSw; (try dsimp only at hSw); go_simp <;> first | with_reducible rfl | (rw [if_neg (by first | omega | (simp only [ByteArray.size_append] at *; omega))])
  simp only [Act.put, List.setIfInBounds_toArray, List.set_cons_zero, List.set_cons_succ]
  refine wpAnyH_ready (rs := [44]) (by kernel_rfl) (by simp) ?_
  refine AllReadyH.cons (o := { dst := some 49, op := Go.Op.buildSlice 28 2 #[(0, Go.Operand.tmp 47), (1, Go.Operand.tmp 48)], type := 28, pos := _, after := #[{ on := 42, ground := Go.Ground.data }, { on := 43, ground := Go.Ground.data }, { on := 41, ground := Go.Ground.guard }], guard := some (41, true) }) rfl (fun K hK => ?_) AllReadyH.nil
  go_simp
  go_wp2_with fail
  have SX22 := hid (st2 v21 6 exA exB _ _ (by decide) (stA _) (stB _))
  have K22 := hid (K21.out.keep ((Below.refl _ _).alloc (Nat.le_refl _) (.cells #[.int .u8 3, .int .i64 0, .string ⟨#[97]⟩, .slice none 0 0, .int .u8 3, .int .i64 0, .string ⟨#[98]⟩, .slice none 0 0] 30)))
  refine hK.out _ _ ?_ (fun hHeld22 => ?_)
  · exact K22.out.cells
  clear hK K
  have HG22 : ∃ G, G = v21.heap.size := ⟨_, rfl⟩
  refine wpAnyH_ready (rs := [45]) (by kernel_rfl) (by simp) ?_
  refine AllReadyH.cons (o := { dst := some 50, op := Go.Op.call { callee := Go.Callee.value (Go.Operand.func 45), args := #[Go.Operand.const (Go.Value.int Go.IntKind.u8 6), Go.Operand.tmp 49], argTypes := #[27, 28] }, type := 30, pos := _, after := #[{ on := 44, ground := Go.Ground.data }, { on := 41, ground := Go.Ground.chain }, { on := 41, ground := Go.Ground.guard }], guard := some (41, true) }) rfl (fun K hK => ?_) AllReadyH.nil
  go_simp
  refine (of_pl 6 _ _ _ _).mono ?_
  rintro e v23 ⟨rfl, hb23⟩
  have K23 := hid (K22.out.keep hb23)
  have SY23 := hid (SX22.out.keep hb23)
  go_wp2_with fail
  refine hK.out _ _ ?_ (fun hHeld23 => ?_)
  · exact K23.out.cells
  clear hK K
  refine wpAnyH_ready (rs := [46]) (by kernel_rfl) (by simp) ?_
  refine AllReadyH.cons (o := { dst := some 51, op := Go.Op.call { callee := Go.Callee.value (Go.Operand.func 44), args := #[Go.Operand.tmp 50, Go.Operand.const (Go.Value.int Go.IntKind.u8 0), Go.Operand.const (Go.Value.int Go.IntKind.i64 7)], argTypes := #[30, 35, 36] }, type := 4, pos := _, after := #[{ on := 45, ground := Go.Ground.data }, { on := 45, ground := Go.Ground.chain }, { on := 41, ground := Go.Ground.guard }], guard := some (41, true) }) rfl (fun K hK => ?_) AllReadyH.nil
  go_simp
  refine (is_at _ _ _ t6 _ _ SY23.out K23.out.R K23.out.J).mono ?_
  rintro e v24 ⟨rfl, hb24⟩
  have K24 := hid (K23.out.keep hb24)
  go_wp2_with fail
  refine hK.out _ _ ?_ (fun hHeld24 => ?_)
  · exact K24.out.cells
  clear hK K
  clear hb24
  refine wpAnyH_take (i := 47) (oi := { dst := some 52, op := Go.Op.pick (Go.Operand.tmp 46) (Go.Operand.tmp 51) (Go.Operand.const (Go.Value.bool false)), type := 4, pos := _, after := #[{ on := 41, ground := Go.Ground.data }, { on := 46, ground := Go.Ground.data }], guard := none }) (v := ?_) rfl (by kernel_rfl) (by kernel_rfl) (by kernel_rfl) (fun _ _ _ h => h) (Or.inl ⟨by rfl, ?_⟩) (by assumption) ?_
  rotate_left
  · intro w hSw; (try dsimp only at hSw); go_simp <;> first | with_reducible rfl | (rw [if_neg (by first | omega | (simp only [ByteArray.size_append] at *; omega))])
  simp only [Act.put, List.setIfInBounds_toArray, List.set_cons_zero, List.set_cons_succ]
  refine wpAnyH_take (i := 48) (oi := { dst := some 53, op := Go.Op.move (Go.Operand.tmp 52), type := 4, pos := _, after := #[{ on := 47, ground := Go.Ground.data }, { on := 46, ground := Go.Ground.chain }], guard := none }) (v := ?_) rfl (by kernel_rfl) (by kernel_rfl) (by kernel_rfl) (fun _ _ _ h => h) (Or.inl ⟨by rfl, ?_⟩) (by assumption) ?_
  rotate_left
  · intro w hSw; (try dsimp only at hSw); go_simp <;> first | with_reducible rfl | (rw [if_neg (by first | omega | (simp only [ByteArray.size_append] at *; omega))])
  simp only [Act.put, List.setIfInBounds_toArray, List.set_cons_zero, List.set_cons_succ]
  refine wpAnyH_take (i := 49) (oi := { dst := some 54, op := Go.Op.load 30 (Go.Operand.tmp 1), type := 30, pos := _, after := #[{ on := 48, ground := Go.Ground.guard }], guard := some (48, true) }) (v := ?_) rfl (by kernel_rfl) (by kernel_rfl) (by kernel_rfl) (fun _ _ _ h => h) (Or.inl ⟨by rfl, ?_⟩) (by assumption) ?_
  rotate_left
  · intro w hSw; (try dsimp only at hSw); go_simp <;> first | with_reducible rfl | (rw [if_neg (by first | omega | (simp only [ByteArray.size_append] at *; omega))])
  simp only [Act.put, List.setIfInBounds_toArray, List.set_cons_zero, List.set_cons_succ]
  refine wpAnyH_take (i := 50) (oi := { dst := some 55, op := Go.Op.load 30 (Go.Operand.tmp 2), type := 30, pos := _, after := #[{ on := 48, ground := Go.Ground.guard }], guard := some (48, true) }) (v := ?_) rfl (by kernel_rfl) (by kernel_rfl) (by kernel_rfl) (fun _ _ _ h => h) (Or.inl ⟨by rfl, ?_⟩) (by assumption) ?_
  rotate_left
  · intro w hSw; (try dsimp only at hSw); go_simp <;> first | with_reducible rfl | (rw [if_neg (by first | omega | (simp only [ByteArray.size_append] at *; omega))])
  simp only [Act.put, List.setIfInBounds_toArray, List.set_cons_zero, List.set_cons_succ]
  refine wpAnyH_ready (rs := [51]) (by kernel_rfl) (by simp) ?_
  refine AllReadyH.cons (o := { dst := some 56, op := Go.Op.buildSlice 28 2 #[(0, Go.Operand.tmp 54), (1, Go.Operand.tmp 55)], type := 28, pos := _, after := #[{ on := 49, ground := Go.Ground.data }, { on := 50, ground := Go.Ground.data }, { on := 48, ground := Go.Ground.guard }], guard := some (48, true) }) rfl (fun K hK => ?_) AllReadyH.nil
  go_simp
  go_wp2_with fail
  have SX25 := hid (st2 v24 11 exA exB _ _ (by decide) (stA _) (stB _))
  have K25 := hid (K24.out.keep ((Below.refl _ _).alloc (Nat.le_refl _) (.cells #[.int .u8 3, .int .i64 0, .string ⟨#[97]⟩, .slice none 0 0, .int .u8 3, .int .i64 0, .string ⟨#[98]⟩, .slice none 0 0] 30)))
  refine hK.out _ _ ?_ (fun hHeld25 => ?_)
  · exact K25.out.cells
  clear hK K
  have HG25 : ∃ G, G = v24.heap.size := ⟨_, rfl⟩
  refine wpAnyH_ready (rs := [52]) (by kernel_rfl) (by simp) ?_
  refine AllReadyH.cons (o := { dst := some 57, op := Go.Op.call { callee := Go.Callee.value (Go.Operand.func 45), args := #[Go.Operand.const (Go.Value.int Go.IntKind.u8 11), Go.Operand.tmp 56], argTypes := #[27, 28] }, type := 30, pos := _, after := #[{ on := 51, ground := Go.Ground.data }, { on := 48, ground := Go.Ground.chain }, { on := 48, ground := Go.Ground.guard }], guard := some (48, true) }) rfl (fun K hK => ?_) AllReadyH.nil
  go_simp
  refine (of_pl 11 _ _ _ _).mono ?_
  rintro e v26 ⟨rfl, hb26⟩
  have K26 := hid (K25.out.keep hb26)
  have SY26 := hid (SX25.out.keep hb26)
  go_wp2_with fail
  refine hK.out _ _ ?_ (fun hHeld26 => ?_)
  · exact K26.out.cells
  clear hK K
  refine wpAnyH_ready (rs := [53]) (by kernel_rfl) (by simp) ?_
  refine AllReadyH.cons (o := { dst := some 58, op := Go.Op.call { callee := Go.Callee.value (Go.Operand.func 44), args := #[Go.Operand.tmp 57, Go.Operand.const (Go.Value.int Go.IntKind.u8 0), Go.Operand.const (Go.Value.int Go.IntKind.i64 7)], argTypes := #[30, 35, 36] }, type := 4, pos := _, after := #[{ on := 52, ground := Go.Ground.data }, { on := 52, ground := Go.Ground.chain }, { on := 48, ground := Go.Ground.guard }], guard := some (48, true) }) rfl (fun K hK => ?_) AllReadyH.nil
  go_simp
  refine (is_at _ _ _ t7 _ _ SY26.out K26.out.R K26.out.J).mono ?_
  rintro e v27 ⟨rfl, hb27⟩
  have K27 := hid (K26.out.keep hb27)
  go_wp2_with fail
  refine hK.out _ _ ?_ (fun hHeld27 => ?_)
  · exact K27.out.cells
  clear hK K
  clear hb27
  refine wpAnyH_take (i := 54) (oi := { dst := some 59, op := Go.Op.pick (Go.Operand.tmp 53) (Go.Operand.tmp 58) (Go.Operand.const (Go.Value.bool false)), type := 4, pos := _, after := #[{ on := 48, ground := Go.Ground.data }, { on := 53, ground := Go.Ground.data }], guard := none }) (v := ?_) rfl (by kernel_rfl) (by kernel_rfl) (by kernel_rfl) (fun _ _ _ h => h) (Or.inl ⟨by rfl, ?_⟩) (by assumption) ?_
  rotate_left
  · intro w hSw; (try dsimp only at hSw); go_simp <;> first | with_reducible rfl | (rw [if_neg (by first | omega | (simp only [ByteArray.size_append] at *; omega))])
  simp only [Act.put, List.setIfInBounds_toArray, List.set_cons_zero, List.set_cons_succ]
  refine wpAnyH_take (i := 55) (oi := { dst := some 60, op := Go.Op.move (Go.Operand.tmp 59), type := 4, pos := _, after := #[{ on := 54, ground := Go.Ground.data }, { on := 53, ground := Go.Ground.chain }], guard := none }) (v := ?_) rfl (by kernel_rfl) (by kernel_rfl) (by kernel_rfl) (fun _ _ _ h => h) (Or.inl ⟨by rfl, ?_⟩) (by assumption) ?_
  rotate_left
  · intro w hSw; (try dsimp only at hSw); go_simp <;> first | with_reducible rfl | (rw [if_neg (by first | omega | (simp only [ByteArray.size_append] at *; omega))])
  simp only [Act.put, List.setIfInBounds_toArray, List.set_cons_zero, List.set_cons_succ]
  refine wpAnyH_take (i := 57) (oi := { dst := some 62, op := Go.Op.build 30 #[(0, Go.Operand.const (Go.Value.int Go.IntKind.u8 2))], type := 30, pos := _, after := #[{ on := 55, ground := Go.Ground.guard }], guard := some (55, true) }) (v := ?_) rfl (by kernel_rfl) (by kernel_rfl) (by kernel_rfl) (fun _ _ _ h => h) (Or.inl ⟨by rfl, ?_⟩) (by assumption) ?_
  rotate_left
  · intro w hSw; (try dsimp only at hSw); go_simp <;> first | with_reducible rfl | (rw [if_neg (by first | omega | (simp only [ByteArray.size_append] at *; omega))])
  simp only [Act.put, List.setIfInBounds_toArray, List.set_cons_zero, List.set_cons_succ]
  refine wpAnyH_ready (rs := [56]) (by kernel_rfl) (by simp) ?_
  refine AllReadyH.cons (o := { dst := some 61, op := Go.Op.call { callee := Go.Callee.value (Go.Operand.func 43), args := #[Go.Operand.const (Go.Value.string { data := #[99] })], argTypes := #[9] }, type := 30, pos := _, after := #[{ on := 55, ground := Go.Ground.chain }, { on := 55, ground := Go.Ground.guard }], guard := some (55, true) }) rfl (fun K hK => ?_) AllReadyH.nil
  go_simp
  refine (name_at ⟨#[99]⟩ _).mono ?_
  rintro e v28 ⟨rfl, hb28⟩
  have K28 := hid (K27.out.keep hb28)
  go_wp2_with fail
  refine hK.out _ _ ?_ (fun hHeld28 => ?_)
  · exact K28.out.cells
  clear hK K
  refine wpAnyH_ready (rs := [58]) (by kernel_rfl) (by simp) ?_
  refine AllReadyH.cons (o := { dst := some 63, op := Go.Op.buildSlice 28 2 #[(0, Go.Operand.tmp 61), (1, Go.Operand.tmp 62)], type := 28, pos := _, after := #[{ on := 56, ground := Go.Ground.data }, { on := 57, ground := Go.Ground.data }, { on := 55, ground := Go.Ground.guard }], guard := some (55, true) }) rfl (fun K hK => ?_) AllReadyH.nil
  go_simp
  go_wp2_with fail
  have SX29 := hid (st2 v28 6 exC exD _ _ (by decide) (stC _) (stD _))
  have K29 := hid (K28.out.keep ((Below.refl _ _).alloc (Nat.le_refl _) (.cells #[.int .u8 3, .int .i64 0, .string ⟨#[99]⟩, .slice none 0 0, .int .u8 2, .int .i64 0, .string ⟨#[]⟩, .slice none 0 0] 30)))
  refine hK.out _ _ ?_ (fun hHeld29 => ?_)
  · exact K29.out.cells
  clear hK K
  have HG29 : ∃ G, G = v28.heap.size := ⟨_, rfl⟩
  refine wpAnyH_ready (rs := [59]) (by kernel_rfl) (by simp) ?_
  refine AllReadyH.cons (o := { dst := some 64, op := Go.Op.call { callee := Go.Callee.value (Go.Operand.func 45), args := #[Go.Operand.const (Go.Value.int Go.IntKind.u8 6), Go.Operand.tmp 63], argTypes := #[27, 28] }, type := 30, pos := _, after := #[{ on := 58, ground := Go.Ground.data }, { on := 56, ground := Go.Ground.chain }, { on := 55, ground := Go.Ground.guard }], guard := some (55, true) }) rfl (fun K hK => ?_) AllReadyH.nil
  go_simp
  refine (of_pl 6 _ _ _ _).mono ?_
  rintro e v30 ⟨rfl, hb30⟩
  have K30 := hid (K29.out.keep hb30)
  have SY30 := hid (SX29.out.keep hb30)
  go_wp2_with fail
  refine hK.out _ _ ?_ (fun hHeld30 => ?_)
  · exact K30.out.cells
  clear hK K
  refine wpAnyH_ready (rs := [60]) (by kernel_rfl) (by simp) ?_
  refine AllReadyH.cons (o := { dst := some 65, op := Go.Op.call { callee := Go.Callee.value (Go.Operand.func 44), args := #[Go.Operand.tmp 64, Go.Operand.const (Go.Value.int Go.IntKind.u8 0), Go.Operand.const (Go.Value.int Go.IntKind.i64 6)], argTypes := #[30, 35, 36] }, type := 4, pos := _, after := #[{ on := 59, ground := Go.Ground.data }, { on := 59, ground := Go.Ground.chain }, { on := 55, ground := Go.Ground.guard }], guard := some (55, true) }) rfl (fun K hK => ?_) AllReadyH.nil
  go_simp
  refine (is_at _ _ _ t8 _ _ SY30.out K30.out.R K30.out.J).mono ?_
  rintro e v31 ⟨rfl, hb31⟩
  have K31 := hid (K30.out.keep hb31)
  go_wp2_with fail
  refine hK.out _ _ ?_ (fun hHeld31 => ?_)
  · exact K31.out.cells
  clear hK K
  clear hb31
  refine wpAnyH_take (i := 61) (oi := { dst := some 66, op := Go.Op.pick (Go.Operand.tmp 60) (Go.Operand.tmp 65) (Go.Operand.const (Go.Value.bool false)), type := 4, pos := _, after := #[{ on := 55, ground := Go.Ground.data }, { on := 60, ground := Go.Ground.data }], guard := none }) (v := ?_) rfl (by kernel_rfl) (by kernel_rfl) (by kernel_rfl) (fun _ _ _ h => h) (Or.inl ⟨by rfl, ?_⟩) (by assumption) ?_
  rotate_left
  · intro w hSw; (try dsimp only at hSw); go_simp <;> first | with_reducible rfl | (rw [if_neg (by first | omega | (simp only [ByteArray.size_append] at *; omega))])
  simp only [Act.put, List.setIfInBounds_toArray, List.set_cons_zero, List.set_cons_succ]
  refine wpAnyH_take (i := 62) (oi := { dst := some 67, op := Go.Op.move (Go.Operand.tmp 66), type := 4, pos := _, after := #[{ on := 61, ground := Go.Ground.data }, { on := 60, ground := Go.Ground.chain }], guard := none }) (v := ?_) rfl (by kernel_rfl) (by kernel_rfl) (by kernel_rfl) (fun _ _ _ h => h) (Or.inl ⟨by rfl, ?_⟩) (by assumption) ?_
  rotate_left
  · intro w hSw; (try dsimp only at hSw); go_simp <;> first | with_reducible rfl | (rw [if_neg (by first | omega | (simp only [ByteArray.size_append] at *; omega))])
  simp only [Act.put, List.setIfInBounds_toArray, List.set_cons_zero, List.set_cons_succ]
  refine wpAnyH_take (i := 63) (oi := { dst := some 68, op := Go.Op.build 30 #[], type := 30, pos := _, after := #[{ on := 62, ground := Go.Ground.guard }], guard := some (62, true) }) (v := ?_) rfl (by kernel_rfl) (by kernel_rfl) (by kernel_rfl) (fun _ _ _ h => h) (Or.inl ⟨by rfl, ?_⟩) (by assumption) ?_
  rotate_left
  · intro w hSw; (try dsimp only at hSw); go_simp <;> first | with_reducible rfl | (rw [if_neg (by first | omega | (simp only [ByteArray.size_append] at *; omega))])
  simp only [Act.put, List.setIfInBounds_toArray, List.set_cons_zero, List.set_cons_succ]
  refine wpAnyH_ready (rs := [64]) (by kernel_rfl) (by simp) ?_
  refine AllReadyH.cons (o := { dst := some 69, op := Go.Op.call { callee := Go.Callee.value (Go.Operand.func 44), args := #[Go.Operand.tmp 68, Go.Operand.const (Go.Value.int Go.IntKind.u8 0), Go.Operand.const (Go.Value.int Go.IntKind.i64 1)], argTypes := #[30, 35, 36] }, type := 4, pos := _, after := #[{ on := 63, ground := Go.Ground.data }, { on := 62, ground := Go.Ground.chain }, { on := 62, ground := Go.Ground.guard }], guard := some (62, true) }) rfl (fun K hK => ?_) AllReadyH.nil
  go_simp
  refine (is_at _ _ _ t9 _ _ (stZ _) K31.out.R K31.out.J).mono ?_
  rintro e v32 ⟨rfl, hb32⟩
  have K32 := hid (K31.out.keep hb32)
  go_wp2_with fail
  refine hK.out _ _ ?_ (fun hHeld32 => ?_)
  · exact K32.out.cells
  clear hK K
  clear hb32
  refine wpAnyH_take (i := 65) (oi := { dst := some 70, op := Go.Op.pick (Go.Operand.tmp 67) (Go.Operand.tmp 69) (Go.Operand.const (Go.Value.bool false)), type := 4, pos := _, after := #[{ on := 62, ground := Go.Ground.data }, { on := 64, ground := Go.Ground.data }], guard := none }) (v := ?_) rfl (by kernel_rfl) (by kernel_rfl) (by kernel_rfl) (fun _ _ _ h => h) (Or.inl ⟨by rfl, ?_⟩) (by assumption) ?_
  rotate_left
  · intro w hSw; (try dsimp only at hSw); go_simp <;> first | with_reducible rfl | (rw [if_neg (by first | omega | (simp only [ByteArray.size_append] at *; omega))])
  simp only [Act.put, List.setIfInBounds_toArray, List.set_cons_zero, List.set_cons_succ]
  refine wpAnyH_take (i := 66) (oi := { dst := some 71, op := Go.Op.move (Go.Operand.tmp 70), type := 4, pos := _, after := #[{ on := 65, ground := Go.Ground.data }, { on := 64, ground := Go.Ground.chain }], guard := none }) (v := ?_) rfl (by kernel_rfl) (by kernel_rfl) (by kernel_rfl) (fun _ _ _ h => h) (Or.inl ⟨by rfl, ?_⟩) (by assumption) ?_
  rotate_left
  · intro w hSw; (try dsimp only at hSw); go_simp <;> first | with_reducible rfl | (rw [if_neg (by first | omega | (simp only [ByteArray.size_append] at *; omega))])
  simp only [Act.put, List.setIfInBounds_toArray, List.set_cons_zero, List.set_cons_succ]
  refine wpAnyH_ready (rs := [67]) (by kernel_rfl) (by simp) ?_
  refine AllReadyH.cons (o := { dst := some 72, op := Go.Op.call { callee := Go.Callee.value (Go.Operand.func 46), args := #[], argTypes := #[] }, type := 26, pos := _, after := #[{ on := 66, ground := Go.Ground.chain }, { on := 66, ground := Go.Ground.guard }], guard := some (66, true) }) rfl (fun K hK => ?_) AllReadyH.nil
  go_simp
  refine (small_at _).mono ?_
  rintro e v33 ⟨sb, rfl, hP33, hb33⟩
  have K33 := hid (K32.out.keep hb33)
  have HP := hid hP33
  clear hP33
  go_wp2_with fail
  refine hK.out _ _ ?_ (fun hHeld33 => ?_)
  · exact K33.out.cells
  clear hK K
  refine wpAnyH_ready (rs := [68]) (by kernel_rfl) (by simp) ?_
  refine AllReadyH.cons (o := { dst := some 73, op := Go.Op.call { callee := Go.Callee.value (Go.Operand.func 17), args := #[Go.Operand.tmp 72], argTypes := #[26] }, type := 36, pos := _, after := #[{ on := 67, ground := Go.Ground.data }, { on := 67, ground := Go.Ground.chain }, { on := 66, ground := Go.Ground.guard }], guard := some (66, true) }) rfl (fun K hK => ?_) AllReadyH.nil
  go_simp
  refine (types_check smQ _ _ _ _ HP.out K33.out.R K33.out.J).mono ?_
  rintro e v34 ⟨rfl, hb34⟩
  rw [ckS]
  have K34 := hid (K33.out.keep hb34)
  go_wp2_with fail
  refine hK.out _ _ ?_ (fun hHeld34 => ?_)
  · exact K34.out.cells
  clear hK K
  refine wpAnyH_take (i := 69) (oi := { dst := some 74, op := Go.Op.binOp Go.BinOp.eql 36 (Go.Operand.tmp 73) (Go.Operand.const (Go.Value.int Go.IntKind.i64 0)) 36, type := 4, pos := _, after := #[{ on := 68, ground := Go.Ground.data }, { on := 66, ground := Go.Ground.guard }], guard := some (66, true) }) (v := ?_) rfl (by kernel_rfl) (by kernel_rfl) (by kernel_rfl) (fun _ _ _ h => h) (Or.inl ⟨by rfl, ?_⟩) (by assumption) ?_
  rotate_left
  · intro w hSw; (try dsimp only at hSw); go_simp <;> first | with_reducible rfl | (rw [if_neg (by first | omega | (simp only [ByteArray.size_append] at *; omega))])
  simp only [Act.put, List.setIfInBounds_toArray, List.set_cons_zero, List.set_cons_succ]
  refine wpAnyH_take (i := 70) (oi := { dst := some 75, op := Go.Op.pick (Go.Operand.tmp 71) (Go.Operand.tmp 74) (Go.Operand.const (Go.Value.bool false)), type := 4, pos := _, after := #[{ on := 66, ground := Go.Ground.data }, { on := 69, ground := Go.Ground.data }], guard := none }) (v := ?_) rfl (by kernel_rfl) (by kernel_rfl) (by kernel_rfl) (fun _ _ _ h => h) (Or.inl ⟨by rfl, ?_⟩) (by assumption) ?_
  rotate_left
  · intro w hSw; (try dsimp only at hSw); go_simp <;> first | with_reducible rfl | (rw [if_neg (by first | omega | (simp only [ByteArray.size_append] at *; omega))])
  simp only [Act.put, List.setIfInBounds_toArray, List.set_cons_zero, List.set_cons_succ]
  refine wpAnyH_take (i := 71) (oi := { dst := some 0, op := Go.Op.assign (Go.Operand.tmp 75), type := 4, pos := _, after := ([{ on := 70, ground := Go.Ground.data }, { on := 68, ground := Go.Ground.chain }, { on := 0, ground := Go.Ground.phase }, { on := 1, ground := Go.Ground.phase }, { on := 2, ground := Go.Ground.phase }, { on := 3, ground := Go.Ground.phase }, { on := 4, ground := Go.Ground.phase }, { on := 5, ground := Go.Ground.phase }, { on := 6, ground := Go.Ground.phase }, { on := 7, ground := Go.Ground.phase }, { on := 8, ground := Go.Ground.phase }, { on := 9, ground := Go.Ground.phase }, { on := 10, ground := Go.Ground.phase }, { on := 11, ground := Go.Ground.phase }, { on := 12, ground := Go.Ground.phase }, { on := 13, ground := Go.Ground.phase }, { on := 14, ground := Go.Ground.phase }, { on := 15, ground := Go.Ground.phase }, { on := 16, ground := Go.Ground.phase }, { on := 17, ground := Go.Ground.phase }, { on := 18, ground := Go.Ground.phase }, { on := 19, ground := Go.Ground.phase }, { on := 20, ground := Go.Ground.phase }, { on := 21, ground := Go.Ground.phase }, { on := 22, ground := Go.Ground.phase }, { on := 23, ground := Go.Ground.phase }, { on := 24, ground := Go.Ground.phase }, { on := 25, ground := Go.Ground.phase }, { on := 26, ground := Go.Ground.phase }, { on := 27, ground := Go.Ground.phase }, { on := 28, ground := Go.Ground.phase }, { on := 29, ground := Go.Ground.phase }, { on := 30, ground := Go.Ground.phase }, { on := 31, ground := Go.Ground.phase }, { on := 32, ground := Go.Ground.phase }, { on := 33, ground := Go.Ground.phase }].append [{ on := 34, ground := Go.Ground.phase }, { on := 35, ground := Go.Ground.phase }, { on := 36, ground := Go.Ground.phase }, { on := 37, ground := Go.Ground.phase }, { on := 38, ground := Go.Ground.phase }, { on := 39, ground := Go.Ground.phase }, { on := 40, ground := Go.Ground.phase }, { on := 41, ground := Go.Ground.phase }, { on := 42, ground := Go.Ground.phase }, { on := 43, ground := Go.Ground.phase }, { on := 44, ground := Go.Ground.phase }, { on := 45, ground := Go.Ground.phase }, { on := 46, ground := Go.Ground.phase }, { on := 47, ground := Go.Ground.phase }, { on := 48, ground := Go.Ground.phase }, { on := 49, ground := Go.Ground.phase }, { on := 50, ground := Go.Ground.phase }, { on := 51, ground := Go.Ground.phase }, { on := 52, ground := Go.Ground.phase }, { on := 53, ground := Go.Ground.phase }, { on := 54, ground := Go.Ground.phase }, { on := 55, ground := Go.Ground.phase }, { on := 56, ground := Go.Ground.phase }, { on := 57, ground := Go.Ground.phase }, { on := 58, ground := Go.Ground.phase }, { on := 59, ground := Go.Ground.phase }, { on := 60, ground := Go.Ground.phase }, { on := 61, ground := Go.Ground.phase }, { on := 62, ground := Go.Ground.phase }, { on := 63, ground := Go.Ground.phase }, { on := 64, ground := Go.Ground.phase }, { on := 65, ground := Go.Ground.phase }, { on := 66, ground := Go.Ground.phase }, { on := 67, ground := Go.Ground.phase }, { on := 68, ground := Go.Ground.phase }, { on := 69, ground := Go.Ground.phase }, { on := 70, ground := Go.Ground.phase }]).toArray, guard := none }) (v := ?_) rfl (by kernel_rfl) (by kernel_rfl) (by kernel_rfl) (fun _ _ _ h => h) (Or.inl ⟨by rfl, ?_⟩) (by assumption) ?_
  rotate_left
  · intro w hSw; (try dsimp only at hSw); go_simp <;> first | with_reducible rfl | (rw [if_neg (by first | omega | (simp only [ByteArray.size_append] at *; omega))])
  simp only [Act.put, List.setIfInBounds_toArray, List.set_cons_zero]
  refine wpAnyH_done (by kernel_rfl) ?_ _
  have hB := K34.out.below
  go_wp2_with (fail)
  go_ret
  exact ⟨rfl, hB⟩
end Go.Proofs.YtakjkhfglihggaaDoor.Lex
namespace Go.Proofs.YtakjkhfglihggaaDoor.Lex
open Go.ChangeShapes Go.WideShapes Go.ChangeAt Go.RowKit Go.Joins
set_option maxRecDepth 100000 in
set_option maxHeartbeats 8000000 in
theorem walk6 (p : Pg) (x : Ex) (way : Nat) (w : World) (s a b c : Value) (hP : PgAt w p a b c) (hS : St w x s) (hwy : way < 256) (hR : TabR w) (hJ : TabJ w) : Calls Tryd.prog 6 #[pgV p a b c, exV x s, .int .u8 (way : Int)] w fun e w' => e = .returned (.bool true) ∧ Below w.heap.size w w' := by
  obtain ⟨a0, a1, rfl, _⟩ := hP.ins
  obtain ⟨b0, b1, _, rfl, _⟩ := hP.flows
  obtain ⟨c0, c1, rfl, _⟩ := hP.outs
  obtain ⟨ao, cap, _, rfl, _⟩ := hS.out
  have B2 := bstep ((Below.refl w.heap.size w).alloc (Nat.le_refl _) (.cells (pgC p (.slice a0 p.ins.length a1) (.slice b0 p.flows.length b1) (.slice c0 p.outs.length c1)) 26)) ((Below.refl _ _).alloc (Nat.le_refl _) (.cells #[.int .u8 (x.op : Int), .int .i64 x.n, .string x.name, .slice ao x.args.length cap] 30))
  have X0 := hid (OX.mk (w := w) (ao := ao) (cap := cap) (W := ((w.alloc (.cells (pgC p (.slice a0 p.ins.length a1) (.slice b0 p.flows.length b1) (.slice c0 p.outs.length c1)) 26)).alloc (.cells #[.int .u8 (x.op : Int), .int .i64 x.n, .string x.name, .slice ao x.args.length cap] 30))) (push_old (push_new _ _ _ rfl)) (push_new _ _ _ (by simp)) (hP.keep B2) (hS.keep B2) (hR.below B2) (hJ.below B2) B2)
  clear B2 hP hS hR hJ
  go_enter Tryd.func6, Tryd.ntmps6
  go_wp2_with (fail)
  refine (alive _ X0.out.R X0.out.J).mono ?_
  rintro e w1 ⟨rfl, hb1⟩
  have X1 := hid (X0.out.keep hb1)
  clear hb1
  obtain ⟨p0, p1, p2, p3⟩ := X1.out.pcs
  go_wp2_with (fail)
  refine (great p _ _ _ _ X1.out.P).mono ?_
  rintro e w2 ⟨⟨g, rfl, hg⟩, hb2⟩
  have X2 := hid (X1.out.keep hb2)
  clear hb2 X1 X0 p0 p1 p2 p3
  cases g with
  | true =>
    clear hg
    go_wp2_with (fail)
    refine (alive _ X2.out.R X2.out.J).mono ?_
    rintro e w3 ⟨rfl, hb3⟩
    have X3 := hid (X2.out.keep hb3)
    clear hb3
    have hB := X3.out.below
    go_wp2_with (fail)
    go_ret
    exact ⟨rfl, hB⟩
  | false =>
    have HG := hid hg
    clear hg
    obtain ⟨q0, q1, q2, q3⟩ := X2.out.xcs
    go_wp2_with (fail)
    refine (size_any _ x (Nat.le_refl _) _ _ X2.out.S).mono ?_
    rintro e w3 ⟨⟨m, rfl⟩, hb3⟩
    have X3 := hid (X2.out.keep hb3)
    clear hb3 X2 q0 q1 q2 q3
    by_cases hm : (20000 : Int) < m
    · go_wp2_with (fail)
      refine (alive _ X3.out.R X3.out.J).mono ?_
      rintro e w4 ⟨rfl, hb4⟩
      have X4 := hid (X3.out.keep hb4)
      clear hb4
      have hB := X4.out.below
      go_wp2_with (fail)
      go_ret
      exact ⟨rfl, hB⟩
    · obtain ⟨p0, p1, p2, p3⟩ := X3.out.pcs
      obtain ⟨q0, q1, q2, q3⟩ := X3.out.xcs
      by_cases hz : (ofV p x).2 = 0
      · have HZ := hid hz
        obtain ⟨hck, has, hty0⟩ := (of_zero p x).1 hz
        have c13 := of_ p x _ _ _ _ _ X3.out.P X3.out.S X3.out.R X3.out.J
        rw [of_ok hck has hty0] at c13
        clear hz hck has hty0
        go_wp2_with (fail)
        refine c13.mono ?_
        rintro e w5 ⟨rfl, hb5⟩
        have X5 := hid (X3.out.keep hb5)
        clear hb5 X3 p0 p1 p2 p3 q0 q1 q2 q3 c13
        obtain ⟨p0, p1, p2, p3⟩ := X5.out.pcs
        obtain ⟨q0, q1, q2, q3⟩ := X5.out.xcs
        have c22 := ch_all p 256 x way w5 w5 _ _ _ _ (by omega) hwy HZ.out X5.out.P X5.out.R X5.out.J X5.out.S (Below.refl _ _)
        have HO := hid (ch_of p 256 x way HZ.out)
        generalize chX p 256 x way = z at *
        generalize tyE p x = ty at *
        go_wp2_with (fail)
        refine c22.mono ?_
        rintro e w6 ⟨s6, rfl, hb6, hst6⟩
        have st6 := hst6 w6 hb6 (fun _ _ _ => rfl)
        obtain ⟨za, zc, _, rfl, _⟩ := st6.out
        have BB := (Below.refl w6.heap.size w6).alloc (Nat.le_refl _) (.cells #[.int .u8 (z.op : Int), .int .i64 z.n, .string z.name, .slice za z.args.length zc] 30)
        have X6 := hid (X5.out.keep (bstep hb6 BB))
        have S6 := hid (st6.keep BB)
        obtain ⟨m0, m1, m2, m3⟩ := row4e (heap_alloc_new w6 (.cells #[.int .u8 (z.op : Int), .int .i64 z.n, .string z.name, .slice za z.args.length zc] 30))
        clear hb6 hst6 st6 BB p0 p1 p2 p3 q0 q1 q2 q3 X5 c22
        obtain ⟨p0, p1, p2, p3⟩ := X6.out.pcs
        have c13 := of_ p z _ _ _ _ _ X6.out.P S6.out X6.out.R X6.out.J
        rw [HO.out] at c13
        go_wp2_with (fail)
        refine c13.mono ?_
        rintro e w7 ⟨rfl, hb7⟩
        have hB := bstep X6.out.below hb7
        have e1 : ((ty : Int) == (ty : Int)) = true := by simp
        go_wp2_with (fail)
        go_ret
        exact ⟨rfl, hB⟩
      · obtain ⟨h1, h2⟩ := of_not hz
        have hz' : ((ofV p x).2 != 0) = true := by simpa using hz
        have c13 := of_ p x _ _ _ _ _ X3.out.P X3.out.S X3.out.R X3.out.J
        rw [h1] at c13
        clear hz h1 h2
        generalize (ofV p x).2 = er at *
        go_wp2_with (fail)
        refine c13.mono ?_
        rintro e w5 ⟨rfl, hb5⟩
        have hB := bstep X3.out.below hb5
        go_wp2_with (fail)
        go_ret
        exact ⟨rfl, hB⟩
end Go.Proofs.YtakjkhfglihggaaDoor.Lex
