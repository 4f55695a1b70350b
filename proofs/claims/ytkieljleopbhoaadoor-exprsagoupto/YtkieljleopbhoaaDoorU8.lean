/-
  Some answers that the document fixes: the contract of alive.
-/
import Derived.Test.YtkieljleopbhoaaDoorU7
namespace Go.Proofs.YtkieljleopbhoaaDoor.Lex
open Go.ChangeShapes Go.WideShapes Go.ChangeAt Go.RowKit Go.Joins
/-- A world that alive has come to: rows of which it is known what they hold. -/
structure AV (w : World) (L : List (Nat × Array Value)) (W : World) : Prop where
  below : Below w.heap.size w W
  rows : ∀ p ∈ L, W.heap[p.1]? = some (.cells p.2 25 (0, 0))
theorem AV.step {w W W' : World} {L : List (Nat × Array Value)} (h : AV w L W) (b : Below W.heap.size W W') : AV w L W' :=
  ⟨bstep h.below b, fun p hp => (b.block _ (Array.getElem?_eq_some_iff.1 (h.rows p hp)).1).trans (h.rows p hp)⟩
theorem AV.push {w W : World} {L : List (Nat × Array Value)} (h : AV w L W) (c : Array Value) : AV w ((W.heap.size, c) :: L) (W.alloc (.cells c 25)) :=
  ⟨bstep h.below ((Below.refl _ _).alloc (Nat.le_refl _) _), fun p hp => by
    rcases List.mem_cons.1 hp with rfl | hp
    · exact heap_alloc_new W _
    · exact (Below.heap_alloc _ _ _ (Array.getElem?_eq_some_iff.1 (h.rows p hp)).1).trans (h.rows p hp)⟩
theorem AV.row {w W : World} {L : List (Nat × Array Value)} (h : AV w L W) (b : Nat) (c : Array Value) (hm : (b, c) ∈ L) : W.heap[b]? = some (.cells c 25 (0, 0)) := h.rows _ hm
theorem AV.less {w W : World} {L L2 : List (Nat × Array Value)} (h : AV w L W) (hs : ∀ p ∈ L2, p ∈ L) : AV w L2 W := ⟨h.below, fun p hp => h.rows p (hs p hp)⟩
theorem AV.drew {w W : World} {L : List (Nat × Array Value)} (h : AV w L W) : AV w L W.drew := h.step (below_drewN (Below.refl _ _) 1)
abbrev T25 (a b c d : Value) : Array Value := #[a, b, c, d]
theorem fill1R (a b c d : Value) : Instr.fill (fun i => some (i * 4, 4)) ((Array.range (1 * 4)).map (z25.cells[· % z25.cells.size]!)) [(0, .agg #[a, b, c, d])] = some #[a, b, c, d] := by
  have e : ((Array.range (1 * 4)).map (z25.cells[· % z25.cells.size]!)) = #[.int .u8 0, .int .i64 0, .string ⟨#[]⟩, .slice none 0 0] := by kernel_rfl
  rw [e]
  simp only [Instr.fill, show (Value.agg #[a, b, c, d]).cells = #[a, b, c, d] from rfl, fold4]
  simp
theorem fill2R (a b c d e f g h : Value) : Instr.fill (fun i => some (i * 4, 4)) ((Array.range (2 * 4)).map (z25.cells[· % z25.cells.size]!)) [(0, .agg #[a, b, c, d]), (1, .agg #[e, f, g, h])] = some #[a, b, c, d, e, f, g, h] := by
  have e0 : ((Array.range (2 * 4)).map (z25.cells[· % z25.cells.size]!)) = #[.int .u8 0, .int .i64 0, .string ⟨#[]⟩, .slice none 0 0, .int .u8 0, .int .i64 0, .string ⟨#[]⟩, .slice none 0 0] := by kernel_rfl
  rw [e0]
  simp only [Instr.fill, show (Value.agg #[a, b, c, d]).cells = #[a, b, c, d] from rfl, show (Value.agg #[e, f, g, h]).cells = #[e, f, g, h] from rfl, fold4]
  simp
theorem fill3R (a b c d e f g h i j k l : Value) : Instr.fill (fun i => some (i * 4, 4)) ((Array.range (3 * 4)).map (z25.cells[· % z25.cells.size]!)) [(0, .agg #[a, b, c, d]), (1, .agg #[e, f, g, h]), (2, .agg #[i, j, k, l])] = some #[a, b, c, d, e, f, g, h, i, j, k, l] := by
  have e0 : ((Array.range (3 * 4)).map (z25.cells[· % z25.cells.size]!)) = #[.int .u8 0, .int .i64 0, .string ⟨#[]⟩, .slice none 0 0, .int .u8 0, .int .i64 0, .string ⟨#[]⟩, .slice none 0 0, .int .u8 0, .int .i64 0, .string ⟨#[]⟩, .slice none 0 0] := by kernel_rfl
  rw [e0]
  simp only [Instr.fill, show (Value.agg #[a, b, c, d]).cells = #[a, b, c, d] from rfl, show (Value.agg #[e, f, g, h]).cells = #[e, f, g, h] from rfl, show (Value.agg #[i, j, k, l]).cells = #[i, j, k, l] from rfl, fold4]
  simp
/-- of, as a value. -/
theorem of_pl (z : Int) (a : Option Addr) (n c : Nat) (w : World) : Calls Tryd.prog 21 #[.int .u8 z, .slice a n c] w fun e w' => e = .returned (.agg #[.int .u8 z, .int .i64 0, .string ⟨#[]⟩, .slice a n c]) ∧ Below w.heap.size w w' := by
  have B0 := hid ((Below.refl w.heap.size w).alloc (Nat.le_refl _) (.cells c25 25))
  have X0 := heap_alloc_new w (.cells c25 25)
  go_enter Tryd.func21, Tryd.ntmps21
  go_wp2_with (refine wpList_store_row rfl 25 _ _ rfl w.heap.size #[.int .u8 z, .int .i64 0, .string ⟨#[]⟩, .slice a n c] rfl rfl 25 _ X0 info25 rfl (by simp [Value.oneCell']) ?_)
  exact bodyPost_ret (results_cell_row rfl _ _ w.heap.size 25 #[.int .u8 z, .int .i64 0, .string ⟨#[]⟩, .slice a n c] (0, 0) _ rfl (setRow_heap _ _ _ _ _ _ X0) Tryd.underlying25 rfl info25) rfl ⟨rfl, below_row B0.out B0.out.size (Nat.le_refl _) _⟩
abbrev TT : Nat → Prop := fun _ => True
abbrev N0 : Value := .slice none 0 0
abbrev sl1 (g : Nat) : Value := .slice (some ⟨g, 0, none⟩) 1 1
abbrev sl2 (g : Nat) : Value := .slice (some ⟨g, 0, none⟩) 2 2
abbrev sl3 (g : Nat) : Value := .slice (some ⟨g, 0, none⟩) 3 3
theorem leafN (W : World) (c : UInt8) : StP TT W (nmE c) N0 := StP.leaf 3 0 _ (by omega) (by omega) (by show (1 : Nat) ≤ _; omega)
/-- A guarded operation that is wanted. -/
theorem wpList_want {P : Program} {ops : Array Oper} {rest : List Oper} {o : Oper} {a : Act} {w : World} {Q : Exit → Act → World → Prop} (hw : Region.wanted o (yielded ops a.tmps) = true) (h : ∀ K : Act → World → Prop, (∀ a w, wpList P ops Q rest a w → K a w) → o.wp P a w K Q) : wpList P ops Q (o :: rest) a w :=
  wpList_step fun K hK => by rw [if_pos hw]; exact h K hK
theorem wpL_build (n : Nat) (cells : Array Value) {ops : Array Oper} {rest : List Oper} {o : Oper} {a : Act} {W : World} {Q : Exit → Act → World → Prop} (hw : Region.wanted o (yielded ops a.tmps) = true) (parts : Array (Nat × Operand)) (ho : o.op = .buildSlice 23 n parts) (hpos : ¬ n * 4 = 0) (hsm : ¬ n * 4 > 2 ^ 24)
    (hf : Instr.fill (fun i => some (i * 4, 4)) ((Array.range (n * 4)).map (z25.cells[· % z25.cells.size]!)) (parts.map fun (i, x) => (i, a.eval x)).toList = some cells) {w : World} {L : List (Nat × Array Value)} (av : AV w L W)
    (h : AV w ((W.heap.size, cells) :: L) (W.alloc (.cells cells 25)) → wpList Tryd.prog ops Q rest (a.put o.dst (.slice (some ⟨W.heap.size, 0, none⟩) n n)) (W.alloc (.cells cells 25))) : wpList Tryd.prog ops Q (o :: rest) a W := by
  obtain ⟨ie, hie, hz, hsz⟩ := inf25
  exact wpList_want hw fun K hK => wp_buildSlice 23 25 n parts ho cells ie z25 Tryd.underlying23 hie hz (by rw [hsz]; exact hsm) (by rw [hsz]; exact hpos) (by rw [hsz]; exact hf) (hK _ _ (h (av.push cells)))
theorem is2 (s : ByteArray) (x : Ex) (ao : Option Addr) (cap : Nat) (w : World) (hs : s.size ≤ 65536) (A : AEnv w) (hc : chk x = true) (hw : wr x = s.data.toList) (hS : St w x (.slice ao x.args.length cap)) : Calls Tryd.prog 31 #[.string s, exV x (.slice ao x.args.length cap)] w fun e w' => e = .returned (.bool true) ∧ Below w.heap.size w w' :=
  is_true s x ao cap w hs A hS (by rw [← hw]; exact read_wr hc hS) hc hw
theorem inf45 : ∃ ie, Tryd.prog.info? 45 = some ie ∧ ie.zero = some (.agg #[.int .u8 0, .string ⟨#[]⟩, .int .i64 0]) ∧ ie.size = 3 := by
  have h : (Tryd.prog.info? 45).map (fun i => (i.zero, i.size)) = some (some (.agg #[.int .u8 0, .string ⟨#[]⟩, .int .i64 0]), 3) := by kernel_rfl
  obtain ⟨ie, h1, h2⟩ := Option.map_eq_some_iff.1 h
  injection h2 with h2 h3
  exact ⟨ie, h1, h2, h3⟩
abbrev tokC : Array Value := #[.int .u8 2, .string ⟨#[49]⟩, .int .i64 0, .int .u8 3, .string ⟨#[43]⟩, .int .i64 0]
theorem fill45 : Instr.fill (fun i => some (i * 3, 3)) ((Array.range (2 * 3)).map ((Value.agg #[.int .u8 0, .string ⟨#[]⟩, .int .i64 0]).cells[· % (Value.agg #[.int .u8 0, .string ⟨#[]⟩, .int .i64 0]).cells.size]!)) [(0, .agg #[.int .u8 2, .string ⟨#[49]⟩, .int .i64 0]), (1, .agg #[.int .u8 3, .string ⟨#[43]⟩, .int .i64 0])] = some tokC := by kernel_rfl
abbrev refC : Array Value := #[.string ⟨#[97]⟩, .int .i64 0, .string ⟨#[97]⟩, .int .i64 1, .string ⟨#[98]⟩, .int .i64 2]
theorem fill51R : Instr.fill (fun i => some (i * 2, 2)) ((Array.range (3 * 2)).map ((Value.agg #[.string ByteArray.empty, .int .i64 0]).cells[· % (Value.agg #[.string ByteArray.empty, .int .i64 0]).cells.size]!)) [(0, .agg #[.string ⟨#[97]⟩, .int .i64 0]), (1, .agg #[.string ⟨#[97]⟩, .int .i64 1]), (2, .agg #[.string ⟨#[98]⟩, .int .i64 2])] = some refC := by kernel_rfl
theorem marks2 (W : World) : MarksAt (W.alloc (.cells tokC 45)) (.slice (some ⟨W.heap.size, 0, none⟩) 2 2) [⟨2, sgn [49]⟩, ⟨3, sgn [43]⟩] := by
  have hc := heap_alloc_new W (.cells tokC 45)
  refine ⟨some ⟨W.heap.size, 0, none⟩, 2, rfl, .inr ⟨W.heap.size, 0, rfl, fun i hi => ?_⟩⟩
  have hi2 : i < 2 := hi
  rcases (by omega : i = 0 ∨ i = 1) with rfl | rfl <;> refine ⟨?_, ?_, 0, ?_⟩ <;> (rw [cell_of_row _ _ _ _ 45 (0, 0) hc]; rfl)
theorem tsok2 : TsOk [⟨2, sgn [49]⟩, ⟨3, sgn [43]⟩] := by
  intro m hm
  simp only [List.mem_cons, List.not_mem_nil, or_false] at hm
  rcases hm with rfl | rfl <;> exact ⟨by decide, by decide⟩
theorem parse2 (W : World) (A : AEnv (W.alloc (.cells tokC 45))) : Calls Tryd.prog 19 #[.slice (some ⟨W.heap.size, 0, none⟩) 2 2, .int .i64 0] (W.alloc (.cells tokC 45)) fun e w' => e = .returned (.tuple #[.agg c25, .int .i64 2, .int .i64 5]) ∧ Below (W.alloc (.cells tokC 45)).heap.size (W.alloc (.cells tokC 45)) w' := by
  have c := parse _ _ 0 (marks2 W) (fun a n c e => by injection e with e _ _; injection e with e; rw [← e]; simp) A.renv tsok2 (Nat.zero_le _) (by decide)
  rw [noPlus] at c
  exact c.mono fun e w' h => ⟨h.2, h.1⟩
theorem refs3 (W : World) : RfAt (W.alloc (.cells refC 51)) (.slice (some ⟨W.heap.size, 0, none⟩) 3 3) [(⟨#[97]⟩, 0), (⟨#[97]⟩, 1), (⟨#[98]⟩, 2)] := by
  have hc := heap_alloc_new W (.cells refC 51)
  refine ⟨some ⟨W.heap.size, 0, none⟩, 3, rfl, .inr ⟨W.heap.size, rfl, fun i hi => ?_⟩⟩
  have hi3 : i < 3 := hi
  rcases (by omega : i = 0 ∨ i = 1 ∨ i = 2) with rfl | rfl | rfl <;> refine ⟨?_, ?_⟩ <;> (rw [cell_of_row _ _ _ _ 51 (0, 0) hc]; rfl)
theorem StP.twoL {ok : Nat → Prop} {W : World} {x y : Ex} {s t : Value} (op : Nat) (hop : op < 256) (g : Nat) (hg : ok g) (hx : StP ok W x s) (hy : StP ok W y t) (hc : W.heap[g]? = some (.cells #[.int .u8 (x.op : Int), .int .i64 x.n, .string x.name, s, .int .u8 (y.op : Int), .int .i64 y.n, .string y.name, t] 25 (0, 0))) : StP ok W ⟨op, 0, ByteArray.empty, [x, y]⟩ (.slice (some ⟨g, 0, none⟩) 2 2) := StP.two op hop g hg hx hy hc
theorem StP.threeL {ok : Nat → Prop} {W : World} {x y z : Ex} {s t u : Value} (op : Nat) (hop : op < 256) (g : Nat) (hg : ok g) (hx : StP ok W x s) (hy : StP ok W y t) (hz : StP ok W z u) (hc : W.heap[g]? = some (.cells #[.int .u8 (x.op : Int), .int .i64 x.n, .string x.name, s, .int .u8 (y.op : Int), .int .i64 y.n, .string y.name, t, .int .u8 (z.op : Int), .int .i64 z.n, .string z.name, u] 25 (0, 0))) : StP ok W ⟨op, 0, ByteArray.empty, [x, y, z]⟩ (.slice (some ⟨g, 0, none⟩) 3 3) := StP.three op hop g hg hx hy hz hc
set_option maxRecDepth 100000 in
set_option maxHeartbeats 4000000 in
theorem alive (w : World) (A : AEnv w) : Calls Tryd.prog 14 #[] w fun e w' => e = .returned (.bool true) ∧ Below w.heap.size w w' := by
  have AV0 : Hid (AV w [] w) := hid ⟨Below.refl _ _, fun p hp => by cases hp⟩
  have ca := name_at ⟨#[97]⟩
  have cb := name_at ⟨#[98]⟩
  have cc := name_at ⟨#[99]⟩
  have HA := hid A
  clear A
  go_enter Tryd.func14, Tryd.ntmps14
  go_wp2_with (first
    | (go_at_call 30; refine (ca _).mono ?_; rintro e w1 ⟨rfl, b1⟩; have AV1 := hid ((AV0.out.step b1).push #[.int .u8 3, .int .i64 0, .string ⟨#[97]⟩, .slice none 0 0]); clear b1 ca AV0)
    | (go_at_call 30; refine (cb _).mono ?_; rintro e w2 ⟨rfl, b2⟩; have AV2 := hid ((AV1.out.step b2).push #[.int .u8 3, .int .i64 0, .string ⟨#[98]⟩, .slice none 0 0]); clear b2 cb AV1)
    | (go_at_call 30; refine (cc _).mono ?_; rintro e w3 ⟨rfl, b3⟩; have AV3 := hid ((AV2.out.step b3).push #[.int .u8 3, .int .i64 0, .string ⟨#[99]⟩, .slice none 0 0]); clear b3 cc AV2)
    | (go_at_call 15; refine (readE ⟨#[97, 32, 60, 32, 98, 32, 60, 32, 99]⟩ _ (by decide) (HA.out.below AV3.out.below)).mono ?_; rw [show readX (⟨#[97, 32, 60, 32, 98, 32, 60, 32, 99]⟩ : ByteArray).data.toList = none from noLt]; rintro e w4 ⟨b4, x4, ao4, cap4, rfl, _, _⟩; have AV4 := hid ((AV3.out.step b4).push (ex4 x4 (.slice ao4 x4.args.length cap4))); clear b4 AV3)
    | (refine wpList_load_row rfl 25 _ rfl w1.heap.size rfl 25 #[.int .u8 3, .int .i64 0, .string ⟨#[97]⟩, .slice none 0 0] (0, 0) _ (AV4.out.row _ _ (by simp)) Tryd.underlying25 rfl info25 ?_)
    | (obtain ⟨ie, hie, hz, hsz⟩ := inf25; refine wpList_buildSlice rfl 23 25 1 _ rfl #[.int .u8 3, .int .i64 0, .string ⟨#[97]⟩, .slice none 0 0] ie z25 Tryd.underlying23 hie hz (by rw [hsz]; decide) (by rw [hsz]; decide) (by rw [hsz]; simp only [List.map_toArray, List.map_cons, List.map_nil]; exact fill1R _ _ _ _) ?_; clear hie hz hsz; have AV5 := hid (AV4.out.push #[.int .u8 3, .int .i64 0, .string ⟨#[97]⟩, .slice none 0 0]); have S5 := hid (StP.one (ok := TT) (x := exA) (s := N0) 6 (by omega) (w4.heap.size + 1) trivial (leafN _ 97) (push_new (w4.alloc (.cells (ex4 x4 (.slice ao4 x4.args.length cap4)) 25)) (.cells (ex4 exA N0) 25) (w4.heap.size + 1) (by simp))); clear AV4)
    | (go_at_call 21; refine (of_pl _ _ _ _ _).mono ?_; rintro e w6 ⟨rfl, b6⟩; have AV6 := hid (AV5.out.step b6); have c9 := text (opE 6 [exA]) w6 _ (S5.out.st.keep b6) (HA.out.below AV6.out.below).env; rw [show txtE (opE 6 [exA]) = 1 by unfold txtE; rw [chkN1]; rfl] at c9; clear b6 AV5 S5)
    | (go_at_call 9; refine c9.mono ?_; rintro e w7 ⟨rfl, b7⟩; have AV7 := hid (AV6.out.step b7); have d9 := text ⟨1, -1, ByteArray.empty, []⟩ w7 _ (StP.leaf (ok := TT) 1 (-1) _ (by omega) (by omega) (by decide)).st (HA.out.below AV7.out.below).env; rw [show txtE ⟨1, -1, ByteArray.empty, []⟩ = 1 by unfold txtE; rw [chkN2]; rfl] at d9; clear b7 AV6 c9)
    | (go_at_call 9; refine d9.mono ?_; rintro e w8 ⟨rfl, b8⟩; have AV8 := hid (AV7.out.step b8); clear b8 AV7 d9))
  have SA : ∀ (V : World), V.heap[w1.heap.size]? = some (.cells #[.int .u8 3, .int .i64 0, .string ⟨#[97]⟩, .slice none 0 0] 25 (0, 0)) → V.heap[w2.heap.size]? = some (.cells #[.int .u8 3, .int .i64 0, .string ⟨#[98]⟩, .slice none 0 0] 25 (0, 0)) → (fun (V : World) => (V.cell? ⟨w1.heap.size, 0, none⟩ = some (.int .u8 3) ∧ V.cell? ⟨w1.heap.size, 1, none⟩ = some (.int .i64 0) ∧ V.cell? ⟨w1.heap.size, 2, none⟩ = some (.string ⟨#[97]⟩) ∧ V.cell? ⟨w1.heap.size, 3, none⟩ = some (.slice none 0 0)) ∧ V.cell? ⟨w2.heap.size, 0, none⟩ = some (.int .u8 3) ∧ V.cell? ⟨w2.heap.size, 1, none⟩ = some (.int .i64 0) ∧ V.cell? ⟨w2.heap.size, 2, none⟩ = some (.string ⟨#[98]⟩) ∧ V.cell? ⟨w2.heap.size, 3, none⟩ = some (.slice none 0 0)) V := fun V e1 e2 => ⟨⟨(cell_of_row _ _ _ _ 25 (0, 0) e1).trans rfl, (cell_of_row _ _ _ _ 25 (0, 0) e1).trans rfl, (cell_of_row _ _ _ _ 25 (0, 0) e1).trans rfl, (cell_of_row _ _ _ _ 25 (0, 0) e1).trans rfl⟩, (cell_of_row _ _ _ _ 25 (0, 0) e2).trans rfl, (cell_of_row _ _ _ _ 25 (0, 0) e2).trans rfl, (cell_of_row _ _ _ _ 25 (0, 0) e2).trans rfl, (cell_of_row _ _ _ _ 25 (0, 0) e2).trans rfl⟩
  have AVd := hid AV8.out.drew
  rename_i K7 hK7
  have HK7 := hid hK7
  clear hK7 AV8
  refine wp_region_held_drew (S := fun V => (V.cell? ⟨w1.heap.size, 0, none⟩ = some (.int .u8 3) ∧ V.cell? ⟨w1.heap.size, 1, none⟩ = some (.int .i64 0) ∧ V.cell? ⟨w1.heap.size, 2, none⟩ = some (.string ⟨#[97]⟩) ∧ V.cell? ⟨w1.heap.size, 3, none⟩ = some (.slice none 0 0)) ∧ V.cell? ⟨w2.heap.size, 0, none⟩ = some (.int .u8 3) ∧ V.cell? ⟨w2.heap.size, 1, none⟩ = some (.int .i64 0) ∧ V.cell? ⟨w2.heap.size, 2, none⟩ = some (.string ⟨#[98]⟩) ∧ V.cell? ⟨w2.heap.size, 3, none⟩ = some (.slice none 0 0)) (by kernel_rfl) ?_ (fun hHeld => ?_)
  · exact SA _ (AVd.out.row _ _ (by simp)) (AVd.out.row _ _ (by simp))
  refine wpAnyH_take (i := 0) (oi := { dst := some 33, op := Go.Op.load 25 (Go.Operand.tmp 1), type := 25, pos := _, after := #[], guard := none }) (v := ?_) rfl (by kernel_rfl) (by kernel_rfl) (by kernel_rfl) (fun _ _ _ h => h) (Or.inl ⟨by rfl, ?_⟩) (by assumption) ?_
  rotate_left
  · intro w hSw; (try dsimp only at hSw); go_simp <;> with_reducible rfl
  simp only [Act.put, List.setIfInBounds_toArray, List.set_cons_zero, List.set_cons_succ]
  refine wpAnyH_take (i := 1) (oi := { dst := some 34, op := Go.Op.load 25 (Go.Operand.tmp 1), type := 25, pos := _, after := #[], guard := none }) (v := ?_) rfl (by kernel_rfl) (by kernel_rfl) (by kernel_rfl) (fun _ _ _ h => h) (Or.inl ⟨by rfl, ?_⟩) (by assumption) ?_
  rotate_left
  · intro w hSw; (try dsimp only at hSw); go_simp <;> with_reducible rfl
  simp only [Act.put, List.setIfInBounds_toArray, List.set_cons_zero, List.set_cons_succ]
  refine wpAnyH_take (i := 2) (oi := { dst := some 35, op := Go.Op.load 25 (Go.Operand.tmp 2), type := 25, pos := _, after := #[], guard := none }) (v := ?_) rfl (by kernel_rfl) (by kernel_rfl) (by kernel_rfl) (fun _ _ _ h => h) (Or.inl ⟨by rfl, ?_⟩) (by assumption) ?_
  rotate_left
  · intro w hSw; (try dsimp only at hSw); go_simp <;> with_reducible rfl
  simp only [Act.put, List.setIfInBounds_toArray, List.set_cons_zero, List.set_cons_succ]
  refine wpAnyH_ready (rs := [3]) (by kernel_rfl) (by simp) ?_
  refine AllReadyH.cons (o := { dst := some 36, op := Go.Op.buildSlice 23 1 #[(0, Go.Operand.tmp 35)], type := 23, pos := _, after := #[{ on := 2, ground := Go.Ground.data }], guard := none }) rfl (fun K hK => ?_) AllReadyH.nil
  refine if_take (by rfl) ?_
  obtain ⟨ie, hie, hz, hsz⟩ := inf25
  refine wp_buildSlice 23 25 1 _ rfl #[.int .u8 3, .int .i64 0, .string ⟨#[98]⟩, .slice none 0 0] ie z25 Tryd.underlying23 hie hz (by rw [hsz]; decide) (by rw [hsz]; decide) (by rw [hsz]; simp only [List.map_toArray, List.map_cons, List.map_nil]; exact fill1R _ _ _ _) ?_
  clear hie hz hsz
  have AVe := hid (AVd.out.push #[.int .u8 3, .int .i64 0, .string ⟨#[98]⟩, .slice none 0 0])
  refine hK.out _ _ (SA _ (AVe.out.row _ _ (by simp)) (AVe.out.row _ _ (by simp))) (fun _ => ?_)
  clear hK K
  simp only [Act.put, List.setIfInBounds_toArray, List.set_cons_zero, List.set_cons_succ]
  have E1 := hid (StP.one (ok := TT) (x := exB) (s := N0) 19 (by omega) w8.heap.size trivial (leafN _ 98) (heap_alloc_new w8.drew (.cells (ex4 exB N0) 25)))
  refine wpAnyH_ready (rs := [4]) (by kernel_rfl) (by simp) ?_
  refine AllReadyH.cons (o := { dst := some 37, op := Go.Op.call { callee := Go.Callee.value (Go.Operand.func 21), args := #[Go.Operand.const (Go.Value.int Go.IntKind.u8 19), Go.Operand.tmp 36], argTypes := #[22, 23] }, type := 25, pos := _, after := #[{ on := 3, ground := Go.Ground.data }], guard := none }) rfl (fun K hK => ?_) AllReadyH.nil
  go_simp
  refine (of_pl _ _ _ _ _).mono ?_
  rintro e u1 ⟨rfl, bu1⟩
  have AVf := hid (AVe.out.step bu1)
  have E1 := hid (E1.out.carry fun b _ hl => bu1.block b hl)
  go_wp2_with fail
  refine hK.out _ _ (SA _ (AVf.out.row _ _ (by simp)) (AVf.out.row _ _ (by simp))) (fun _ => ?_)
  clear hK K
  refine wpAnyH_ready (rs := [5]) (by kernel_rfl) (by simp) ?_
  refine AllReadyH.cons (o := { dst := some 38, op := Go.Op.buildSlice 23 2 #[(0, Go.Operand.tmp 34), (1, Go.Operand.tmp 37)], type := 23, pos := _, after := #[{ on := 1, ground := Go.Ground.data }, { on := 4, ground := Go.Ground.data }], guard := none }) rfl (fun K hK => ?_) AllReadyH.nil
  refine if_take (by rfl) ?_
  obtain ⟨ie, hie, hz, hsz⟩ := inf25
  refine wp_buildSlice 23 25 2 _ rfl #[.int .u8 3, .int .i64 0, .string ⟨#[97]⟩, .slice none 0 0, .int .u8 19, .int .i64 0, .string ⟨#[]⟩, .slice (some ⟨w8.heap.size, 0, none⟩) 1 1] ie z25 Tryd.underlying23 hie hz (by rw [hsz]; decide) (by rw [hsz]; decide) (by rw [hsz]; simp only [List.map_toArray, List.map_cons, List.map_nil]; exact fill2R _ _ _ _ _ _ _ _) ?_
  clear hie hz hsz
  have AVg := hid (AVf.out.push #[.int .u8 3, .int .i64 0, .string ⟨#[97]⟩, .slice none 0 0, .int .u8 19, .int .i64 0, .string ⟨#[]⟩, .slice (some ⟨w8.heap.size, 0, none⟩) 1 1])
  refine hK.out _ _ (SA _ (AVg.out.row _ _ (by simp)) (AVg.out.row _ _ (by simp))) (fun _ => ?_)
  clear hK K
  simp only [Act.put, List.setIfInBounds_toArray, List.set_cons_zero, List.set_cons_succ]
  have E2 := hid (StP.two (ok := TT) (x := exA) (s := N0) (y := opE 19 [exB]) (t := .slice (some ⟨w8.heap.size, 0, none⟩) 1 1) 6 (by omega) u1.heap.size trivial (leafN _ 97) (E1.out.carry fun b _ hl => Below.heap_alloc _ _ _ hl) (by rw [show ex4 exA N0 ++ ex4 (opE 19 [exB]) (.slice (some ⟨w8.heap.size, 0, none⟩) 1 1) = #[.int .u8 3, .int .i64 0, .string ⟨#[97]⟩, .slice none 0 0, .int .u8 19, .int .i64 0, .string ⟨#[]⟩, .slice (some ⟨w8.heap.size, 0, none⟩) 1 1] from rfl]; exact heap_alloc_new u1 _))
  refine wpAnyH_ready (rs := [6]) (by kernel_rfl) (by simp) ?_
  refine AllReadyH.cons (o := { dst := some 39, op := Go.Op.call { callee := Go.Callee.value (Go.Operand.func 21), args := #[Go.Operand.const (Go.Value.int Go.IntKind.u8 6), Go.Operand.tmp 38], argTypes := #[22, 23] }, type := 25, pos := _, after := #[{ on := 5, ground := Go.Ground.data }, { on := 4, ground := Go.Ground.chain }], guard := none }) rfl (fun K hK => ?_) AllReadyH.nil
  go_simp
  refine (of_pl _ _ _ _ _).mono ?_
  rintro e u2 ⟨rfl, bu2⟩
  have AVh := hid (AVg.out.step bu2)
  have E2 := hid (E2.out.carry fun b _ hl => bu2.block b hl)
  go_wp2_with fail
  refine hK.out _ _ (SA _ (AVh.out.row _ _ (by simp)) (AVh.out.row _ _ (by simp))) (fun _ => ?_)
  clear hK K
  refine wpAnyH_ready (rs := [7]) (by kernel_rfl) (by simp) ?_
  refine AllReadyH.cons (o := { dst := some 40, op := Go.Op.buildSlice 23 1 #[(0, Go.Operand.tmp 39)], type := 23, pos := _, after := #[{ on := 6, ground := Go.Ground.data }], guard := none }) rfl (fun K hK => ?_) AllReadyH.nil
  refine if_take (by rfl) ?_
  obtain ⟨ie, hie, hz, hsz⟩ := inf25
  refine wp_buildSlice 23 25 1 _ rfl #[.int .u8 6, .int .i64 0, .string ⟨#[]⟩, .slice (some ⟨u1.heap.size, 0, none⟩) 2 2] ie z25 Tryd.underlying23 hie hz (by rw [hsz]; decide) (by rw [hsz]; decide) (by rw [hsz]; simp only [List.map_toArray, List.map_cons, List.map_nil]; exact fill1R _ _ _ _) ?_
  clear hie hz hsz
  have AVi := hid (AVh.out.push #[.int .u8 6, .int .i64 0, .string ⟨#[]⟩, .slice (some ⟨u1.heap.size, 0, none⟩) 2 2])
  refine hK.out _ _ (SA _ (AVi.out.row _ _ (by simp)) (AVi.out.row _ _ (by simp))) (fun _ => ?_)
  clear hK K
  simp only [Act.put, List.setIfInBounds_toArray, List.set_cons_zero, List.set_cons_succ]
  have E3 := hid (StP.one (ok := TT) (x := opE 6 [exA, opE 19 [exB]]) (s := .slice (some ⟨u1.heap.size, 0, none⟩) 2 2) 19 (by omega) u2.heap.size trivial (E2.out.carry fun b _ hl => Below.heap_alloc _ _ _ hl) (heap_alloc_new u2 (.cells (ex4 (opE 6 [exA, opE 19 [exB]]) (.slice (some ⟨u1.heap.size, 0, none⟩) 2 2)) 25)))
  refine wpAnyH_ready (rs := [8]) (by kernel_rfl) (by simp) ?_
  refine AllReadyH.cons (o := { dst := some 41, op := Go.Op.call { callee := Go.Callee.value (Go.Operand.func 21), args := #[Go.Operand.const (Go.Value.int Go.IntKind.u8 19), Go.Operand.tmp 40], argTypes := #[22, 23] }, type := 25, pos := _, after := #[{ on := 7, ground := Go.Ground.data }, { on := 6, ground := Go.Ground.chain }], guard := none }) rfl (fun K hK => ?_) AllReadyH.nil
  go_simp
  refine (of_pl _ _ _ _ _).mono ?_
  rintro e u3 ⟨rfl, bu3⟩
  have AVj := hid (AVi.out.step bu3)
  have E3 := hid (E3.out.carry fun b _ hl => bu3.block b hl)
  go_wp2_with fail
  refine hK.out _ _ (SA _ (AVj.out.row _ _ (by simp)) (AVj.out.row _ _ (by simp))) (fun _ => ?_)
  clear hK K
  refine wpAnyH_ready (rs := [9]) (by kernel_rfl) (by simp) ?_
  refine AllReadyH.cons (o := { dst := some 42, op := Go.Op.buildSlice 23 2 #[(0, Go.Operand.tmp 33), (1, Go.Operand.tmp 41)], type := 23, pos := _, after := #[{ on := 0, ground := Go.Ground.data }, { on := 8, ground := Go.Ground.data }], guard := none }) rfl (fun K hK => ?_) AllReadyH.nil
  refine if_take (by rfl) ?_
  obtain ⟨ie, hie, hz, hsz⟩ := inf25
  refine wp_buildSlice 23 25 2 _ rfl #[.int .u8 3, .int .i64 0, .string ⟨#[97]⟩, .slice none 0 0, .int .u8 19, .int .i64 0, .string ⟨#[]⟩, .slice (some ⟨u2.heap.size, 0, none⟩) 1 1] ie z25 Tryd.underlying23 hie hz (by rw [hsz]; decide) (by rw [hsz]; decide) (by rw [hsz]; simp only [List.map_toArray, List.map_cons, List.map_nil]; exact fill2R _ _ _ _ _ _ _ _) ?_
  clear hie hz hsz
  have AVk := hid (AVj.out.push #[.int .u8 3, .int .i64 0, .string ⟨#[97]⟩, .slice none 0 0, .int .u8 19, .int .i64 0, .string ⟨#[]⟩, .slice (some ⟨u2.heap.size, 0, none⟩) 1 1])
  refine hK.out _ _ (SA _ (AVk.out.row _ _ (by simp)) (AVk.out.row _ _ (by simp))) (fun _ => ?_)
  clear hK K
  simp only [Act.put, List.setIfInBounds_toArray, List.set_cons_zero, List.set_cons_succ]
  have E4 := hid (StP.two (ok := TT) (x := exA) (s := N0) (y := opE 19 [opE 6 [exA, opE 19 [exB]]]) (t := .slice (some ⟨u2.heap.size, 0, none⟩) 1 1) 6 (by omega) u3.heap.size trivial (leafN _ 97) (E3.out.carry fun b _ hl => Below.heap_alloc _ _ _ hl) (by rw [show ex4 exA N0 ++ ex4 (opE 19 [opE 6 [exA, opE 19 [exB]]]) (.slice (some ⟨u2.heap.size, 0, none⟩) 1 1) = #[.int .u8 3, .int .i64 0, .string ⟨#[97]⟩, .slice none 0 0, .int .u8 19, .int .i64 0, .string ⟨#[]⟩, .slice (some ⟨u2.heap.size, 0, none⟩) 1 1] from rfl]; exact heap_alloc_new u3 _))
  refine wpAnyH_ready (rs := [10]) (by kernel_rfl) (by simp) ?_
  refine AllReadyH.cons (o := { dst := some 43, op := Go.Op.call { callee := Go.Callee.value (Go.Operand.func 21), args := #[Go.Operand.const (Go.Value.int Go.IntKind.u8 6), Go.Operand.tmp 42], argTypes := #[22, 23] }, type := 25, pos := _, after := #[{ on := 9, ground := Go.Ground.data }, { on := 8, ground := Go.Ground.chain }], guard := none }) rfl (fun K hK => ?_) AllReadyH.nil
  go_simp
  refine (of_pl _ _ _ _ _).mono ?_
  rintro e u4 ⟨rfl, bu4⟩
  have AVl := hid (AVk.out.step bu4)
  have E4 := hid (E4.out.carry fun b _ hl => bu4.block b hl)
  go_wp2_with fail
  refine hK.out _ _ (SA _ (AVl.out.row _ _ (by simp)) (AVl.out.row _ _ (by simp))) (fun _ => ?_)
  clear hK K
  refine wpAnyH_ready (rs := [11]) (by kernel_rfl) (by simp) ?_
  refine AllReadyH.cons (o := { dst := some 44, op := Go.Op.call { callee := Go.Callee.value (Go.Operand.func 20), args := #[Go.Operand.tmp 43], argTypes := #[25] }, type := 47, pos := _, after := #[{ on := 10, ground := Go.Ground.data }, { on := 10, ground := Go.Ground.chain }], guard := none }) rfl (fun K hK => ?_) AllReadyH.nil
  go_simp
  refine (refs 6 eR (.slice (some ⟨u3.heap.size, 0, none⟩) 2 2) u4 E4.out.st nmR (by omega) cntR).mono ?_
  rintro e u5 ⟨rv, rfl, hrv, bu5⟩
  rw [gatR] at hrv
  have RV := hid (RfAt.of_own hrv)
  have AVm := hid (AVl.out.step bu5)
  go_wp2_with fail
  refine hK.out _ _ (SA _ (AVm.out.row _ _ (by simp)) (AVm.out.row _ _ (by simp))) (fun _ => ?_)
  clear hK K
  refine wpAnyH_take (i := 12) (oi := { dst := some 10, op := Go.Op.assign (Go.Operand.tmp 44), type := 47, pos := _, after := #[{ on := 11, ground := Go.Ground.data }, { on := 11, ground := Go.Ground.chain }, { on := 0, ground := Go.Ground.phase }, { on := 1, ground := Go.Ground.phase }, { on := 2, ground := Go.Ground.phase }, { on := 3, ground := Go.Ground.phase }, { on := 4, ground := Go.Ground.phase }, { on := 5, ground := Go.Ground.phase }, { on := 6, ground := Go.Ground.phase }, { on := 7, ground := Go.Ground.phase }, { on := 8, ground := Go.Ground.phase }, { on := 9, ground := Go.Ground.phase }, { on := 10, ground := Go.Ground.phase }, { on := 11, ground := Go.Ground.phase }], guard := none }) (v := ?_) rfl (by kernel_rfl) (by kernel_rfl) (by kernel_rfl) (fun _ _ _ h => h) (Or.inl ⟨by rfl, ?_⟩) (by assumption) ?_
  rotate_left
  · intro w hSw; (try dsimp only at hSw); go_simp <;> with_reducible rfl
  simp only [Act.put, List.setIfInBounds_toArray, List.set_cons_zero, List.set_cons_succ]
  refine wpAnyH_done (by kernel_rfl) ?_ _
  refine HK7.out _ _ ?_
  clear HK7 K7 SA E1 E2 E3 E4 AVd AVe AVf AVg AVh AVi AVj AVk AVl hrv bu1 bu2 bu3 bu4 bu5
  go_wp2_with (first
    | (obtain ⟨ie, hie, hz, hsz⟩ := inf45; refine wpList_buildSlice rfl 38 45 2 _ rfl tokC ie (.agg #[.int .u8 0, .string ⟨#[]⟩, .int .i64 0]) Tryd.underlying38 hie hz (by rw [hsz]; decide) (by rw [hsz]; decide) (by rw [hsz]; simp only [List.map_toArray, List.map_cons, List.map_nil]; exact fill45) ?_; clear hie hz hsz; have bt := (Below.refl u5.heap.size u5).alloc (Nat.le_refl _) (.cells tokC 45); have AVn := hid (AVm.out.step bt); have RVn := hid (RV.out.keep bt); have c19 := parse2 u5 (HA.out.below AVn.out.below); clear bt AVm RV)
    | (go_at_call 19; refine c19.mono ?_; rintro e w9 ⟨rfl, b9⟩; have AVx := hid ((AVn.out.step b9).push c25); have RVx := hid ((RVn.out.keep b9).keep ((Below.refl w9.heap.size w9).alloc (Nat.le_refl _) (.cells c25 25))); clear b9 c19 AVn RVn))
  simp only [List.append_eq, List.cons_append, List.nil_append]
  have SB : ∀ (V : World), V.heap[w1.heap.size]? = some (.cells #[.int .u8 3, .int .i64 0, .string ⟨#[97]⟩, .slice none 0 0] 25 (0, 0)) → V.heap[w2.heap.size]? = some (.cells #[.int .u8 3, .int .i64 0, .string ⟨#[98]⟩, .slice none 0 0] 25 (0, 0)) → V.heap[w3.heap.size]? = some (.cells #[.int .u8 3, .int .i64 0, .string ⟨#[99]⟩, .slice none 0 0] 25 (0, 0)) → (fun (V : World) => (V.cell? ⟨w1.heap.size, 0, none⟩ = some (.int .u8 3) ∧ V.cell? ⟨w1.heap.size, 1, none⟩ = some (.int .i64 0) ∧ V.cell? ⟨w1.heap.size, 2, none⟩ = some (.string ⟨#[97]⟩) ∧ V.cell? ⟨w1.heap.size, 3, none⟩ = some (.slice none 0 0)) ∧ (V.cell? ⟨w2.heap.size, 0, none⟩ = some (.int .u8 3) ∧ V.cell? ⟨w2.heap.size, 1, none⟩ = some (.int .i64 0) ∧ V.cell? ⟨w2.heap.size, 2, none⟩ = some (.string ⟨#[98]⟩) ∧ V.cell? ⟨w2.heap.size, 3, none⟩ = some (.slice none 0 0)) ∧ (V.cell? ⟨w3.heap.size, 0, none⟩ = some (.int .u8 3) ∧ V.cell? ⟨w3.heap.size, 1, none⟩ = some (.int .i64 0) ∧ V.cell? ⟨w3.heap.size, 2, none⟩ = some (.string ⟨#[99]⟩) ∧ V.cell? ⟨w3.heap.size, 3, none⟩ = some (.slice none 0 0))) V := fun V e1 e2 e3 => ⟨⟨(cell_of_row _ _ _ _ 25 (0, 0) e1).trans rfl, (cell_of_row _ _ _ _ 25 (0, 0) e1).trans rfl, (cell_of_row _ _ _ _ 25 (0, 0) e1).trans rfl, (cell_of_row _ _ _ _ 25 (0, 0) e1).trans rfl⟩, ⟨(cell_of_row _ _ _ _ 25 (0, 0) e2).trans rfl, (cell_of_row _ _ _ _ 25 (0, 0) e2).trans rfl, (cell_of_row _ _ _ _ 25 (0, 0) e2).trans rfl, (cell_of_row _ _ _ _ 25 (0, 0) e2).trans rfl⟩, ⟨(cell_of_row _ _ _ _ 25 (0, 0) e3).trans rfl, (cell_of_row _ _ _ _ 25 (0, 0) e3).trans rfl, (cell_of_row _ _ _ _ 25 (0, 0) e3).trans rfl, (cell_of_row _ _ _ _ 25 (0, 0) e3).trans rfl⟩⟩
  have AV0 := AVx
  have RV0 := RVx
  rename_i K9 hK9
  have HK9 := hid hK9
  clear hK9 AVx RVx
  obtain ⟨v0, hv0⟩ : ∃ v0, v0 = w9.alloc (.cells #[.int .u8 0, .int .i64 0, .string ⟨#[]⟩, .slice none 0 0] 25) := ⟨_, rfl⟩
  have AV0 : Hid (AV w [(w1.heap.size, #[.int .u8 3, .int .i64 0, .string ⟨#[97]⟩, .slice none 0 0]), (w2.heap.size, #[.int .u8 3, .int .i64 0, .string ⟨#[98]⟩, .slice none 0 0]), (w3.heap.size, #[.int .u8 3, .int .i64 0, .string ⟨#[99]⟩, .slice none 0 0])] v0) := by rw [hv0]; exact hid (AV0.out.less (by intro p hp; simp only [List.mem_cons, List.not_mem_nil, or_false] at hp; rcases hp with rfl | rfl | rfl <;> simp))
  have RV0 : Hid (RfAt v0 rv [(⟨#[97]⟩, 0), (⟨#[97]⟩, 1), (⟨#[98]⟩, 2)]) := by rw [hv0]; exact RV0
  rw [← hv0]
  clear hv0 hHeld
  refine wp_region_held_drew (S := fun V => (V.cell? ⟨w1.heap.size, 0, none⟩ = some (.int .u8 3) ∧ V.cell? ⟨w1.heap.size, 1, none⟩ = some (.int .i64 0) ∧ V.cell? ⟨w1.heap.size, 2, none⟩ = some (.string ⟨#[97]⟩) ∧ V.cell? ⟨w1.heap.size, 3, none⟩ = some (.slice none 0 0)) ∧ (V.cell? ⟨w2.heap.size, 0, none⟩ = some (.int .u8 3) ∧ V.cell? ⟨w2.heap.size, 1, none⟩ = some (.int .i64 0) ∧ V.cell? ⟨w2.heap.size, 2, none⟩ = some (.string ⟨#[98]⟩) ∧ V.cell? ⟨w2.heap.size, 3, none⟩ = some (.slice none 0 0)) ∧ (V.cell? ⟨w3.heap.size, 0, none⟩ = some (.int .u8 3) ∧ V.cell? ⟨w3.heap.size, 1, none⟩ = some (.int .i64 0) ∧ V.cell? ⟨w3.heap.size, 2, none⟩ = some (.string ⟨#[99]⟩) ∧ V.cell? ⟨w3.heap.size, 3, none⟩ = some (.slice none 0 0))) (by kernel_rfl) ?_ (fun hHeld => ?_)
  · exact (SB _ (AV0.out.drew.row w1.heap.size #[.int .u8 3, .int .i64 0, .string ⟨#[97]⟩, .slice none 0 0] (by simp)) (AV0.out.drew.row w2.heap.size #[.int .u8 3, .int .i64 0, .string ⟨#[98]⟩, .slice none 0 0] (by simp)) (AV0.out.drew.row w3.heap.size #[.int .u8 3, .int .i64 0, .string ⟨#[99]⟩, .slice none 0 0] (by simp)))
  refine wpAnyH_take (i := 0) (oi := { dst := some 53, op := Go.Op.move (Go.Operand.tmp 5), type := 4, pos := _, after := #[], guard := none }) (v := ?_) rfl (by kernel_rfl) (by kernel_rfl) (by kernel_rfl) (fun _ _ _ h => h) (Or.inl ⟨by rfl, ?_⟩) (by assumption) ?_
  rotate_left
  · intro w hSw; (try dsimp only at hSw); go_simp <;> with_reducible rfl
  simp only [Act.put, List.setIfInBounds_toArray, List.set_cons_zero, List.set_cons_succ]
  refine wpAnyH_take (i := 1) (oi := { dst := some 54, op := Go.Op.unOp Go.UnOp.not 4 (Go.Operand.tmp 53), type := 4, pos := _, after := #[{ on := 0, ground := Go.Ground.data }], guard := none }) (v := ?_) rfl (by kernel_rfl) (by kernel_rfl) (by kernel_rfl) (fun _ _ _ h => h) (Or.inl ⟨by rfl, ?_⟩) (by assumption) ?_
  rotate_left
  · intro w hSw; (try dsimp only at hSw); go_simp <;> with_reducible rfl
  simp only [Act.put, List.setIfInBounds_toArray, List.set_cons_zero, List.set_cons_succ]
  refine wpAnyH_take (i := 2) (oi := { dst := some 55, op := Go.Op.move (Go.Operand.tmp 54), type := 4, pos := _, after := #[{ on := 1, ground := Go.Ground.data }], guard := none }) (v := ?_) rfl (by kernel_rfl) (by kernel_rfl) (by kernel_rfl) (fun _ _ _ h => h) (Or.inl ⟨by rfl, ?_⟩) (by assumption) ?_
  rotate_left
  · intro w hSw; (try dsimp only at hSw); go_simp <;> with_reducible rfl
  simp only [Act.put, List.setIfInBounds_toArray, List.set_cons_zero, List.set_cons_succ]
  refine wpAnyH_take (i := 3) (oi := { dst := some 56, op := Go.Op.move (Go.Operand.tmp 7), type := 28, pos := _, after := #[{ on := 2, ground := Go.Ground.guard }], guard := some (2, true) }) (v := ?_) rfl (by kernel_rfl) (by kernel_rfl) (by kernel_rfl) (fun _ _ _ h => h) (Or.inl ⟨by rfl, ?_⟩) (by assumption) ?_
  rotate_left
  · intro w hSw; (try dsimp only at hSw); go_simp <;> with_reducible rfl
  simp only [Act.put, List.setIfInBounds_toArray, List.set_cons_zero, List.set_cons_succ]
  refine wpAnyH_take (i := 4) (oi := { dst := some 57, op := Go.Op.binOp Go.BinOp.eql 28 (Go.Operand.tmp 56) (Go.Operand.const (Go.Value.int Go.IntKind.i64 1)) 28, type := 4, pos := _, after := #[{ on := 3, ground := Go.Ground.data }, { on := 2, ground := Go.Ground.guard }], guard := some (2, true) }) (v := ?_) rfl (by kernel_rfl) (by kernel_rfl) (by kernel_rfl) (fun _ _ _ h => h) (Or.inl ⟨by rfl, ?_⟩) (by assumption) ?_
  rotate_left
  · intro w hSw; (try dsimp only at hSw); go_simp <;> with_reducible rfl
  simp only [Act.put, List.setIfInBounds_toArray, List.set_cons_zero, List.set_cons_succ]
  refine wpAnyH_take (i := 5) (oi := { dst := some 58, op := Go.Op.pick (Go.Operand.tmp 55) (Go.Operand.tmp 57) (Go.Operand.const (Go.Value.bool false)), type := 4, pos := _, after := #[{ on := 2, ground := Go.Ground.data }, { on := 4, ground := Go.Ground.data }], guard := none }) (v := ?_) rfl (by kernel_rfl) (by kernel_rfl) (by kernel_rfl) (fun _ _ _ h => h) (Or.inl ⟨by rfl, ?_⟩) (by assumption) ?_
  rotate_left
  · intro w hSw; (try dsimp only at hSw); go_simp <;> with_reducible rfl
  simp only [Act.put, List.setIfInBounds_toArray, List.set_cons_zero, List.set_cons_succ]
  refine wpAnyH_take (i := 6) (oi := { dst := some 59, op := Go.Op.move (Go.Operand.tmp 58), type := 4, pos := _, after := #[{ on := 5, ground := Go.Ground.data }, { on := 2, ground := Go.Ground.chain }], guard := none }) (v := ?_) rfl (by kernel_rfl) (by kernel_rfl) (by kernel_rfl) (fun _ _ _ h => h) (Or.inl ⟨by rfl, ?_⟩) (by assumption) ?_
  rotate_left
  · intro w hSw; (try dsimp only at hSw); go_simp <;> with_reducible rfl
  simp only [Act.put, List.setIfInBounds_toArray, List.set_cons_zero, List.set_cons_succ]
  refine wpAnyH_take (i := 7) (oi := { dst := some 60, op := Go.Op.move (Go.Operand.tmp 9), type := 28, pos := _, after := #[{ on := 6, ground := Go.Ground.guard }], guard := some (6, true) }) (v := ?_) rfl (by kernel_rfl) (by kernel_rfl) (by kernel_rfl) (fun _ _ _ h => h) (Or.inl ⟨by rfl, ?_⟩) (by assumption) ?_
  rotate_left
  · intro w hSw; (try dsimp only at hSw); go_simp <;> with_reducible rfl
  simp only [Act.put, List.setIfInBounds_toArray, List.set_cons_zero, List.set_cons_succ]
  refine wpAnyH_take (i := 8) (oi := { dst := some 61, op := Go.Op.binOp Go.BinOp.eql 28 (Go.Operand.tmp 60) (Go.Operand.const (Go.Value.int Go.IntKind.i64 1)) 28, type := 4, pos := _, after := #[{ on := 7, ground := Go.Ground.data }, { on := 6, ground := Go.Ground.guard }], guard := some (6, true) }) (v := ?_) rfl (by kernel_rfl) (by kernel_rfl) (by kernel_rfl) (fun _ _ _ h => h) (Or.inl ⟨by rfl, ?_⟩) (by assumption) ?_
  rotate_left
  · intro w hSw; (try dsimp only at hSw); go_simp <;> with_reducible rfl
  simp only [Act.put, List.setIfInBounds_toArray, List.set_cons_zero, List.set_cons_succ]
  refine wpAnyH_take (i := 9) (oi := { dst := some 62, op := Go.Op.pick (Go.Operand.tmp 59) (Go.Operand.tmp 61) (Go.Operand.const (Go.Value.bool false)), type := 4, pos := _, after := #[{ on := 6, ground := Go.Ground.data }, { on := 8, ground := Go.Ground.data }], guard := none }) (v := ?_) rfl (by kernel_rfl) (by kernel_rfl) (by kernel_rfl) (fun _ _ _ h => h) (Or.inl ⟨by rfl, ?_⟩) (by assumption) ?_
  rotate_left
  · intro w hSw; (try dsimp only at hSw); go_simp <;> with_reducible rfl
  simp only [Act.put, List.setIfInBounds_toArray, List.set_cons_zero, List.set_cons_succ]
  refine wpAnyH_take (i := 10) (oi := { dst := some 63, op := Go.Op.move (Go.Operand.tmp 62), type := 4, pos := _, after := #[{ on := 9, ground := Go.Ground.data }, { on := 6, ground := Go.Ground.chain }], guard := none }) (v := ?_) rfl (by kernel_rfl) (by kernel_rfl) (by kernel_rfl) (fun _ _ _ h => h) (Or.inl ⟨by rfl, ?_⟩) (by assumption) ?_
  rotate_left
  · intro w hSw; (try dsimp only at hSw); go_simp <;> with_reducible rfl
  simp only [Act.put, List.setIfInBounds_toArray, List.set_cons_zero, List.set_cons_succ]
  refine wpAnyH_take (i := 11) (oi := { dst := some 64, op := Go.Op.move (Go.Operand.tmp 13), type := 28, pos := _, after := #[{ on := 10, ground := Go.Ground.guard }], guard := some (10, true) }) (v := ?_) rfl (by kernel_rfl) (by kernel_rfl) (by kernel_rfl) (fun _ _ _ h => h) (Or.inl ⟨by rfl, ?_⟩) (by assumption) ?_
  rotate_left
  · intro w hSw; (try dsimp only at hSw); go_simp <;> with_reducible rfl
  simp only [Act.put, List.setIfInBounds_toArray, List.set_cons_zero, List.set_cons_succ]
  refine wpAnyH_take (i := 12) (oi := { dst := some 65, op := Go.Op.binOp Go.BinOp.eql 28 (Go.Operand.tmp 64) (Go.Operand.const (Go.Value.int Go.IntKind.i64 5)) 28, type := 4, pos := _, after := #[{ on := 11, ground := Go.Ground.data }, { on := 10, ground := Go.Ground.guard }], guard := some (10, true) }) (v := ?_) rfl (by kernel_rfl) (by kernel_rfl) (by kernel_rfl) (fun _ _ _ h => h) (Or.inl ⟨by rfl, ?_⟩) (by assumption) ?_
  rotate_left
  · intro w hSw; (try dsimp only at hSw); go_simp <;> with_reducible rfl
  simp only [Act.put, List.setIfInBounds_toArray, List.set_cons_zero, List.set_cons_succ]
  refine wpAnyH_take (i := 13) (oi := { dst := some 66, op := Go.Op.pick (Go.Operand.tmp 63) (Go.Operand.tmp 65) (Go.Operand.const (Go.Value.bool false)), type := 4, pos := _, after := #[{ on := 10, ground := Go.Ground.data }, { on := 12, ground := Go.Ground.data }], guard := none }) (v := ?_) rfl (by kernel_rfl) (by kernel_rfl) (by kernel_rfl) (fun _ _ _ h => h) (Or.inl ⟨by rfl, ?_⟩) (by assumption) ?_
  rotate_left
  · intro w hSw; (try dsimp only at hSw); go_simp <;> with_reducible rfl
  simp only [Act.put, List.setIfInBounds_toArray, List.set_cons_zero, List.set_cons_succ]
  refine wpAnyH_take (i := 14) (oi := { dst := some 67, op := Go.Op.move (Go.Operand.tmp 66), type := 4, pos := _, after := #[{ on := 13, ground := Go.Ground.data }, { on := 10, ground := Go.Ground.chain }], guard := none }) (v := ?_) rfl (by kernel_rfl) (by kernel_rfl) (by kernel_rfl) (fun _ _ _ h => h) (Or.inl ⟨by rfl, ?_⟩) (by assumption) ?_
  rotate_left
  · intro w hSw; (try dsimp only at hSw); go_simp <;> with_reducible rfl
  simp only [Act.put, List.setIfInBounds_toArray, List.set_cons_zero, List.set_cons_succ]
  refine wpAnyH_take (i := 15) (oi := { dst := some 68, op := Go.Op.move (Go.Operand.tmp 12), type := 3, pos := _, after := #[{ on := 14, ground := Go.Ground.guard }], guard := some (14, true) }) (v := ?_) rfl (by kernel_rfl) (by kernel_rfl) (by kernel_rfl) (fun _ _ _ h => h) (Or.inl ⟨by rfl, ?_⟩) (by assumption) ?_
  rotate_left
  · intro w hSw; (try dsimp only at hSw); go_simp <;> with_reducible rfl
  simp only [Act.put, List.setIfInBounds_toArray, List.set_cons_zero, List.set_cons_succ]
  refine wpAnyH_take (i := 16) (oi := { dst := some 69, op := Go.Op.binOp Go.BinOp.eql 3 (Go.Operand.tmp 68) (Go.Operand.const (Go.Value.int Go.IntKind.i64 2)) 3, type := 4, pos := _, after := #[{ on := 15, ground := Go.Ground.data }, { on := 14, ground := Go.Ground.guard }], guard := some (14, true) }) (v := ?_) rfl (by kernel_rfl) (by kernel_rfl) (by kernel_rfl) (fun _ _ _ h => h) (Or.inl ⟨by rfl, ?_⟩) (by assumption) ?_
  rotate_left
  · intro w hSw; (try dsimp only at hSw); go_simp <;> with_reducible rfl
  simp only [Act.put, List.setIfInBounds_toArray, List.set_cons_zero, List.set_cons_succ]
  refine wpAnyH_take (i := 17) (oi := { dst := some 70, op := Go.Op.pick (Go.Operand.tmp 67) (Go.Operand.tmp 69) (Go.Operand.const (Go.Value.bool false)), type := 4, pos := _, after := #[{ on := 14, ground := Go.Ground.data }, { on := 16, ground := Go.Ground.data }], guard := none }) (v := ?_) rfl (by kernel_rfl) (by kernel_rfl) (by kernel_rfl) (fun _ _ _ h => h) (Or.inl ⟨by rfl, ?_⟩) (by assumption) ?_
  rotate_left
  · intro w hSw; (try dsimp only at hSw); go_simp <;> with_reducible rfl
  simp only [Act.put, List.setIfInBounds_toArray, List.set_cons_zero, List.set_cons_succ]
  refine wpAnyH_take (i := 18) (oi := { dst := some 71, op := Go.Op.move (Go.Operand.tmp 70), type := 4, pos := _, after := #[{ on := 17, ground := Go.Ground.data }, { on := 14, ground := Go.Ground.chain }], guard := none }) (v := ?_) rfl (by kernel_rfl) (by kernel_rfl) (by kernel_rfl) (fun _ _ _ h => h) (Or.inl ⟨by rfl, ?_⟩) (by assumption) ?_
  rotate_left
  · intro w hSw; (try dsimp only at hSw); go_simp <;> with_reducible rfl
  simp only [Act.put, List.setIfInBounds_toArray, List.set_cons_zero, List.set_cons_succ]
  refine wpAnyH_take (i := 19) (oi := { dst := some 72, op := Go.Op.move (Go.Operand.tmp 10), type := 47, pos := _, after := #[{ on := 18, ground := Go.Ground.guard }], guard := some (18, true) }) (v := ?_) rfl (by kernel_rfl) (by kernel_rfl) (by kernel_rfl) (fun _ _ _ h => h) (Or.inl ⟨by rfl, ?_⟩) (by assumption) ?_
  rotate_left
  · intro w hSw; (try dsimp only at hSw); go_simp <;> with_reducible rfl
  simp only [Act.put, List.setIfInBounds_toArray, List.set_cons_zero, List.set_cons_succ]
  refine wpAnyH_take (i := 20) (oi := { dst := some 73, op := Go.Op.build 51 #[(0, Go.Operand.const (Go.Value.string { data := #[97] }))], type := 51, pos := _, after := #[{ on := 18, ground := Go.Ground.guard }], guard := some (18, true) }) (v := ?_) rfl (by kernel_rfl) (by kernel_rfl) (by kernel_rfl) (fun _ _ _ h => h) (Or.inl ⟨by rfl, ?_⟩) (by assumption) ?_
  rotate_left
  · intro w hSw; (try dsimp only at hSw); go_simp <;> with_reducible rfl
  simp only [Act.put, List.setIfInBounds_toArray, List.set_cons_zero, List.set_cons_succ]
  refine wpAnyH_take (i := 21) (oi := { dst := some 74, op := Go.Op.build 51 #[(0, Go.Operand.const (Go.Value.string { data := #[97] })), (1, Go.Operand.const (Go.Value.int Go.IntKind.i64 1))], type := 51, pos := _, after := #[{ on := 18, ground := Go.Ground.guard }], guard := some (18, true) }) (v := ?_) rfl (by kernel_rfl) (by kernel_rfl) (by kernel_rfl) (fun _ _ _ h => h) (Or.inl ⟨by rfl, ?_⟩) (by assumption) ?_
  rotate_left
  · intro w hSw; (try dsimp only at hSw); go_simp <;> with_reducible rfl
  simp only [Act.put, List.setIfInBounds_toArray, List.set_cons_zero, List.set_cons_succ]
  refine wpAnyH_take (i := 22) (oi := { dst := some 75, op := Go.Op.build 51 #[(0, Go.Operand.const (Go.Value.string { data := #[98] })), (1, Go.Operand.const (Go.Value.int Go.IntKind.i64 2))], type := 51, pos := _, after := #[{ on := 18, ground := Go.Ground.guard }], guard := some (18, true) }) (v := ?_) rfl (by kernel_rfl) (by kernel_rfl) (by kernel_rfl) (fun _ _ _ h => h) (Or.inl ⟨by rfl, ?_⟩) (by assumption) ?_
  rotate_left
  · intro w hSw; (try dsimp only at hSw); go_simp <;> with_reducible rfl
  simp only [Act.put, List.setIfInBounds_toArray, List.set_cons_zero, List.set_cons_succ]
  refine wpAnyH_ready (rs := [23]) (by kernel_rfl) (by simp) ?_
  refine AllReadyH.cons (o := { dst := some 76, op := Go.Op.buildSlice 47 3 #[(0, Go.Operand.tmp 73), (1, Go.Operand.tmp 74), (2, Go.Operand.tmp 75)], type := 47, pos := _, after := #[{ on := 20, ground := Go.Ground.data }, { on := 21, ground := Go.Ground.data }, { on := 22, ground := Go.Ground.data }, { on := 18, ground := Go.Ground.guard }], guard := some (18, true) }) rfl (fun K hK => ?_) AllReadyH.nil
  refine if_take (by rfl) ?_
  obtain ⟨ie, hie, hz, hsz⟩ := inf51
  refine wp_buildSlice 47 51 3 _ rfl refC ie (.agg #[.string ByteArray.empty, .int .i64 0]) Tryd.underlying47 hie hz (by rw [hsz]; decide) (by rw [hsz]; decide) (by rw [hsz]; simp only [List.map_toArray, List.map_cons, List.map_nil]; exact fill51R) ?_
  clear hie hz hsz
  have br := (Below.refl v0.drew.heap.size v0.drew).alloc (Nat.le_refl _) (.cells refC 51)
  have AV1 := hid (AV0.out.drew.step br)
  have c22 := same_refs rv _ _ _ ((RV0.out.keep (show Below _ v0 v0.drew from below_drewN (Below.refl _ _) 1)).keep br) (refs3 v0.drew) (by decide)
  clear br RV0 AV0
  refine hK.out _ _ (SB _ (AV1.out.row w1.heap.size #[.int .u8 3, .int .i64 0, .string ⟨#[97]⟩, .slice none 0 0] (by simp)) (AV1.out.row w2.heap.size #[.int .u8 3, .int .i64 0, .string ⟨#[98]⟩, .slice none 0 0] (by simp)) (AV1.out.row w3.heap.size #[.int .u8 3, .int .i64 0, .string ⟨#[99]⟩, .slice none 0 0] (by simp))) (fun _ => ?_)
  clear hK K
  simp only [Act.put, List.setIfInBounds_toArray, List.set_cons_zero, List.set_cons_succ]
  refine wpAnyH_ready (rs := [24]) (by kernel_rfl) (by simp) ?_
  refine AllReadyH.cons (o := { dst := some 77, op := Go.Op.call { callee := Go.Callee.value (Go.Operand.func 22), args := #[Go.Operand.tmp 72, Go.Operand.tmp 76], argTypes := #[47, 47] }, type := 4, pos := _, after := #[{ on := 19, ground := Go.Ground.data }, { on := 23, ground := Go.Ground.data }, { on := 18, ground := Go.Ground.chain }, { on := 18, ground := Go.Ground.guard }], guard := some (18, true) }) rfl (fun K hK => ?_) AllReadyH.nil
  go_simp
  refine c22.mono ?_
  rintro e v2 ⟨rfl, bv2⟩
  have AV2 := hid (AV1.out.step bv2)
  clear AV1 bv2 c22
  go_wp2_with fail
  refine hK.out _ _ (SB _ (AV2.out.row w1.heap.size #[.int .u8 3, .int .i64 0, .string ⟨#[97]⟩, .slice none 0 0] (by simp)) (AV2.out.row w2.heap.size #[.int .u8 3, .int .i64 0, .string ⟨#[98]⟩, .slice none 0 0] (by simp)) (AV2.out.row w3.heap.size #[.int .u8 3, .int .i64 0, .string ⟨#[99]⟩, .slice none 0 0] (by simp))) (fun _ => ?_)
  clear hK K
  refine wpAnyH_take (i := 25) (oi := { dst := some 78, op := Go.Op.pick (Go.Operand.tmp 71) (Go.Operand.tmp 77) (Go.Operand.const (Go.Value.bool false)), type := 4, pos := _, after := #[{ on := 18, ground := Go.Ground.data }, { on := 24, ground := Go.Ground.data }], guard := none }) (v := ?_) rfl (by kernel_rfl) (by kernel_rfl) (by kernel_rfl) (fun _ _ _ h => h) (Or.inl ⟨by rfl, ?_⟩) (by assumption) ?_
  rotate_left
  · intro w hSw; (try dsimp only at hSw); go_simp <;> with_reducible rfl
  simp only [Act.put, List.setIfInBounds_toArray, List.set_cons_zero, List.set_cons_succ]
  refine wpAnyH_take (i := 26) (oi := { dst := some 79, op := Go.Op.move (Go.Operand.tmp 78), type := 4, pos := _, after := #[{ on := 25, ground := Go.Ground.data }, { on := 24, ground := Go.Ground.chain }], guard := none }) (v := ?_) rfl (by kernel_rfl) (by kernel_rfl) (by kernel_rfl) (fun _ _ _ h => h) (Or.inl ⟨by rfl, ?_⟩) (by assumption) ?_
  rotate_left
  · intro w hSw; (try dsimp only at hSw); go_simp <;> with_reducible rfl
  simp only [Act.put, List.setIfInBounds_toArray, List.set_cons_zero, List.set_cons_succ]
  refine wpAnyH_take (i := 27) (oi := { dst := some 80, op := Go.Op.load 25 (Go.Operand.tmp 1), type := 25, pos := _, after := #[{ on := 26, ground := Go.Ground.guard }], guard := some (26, true) }) (v := ?_) rfl (by kernel_rfl) (by kernel_rfl) (by kernel_rfl) (fun _ _ _ h => h) (Or.inl ⟨by rfl, ?_⟩) (by assumption) ?_
  rotate_left
  · intro w hSw; (try dsimp only at hSw); go_simp <;> with_reducible rfl
  simp only [Act.put, List.setIfInBounds_toArray, List.set_cons_zero, List.set_cons_succ]
  refine wpAnyH_take (i := 28) (oi := { dst := some 81, op := Go.Op.load 25 (Go.Operand.tmp 2), type := 25, pos := _, after := #[{ on := 26, ground := Go.Ground.guard }], guard := some (26, true) }) (v := ?_) rfl (by kernel_rfl) (by kernel_rfl) (by kernel_rfl) (fun _ _ _ h => h) (Or.inl ⟨by rfl, ?_⟩) (by assumption) ?_
  rotate_left
  · intro w hSw; (try dsimp only at hSw); go_simp <;> with_reducible rfl
  simp only [Act.put, List.setIfInBounds_toArray, List.set_cons_zero, List.set_cons_succ]
  refine wpAnyH_take (i := 29) (oi := { dst := some 82, op := Go.Op.load 25 (Go.Operand.tmp 3), type := 25, pos := _, after := #[{ on := 26, ground := Go.Ground.guard }], guard := some (26, true) }) (v := ?_) rfl (by kernel_rfl) (by kernel_rfl) (by kernel_rfl) (fun _ _ _ h => h) (Or.inl ⟨by rfl, ?_⟩) (by assumption) ?_
  rotate_left
  · intro w hSw; (try dsimp only at hSw); go_simp <;> with_reducible rfl
  simp only [Act.put, List.setIfInBounds_toArray, List.set_cons_zero, List.set_cons_succ]
  refine wpAnyH_ready (rs := [30]) (by kernel_rfl) (by simp) ?_
  refine AllReadyH.cons (o := { dst := some 83, op := Go.Op.buildSlice 23 2 #[(0, Go.Operand.tmp 81), (1, Go.Operand.tmp 82)], type := 23, pos := _, after := #[{ on := 28, ground := Go.Ground.data }, { on := 29, ground := Go.Ground.data }, { on := 26, ground := Go.Ground.guard }], guard := some (26, true) }) rfl (fun K hK => ?_) AllReadyH.nil
  refine if_take (by rfl) ?_
  obtain ⟨ie, hie, hz, hsz⟩ := inf25
  refine wp_buildSlice 23 25 2 _ rfl #[.int .u8 3, .int .i64 0, .string ⟨#[98]⟩, .slice none 0 0, .int .u8 3, .int .i64 0, .string ⟨#[99]⟩, .slice none 0 0] ie z25 Tryd.underlying23 hie hz (by rw [hsz]; decide) (by rw [hsz]; decide) (by rw [hsz]; simp only [List.map_toArray, List.map_cons, List.map_nil]; exact fill2R _ _ _ _ _ _ _ _) ?_
  clear hie hz hsz
  have AV3 := hid (AV2.out.push #[.int .u8 3, .int .i64 0, .string ⟨#[98]⟩, .slice none 0 0, .int .u8 3, .int .i64 0, .string ⟨#[99]⟩, .slice none 0 0])
  have E1 := hid (StP.two (ok := TT) (x := exB) (s := N0) (y := exC) (t := N0) 18 (by omega) v2.heap.size trivial (leafN _ 98) (leafN _ 99) (by rw [show ex4 (exB) (N0) ++ ex4 (exC) (N0) = #[.int .u8 3, .int .i64 0, .string ⟨#[98]⟩, .slice none 0 0, .int .u8 3, .int .i64 0, .string ⟨#[99]⟩, .slice none 0 0] from rfl]; exact heap_alloc_new v2 _))
  clear AV2
  refine hK.out _ _ (SB _ (AV3.out.row w1.heap.size #[.int .u8 3, .int .i64 0, .string ⟨#[97]⟩, .slice none 0 0] (by simp)) (AV3.out.row w2.heap.size #[.int .u8 3, .int .i64 0, .string ⟨#[98]⟩, .slice none 0 0] (by simp)) (AV3.out.row w3.heap.size #[.int .u8 3, .int .i64 0, .string ⟨#[99]⟩, .slice none 0 0] (by simp))) (fun _ => ?_)
  clear hK K
  simp only [Act.put, List.setIfInBounds_toArray, List.set_cons_zero, List.set_cons_succ]
  refine wpAnyH_ready (rs := [31]) (by kernel_rfl) (by simp) ?_
  refine AllReadyH.cons (o := { dst := some 84, op := Go.Op.call { callee := Go.Callee.value (Go.Operand.func 21), args := #[Go.Operand.const (Go.Value.int Go.IntKind.u8 18), Go.Operand.tmp 83], argTypes := #[22, 23] }, type := 25, pos := _, after := #[{ on := 30, ground := Go.Ground.data }, { on := 26, ground := Go.Ground.chain }, { on := 26, ground := Go.Ground.guard }], guard := some (26, true) }) rfl (fun K hK => ?_) AllReadyH.nil
  go_simp
  refine (of_pl _ _ _ _ _).mono ?_
  rintro e v4 ⟨rfl, bv4⟩
  have AV4 := hid (AV3.out.step bv4)
  have E1 := hid (E1.out.carry fun b _ hl => bv4.block b hl)
  clear AV3 bv4
  go_wp2_with fail
  refine hK.out _ _ (SB _ (AV4.out.row w1.heap.size #[.int .u8 3, .int .i64 0, .string ⟨#[97]⟩, .slice none 0 0] (by simp)) (AV4.out.row w2.heap.size #[.int .u8 3, .int .i64 0, .string ⟨#[98]⟩, .slice none 0 0] (by simp)) (AV4.out.row w3.heap.size #[.int .u8 3, .int .i64 0, .string ⟨#[99]⟩, .slice none 0 0] (by simp))) (fun _ => ?_)
  clear hK K
  refine wpAnyH_ready (rs := [32]) (by kernel_rfl) (by simp) ?_
  refine AllReadyH.cons (o := { dst := some 85, op := Go.Op.buildSlice 23 2 #[(0, Go.Operand.tmp 80), (1, Go.Operand.tmp 84)], type := 23, pos := _, after := #[{ on := 27, ground := Go.Ground.data }, { on := 31, ground := Go.Ground.data }, { on := 26, ground := Go.Ground.guard }], guard := some (26, true) }) rfl (fun K hK => ?_) AllReadyH.nil
  refine if_take (by rfl) ?_
  obtain ⟨ie, hie, hz, hsz⟩ := inf25
  refine wp_buildSlice 23 25 2 _ rfl #[.int .u8 3, .int .i64 0, .string ⟨#[97]⟩, .slice none 0 0, .int .u8 18, .int .i64 0, .string ⟨#[]⟩, .slice (some ⟨v2.heap.size, 0, none⟩) 2 2] ie z25 Tryd.underlying23 hie hz (by rw [hsz]; decide) (by rw [hsz]; decide) (by rw [hsz]; simp only [List.map_toArray, List.map_cons, List.map_nil]; exact fill2R _ _ _ _ _ _ _ _) ?_
  clear hie hz hsz
  have AV5 := hid (AV4.out.push #[.int .u8 3, .int .i64 0, .string ⟨#[97]⟩, .slice none 0 0, .int .u8 18, .int .i64 0, .string ⟨#[]⟩, .slice (some ⟨v2.heap.size, 0, none⟩) 2 2])
  have E1 := hid (E1.out.carry fun b _ hl => Below.heap_alloc _ (.cells #[.int .u8 3, .int .i64 0, .string ⟨#[97]⟩, .slice none 0 0, .int .u8 18, .int .i64 0, .string ⟨#[]⟩, .slice (some ⟨v2.heap.size, 0, none⟩) 2 2] 25) _ hl)
  have E2 := hid (StP.two (ok := TT) (x := exA) (s := N0) (y := opE 18 [exB, exC]) (t := .slice (some ⟨v2.heap.size, 0, none⟩) 2 2) 18 (by omega) v4.heap.size trivial (leafN _ 97) E1.out (by rw [show ex4 (exA) (N0) ++ ex4 (opE 18 [exB, exC]) (.slice (some ⟨v2.heap.size, 0, none⟩) 2 2) = #[.int .u8 3, .int .i64 0, .string ⟨#[97]⟩, .slice none 0 0, .int .u8 18, .int .i64 0, .string ⟨#[]⟩, .slice (some ⟨v2.heap.size, 0, none⟩) 2 2] from rfl]; exact heap_alloc_new v4 _))
  clear E1
  clear AV4
  refine hK.out _ _ (SB _ (AV5.out.row w1.heap.size #[.int .u8 3, .int .i64 0, .string ⟨#[97]⟩, .slice none 0 0] (by simp)) (AV5.out.row w2.heap.size #[.int .u8 3, .int .i64 0, .string ⟨#[98]⟩, .slice none 0 0] (by simp)) (AV5.out.row w3.heap.size #[.int .u8 3, .int .i64 0, .string ⟨#[99]⟩, .slice none 0 0] (by simp))) (fun _ => ?_)
  clear hK K
  simp only [Act.put, List.setIfInBounds_toArray, List.set_cons_zero, List.set_cons_succ]
  refine wpAnyH_ready (rs := [33]) (by kernel_rfl) (by simp) ?_
  refine AllReadyH.cons (o := { dst := some 86, op := Go.Op.call { callee := Go.Callee.value (Go.Operand.func 21), args := #[Go.Operand.const (Go.Value.int Go.IntKind.u8 18), Go.Operand.tmp 85], argTypes := #[22, 23] }, type := 25, pos := _, after := #[{ on := 32, ground := Go.Ground.data }, { on := 31, ground := Go.Ground.chain }, { on := 26, ground := Go.Ground.guard }], guard := some (26, true) }) rfl (fun K hK => ?_) AllReadyH.nil
  go_simp
  refine (of_pl _ _ _ _ _).mono ?_
  rintro e v6 ⟨rfl, bv6⟩
  have AV6 := hid (AV5.out.step bv6)
  have E2 := hid (E2.out.carry fun b _ hl => bv6.block b hl)
  clear AV5 bv6
  go_wp2_with fail
  refine hK.out _ _ (SB _ (AV6.out.row w1.heap.size #[.int .u8 3, .int .i64 0, .string ⟨#[97]⟩, .slice none 0 0] (by simp)) (AV6.out.row w2.heap.size #[.int .u8 3, .int .i64 0, .string ⟨#[98]⟩, .slice none 0 0] (by simp)) (AV6.out.row w3.heap.size #[.int .u8 3, .int .i64 0, .string ⟨#[99]⟩, .slice none 0 0] (by simp))) (fun _ => ?_)
  clear hK K
  refine wpAnyH_ready (rs := [34]) (by kernel_rfl) (by simp) ?_
  refine AllReadyH.cons (o := { dst := some 87, op := Go.Op.call { callee := Go.Callee.value (Go.Operand.func 31), args := #[Go.Operand.const (Go.Value.string { data := #[97, 32, 45, 62, 32, 98, 32, 45, 62, 32, 99] }), Go.Operand.tmp 86], argTypes := #[9, 25] }, type := 4, pos := _, after := #[{ on := 33, ground := Go.Ground.data }, { on := 33, ground := Go.Ground.chain }, { on := 26, ground := Go.Ground.guard }], guard := some (26, true) }) rfl (fun K hK => ?_) AllReadyH.nil
  go_simp
  refine (is2 ⟨#[97, 32, 45, 62, 32, 98, 32, 45, 62, 32, 99]⟩ e1X _ _ _ (by decide) (HA.out.below AV6.out.below) chk1 wr1 E2.out.st).mono ?_
  rintro e v7 ⟨rfl, bv7⟩
  have AV7 := hid (AV6.out.step bv7)
  clear AV6 bv7 E2
  go_wp2_with fail
  refine hK.out _ _ (SB _ (AV7.out.row w1.heap.size #[.int .u8 3, .int .i64 0, .string ⟨#[97]⟩, .slice none 0 0] (by simp)) (AV7.out.row w2.heap.size #[.int .u8 3, .int .i64 0, .string ⟨#[98]⟩, .slice none 0 0] (by simp)) (AV7.out.row w3.heap.size #[.int .u8 3, .int .i64 0, .string ⟨#[99]⟩, .slice none 0 0] (by simp))) (fun _ => ?_)
  clear hK K
  refine wpAnyH_take (i := 35) (oi := { dst := some 88, op := Go.Op.pick (Go.Operand.tmp 79) (Go.Operand.tmp 87) (Go.Operand.const (Go.Value.bool false)), type := 4, pos := _, after := #[{ on := 26, ground := Go.Ground.data }, { on := 34, ground := Go.Ground.data }], guard := none }) (v := ?_) rfl (by kernel_rfl) (by kernel_rfl) (by kernel_rfl) (fun _ _ _ h => h) (Or.inl ⟨by rfl, ?_⟩) (by assumption) ?_
  rotate_left
  · intro w hSw; (try dsimp only at hSw); go_simp <;> with_reducible rfl
  simp only [Act.put, List.setIfInBounds_toArray, List.set_cons_zero, List.set_cons_succ]
  refine wpAnyH_take (i := 36) (oi := { dst := some 89, op := Go.Op.move (Go.Operand.tmp 88), type := 4, pos := _, after := #[{ on := 35, ground := Go.Ground.data }, { on := 34, ground := Go.Ground.chain }], guard := none }) (v := ?_) rfl (by kernel_rfl) (by kernel_rfl) (by kernel_rfl) (fun _ _ _ h => h) (Or.inl ⟨by rfl, ?_⟩) (by assumption) ?_
  rotate_left
  · intro w hSw; (try dsimp only at hSw); go_simp <;> with_reducible rfl
  simp only [Act.put, List.setIfInBounds_toArray, List.set_cons_zero, List.set_cons_succ]
  refine wpAnyH_take (i := 37) (oi := { dst := some 90, op := Go.Op.load 25 (Go.Operand.tmp 1), type := 25, pos := _, after := #[{ on := 36, ground := Go.Ground.guard }], guard := some (36, true) }) (v := ?_) rfl (by kernel_rfl) (by kernel_rfl) (by kernel_rfl) (fun _ _ _ h => h) (Or.inl ⟨by rfl, ?_⟩) (by assumption) ?_
  rotate_left
  · intro w hSw; (try dsimp only at hSw); go_simp <;> with_reducible rfl
  simp only [Act.put, List.setIfInBounds_toArray, List.set_cons_zero, List.set_cons_succ]
  refine wpAnyH_take (i := 38) (oi := { dst := some 91, op := Go.Op.load 25 (Go.Operand.tmp 2), type := 25, pos := _, after := #[{ on := 36, ground := Go.Ground.guard }], guard := some (36, true) }) (v := ?_) rfl (by kernel_rfl) (by kernel_rfl) (by kernel_rfl) (fun _ _ _ h => h) (Or.inl ⟨by rfl, ?_⟩) (by assumption) ?_
  rotate_left
  · intro w hSw; (try dsimp only at hSw); go_simp <;> with_reducible rfl
  simp only [Act.put, List.setIfInBounds_toArray, List.set_cons_zero, List.set_cons_succ]
  refine wpAnyH_take (i := 41) (oi := { dst := some 94, op := Go.Op.load 25 (Go.Operand.tmp 3), type := 25, pos := _, after := #[{ on := 36, ground := Go.Ground.guard }], guard := some (36, true) }) (v := ?_) rfl (by kernel_rfl) (by kernel_rfl) (by kernel_rfl) (fun _ _ _ h => h) (Or.inl ⟨by rfl, ?_⟩) (by assumption) ?_
  rotate_left
  · intro w hSw; (try dsimp only at hSw); go_simp <;> with_reducible rfl
  simp only [Act.put, List.setIfInBounds_toArray, List.set_cons_zero, List.set_cons_succ]
  refine wpAnyH_ready (rs := [39]) (by kernel_rfl) (by simp) ?_
  refine AllReadyH.cons (o := { dst := some 92, op := Go.Op.buildSlice 23 2 #[(0, Go.Operand.tmp 90), (1, Go.Operand.tmp 91)], type := 23, pos := _, after := #[{ on := 37, ground := Go.Ground.data }, { on := 38, ground := Go.Ground.data }, { on := 36, ground := Go.Ground.guard }], guard := some (36, true) }) rfl (fun K hK => ?_) AllReadyH.nil
  refine if_take (by rfl) ?_
  obtain ⟨ie, hie, hz, hsz⟩ := inf25
  refine wp_buildSlice 23 25 2 _ rfl #[.int .u8 3, .int .i64 0, .string ⟨#[97]⟩, .slice none 0 0, .int .u8 3, .int .i64 0, .string ⟨#[98]⟩, .slice none 0 0] ie z25 Tryd.underlying23 hie hz (by rw [hsz]; decide) (by rw [hsz]; decide) (by rw [hsz]; simp only [List.map_toArray, List.map_cons, List.map_nil]; exact fill2R _ _ _ _ _ _ _ _) ?_
  clear hie hz hsz
  have AV8 := hid (AV7.out.push #[.int .u8 3, .int .i64 0, .string ⟨#[97]⟩, .slice none 0 0, .int .u8 3, .int .i64 0, .string ⟨#[98]⟩, .slice none 0 0])
  have E1 := hid (StP.two (ok := TT) (x := exA) (s := N0) (y := exB) (t := N0) 7 (by omega) v7.heap.size trivial (leafN _ 97) (leafN _ 98) (by rw [show ex4 (exA) (N0) ++ ex4 (exB) (N0) = #[.int .u8 3, .int .i64 0, .string ⟨#[97]⟩, .slice none 0 0, .int .u8 3, .int .i64 0, .string ⟨#[98]⟩, .slice none 0 0] from rfl]; exact heap_alloc_new v7 _))
  clear AV7
  refine hK.out _ _ (SB _ (AV8.out.row w1.heap.size #[.int .u8 3, .int .i64 0, .string ⟨#[97]⟩, .slice none 0 0] (by simp)) (AV8.out.row w2.heap.size #[.int .u8 3, .int .i64 0, .string ⟨#[98]⟩, .slice none 0 0] (by simp)) (AV8.out.row w3.heap.size #[.int .u8 3, .int .i64 0, .string ⟨#[99]⟩, .slice none 0 0] (by simp))) (fun _ => ?_)
  clear hK K
  simp only [Act.put, List.setIfInBounds_toArray, List.set_cons_zero, List.set_cons_succ]
  refine wpAnyH_ready (rs := [40]) (by kernel_rfl) (by simp) ?_
  refine AllReadyH.cons (o := { dst := some 93, op := Go.Op.call { callee := Go.Callee.value (Go.Operand.func 21), args := #[Go.Operand.const (Go.Value.int Go.IntKind.u8 7), Go.Operand.tmp 92], argTypes := #[22, 23] }, type := 25, pos := _, after := #[{ on := 39, ground := Go.Ground.data }, { on := 36, ground := Go.Ground.chain }, { on := 36, ground := Go.Ground.guard }], guard := some (36, true) }) rfl (fun K hK => ?_) AllReadyH.nil
  go_simp
  refine (of_pl _ _ _ _ _).mono ?_
  rintro e v9 ⟨rfl, bv9⟩
  have AV9 := hid (AV8.out.step bv9)
  have E1 := hid (E1.out.carry fun b _ hl => bv9.block b hl)
  clear AV8 bv9
  go_wp2_with fail
  refine hK.out _ _ (SB _ (AV9.out.row w1.heap.size #[.int .u8 3, .int .i64 0, .string ⟨#[97]⟩, .slice none 0 0] (by simp)) (AV9.out.row w2.heap.size #[.int .u8 3, .int .i64 0, .string ⟨#[98]⟩, .slice none 0 0] (by simp)) (AV9.out.row w3.heap.size #[.int .u8 3, .int .i64 0, .string ⟨#[99]⟩, .slice none 0 0] (by simp))) (fun _ => ?_)
  clear hK K
  refine wpAnyH_ready (rs := [42]) (by kernel_rfl) (by simp) ?_
  refine AllReadyH.cons (o := { dst := some 95, op := Go.Op.buildSlice 23 2 #[(0, Go.Operand.tmp 93), (1, Go.Operand.tmp 94)], type := 23, pos := _, after := #[{ on := 40, ground := Go.Ground.data }, { on := 41, ground := Go.Ground.data }, { on := 36, ground := Go.Ground.guard }], guard := some (36, true) }) rfl (fun K hK => ?_) AllReadyH.nil
  refine if_take (by rfl) ?_
  obtain ⟨ie, hie, hz, hsz⟩ := inf25
  refine wp_buildSlice 23 25 2 _ rfl #[.int .u8 7, .int .i64 0, .string ⟨#[]⟩, .slice (some ⟨v7.heap.size, 0, none⟩) 2 2, .int .u8 3, .int .i64 0, .string ⟨#[99]⟩, .slice none 0 0] ie z25 Tryd.underlying23 hie hz (by rw [hsz]; decide) (by rw [hsz]; decide) (by rw [hsz]; simp only [List.map_toArray, List.map_cons, List.map_nil]; exact fill2R _ _ _ _ _ _ _ _) ?_
  clear hie hz hsz
  have AV10 := hid (AV9.out.push #[.int .u8 7, .int .i64 0, .string ⟨#[]⟩, .slice (some ⟨v7.heap.size, 0, none⟩) 2 2, .int .u8 3, .int .i64 0, .string ⟨#[99]⟩, .slice none 0 0])
  have E1 := hid (E1.out.carry fun b _ hl => Below.heap_alloc _ (.cells #[.int .u8 7, .int .i64 0, .string ⟨#[]⟩, .slice (some ⟨v7.heap.size, 0, none⟩) 2 2, .int .u8 3, .int .i64 0, .string ⟨#[99]⟩, .slice none 0 0] 25) _ hl)
  have E2 := hid (StP.two (ok := TT) (x := opE 7 [exA, exB]) (s := .slice (some ⟨v7.heap.size, 0, none⟩) 2 2) (y := exC) (t := N0) 7 (by omega) v9.heap.size trivial E1.out (leafN _ 99) (by rw [show ex4 (opE 7 [exA, exB]) (.slice (some ⟨v7.heap.size, 0, none⟩) 2 2) ++ ex4 (exC) (N0) = #[.int .u8 7, .int .i64 0, .string ⟨#[]⟩, .slice (some ⟨v7.heap.size, 0, none⟩) 2 2, .int .u8 3, .int .i64 0, .string ⟨#[99]⟩, .slice none 0 0] from rfl]; exact heap_alloc_new v9 _))
  clear E1
  clear AV9
  refine hK.out _ _ (SB _ (AV10.out.row w1.heap.size #[.int .u8 3, .int .i64 0, .string ⟨#[97]⟩, .slice none 0 0] (by simp)) (AV10.out.row w2.heap.size #[.int .u8 3, .int .i64 0, .string ⟨#[98]⟩, .slice none 0 0] (by simp)) (AV10.out.row w3.heap.size #[.int .u8 3, .int .i64 0, .string ⟨#[99]⟩, .slice none 0 0] (by simp))) (fun _ => ?_)
  clear hK K
  simp only [Act.put, List.setIfInBounds_toArray, List.set_cons_zero, List.set_cons_succ]
  refine wpAnyH_ready (rs := [43]) (by kernel_rfl) (by simp) ?_
  refine AllReadyH.cons (o := { dst := some 96, op := Go.Op.call { callee := Go.Callee.value (Go.Operand.func 21), args := #[Go.Operand.const (Go.Value.int Go.IntKind.u8 7), Go.Operand.tmp 95], argTypes := #[22, 23] }, type := 25, pos := _, after := #[{ on := 42, ground := Go.Ground.data }, { on := 40, ground := Go.Ground.chain }, { on := 36, ground := Go.Ground.guard }], guard := some (36, true) }) rfl (fun K hK => ?_) AllReadyH.nil
  go_simp
  refine (of_pl _ _ _ _ _).mono ?_
  rintro e v11 ⟨rfl, bv11⟩
  have AV11 := hid (AV10.out.step bv11)
  have E2 := hid (E2.out.carry fun b _ hl => bv11.block b hl)
  clear AV10 bv11
  go_wp2_with fail
  refine hK.out _ _ (SB _ (AV11.out.row w1.heap.size #[.int .u8 3, .int .i64 0, .string ⟨#[97]⟩, .slice none 0 0] (by simp)) (AV11.out.row w2.heap.size #[.int .u8 3, .int .i64 0, .string ⟨#[98]⟩, .slice none 0 0] (by simp)) (AV11.out.row w3.heap.size #[.int .u8 3, .int .i64 0, .string ⟨#[99]⟩, .slice none 0 0] (by simp))) (fun _ => ?_)
  clear hK K
  refine wpAnyH_ready (rs := [44]) (by kernel_rfl) (by simp) ?_
  refine AllReadyH.cons (o := { dst := some 97, op := Go.Op.call { callee := Go.Callee.value (Go.Operand.func 31), args := #[Go.Operand.const (Go.Value.string { data := #[97, 32, 45, 32, 98, 32, 45, 32, 99] }), Go.Operand.tmp 96], argTypes := #[9, 25] }, type := 4, pos := _, after := #[{ on := 43, ground := Go.Ground.data }, { on := 43, ground := Go.Ground.chain }, { on := 36, ground := Go.Ground.guard }], guard := some (36, true) }) rfl (fun K hK => ?_) AllReadyH.nil
  go_simp
  refine (is2 ⟨#[97, 32, 45, 32, 98, 32, 45, 32, 99]⟩ e2X _ _ _ (by decide) (HA.out.below AV11.out.below) chk2 wr2 E2.out.st).mono ?_
  rintro e v12 ⟨rfl, bv12⟩
  have AV12 := hid (AV11.out.step bv12)
  clear AV11 bv12 E2
  go_wp2_with fail
  refine hK.out _ _ (SB _ (AV12.out.row w1.heap.size #[.int .u8 3, .int .i64 0, .string ⟨#[97]⟩, .slice none 0 0] (by simp)) (AV12.out.row w2.heap.size #[.int .u8 3, .int .i64 0, .string ⟨#[98]⟩, .slice none 0 0] (by simp)) (AV12.out.row w3.heap.size #[.int .u8 3, .int .i64 0, .string ⟨#[99]⟩, .slice none 0 0] (by simp))) (fun _ => ?_)
  clear hK K
  refine wpAnyH_take (i := 45) (oi := { dst := some 98, op := Go.Op.pick (Go.Operand.tmp 89) (Go.Operand.tmp 97) (Go.Operand.const (Go.Value.bool false)), type := 4, pos := _, after := #[{ on := 36, ground := Go.Ground.data }, { on := 44, ground := Go.Ground.data }], guard := none }) (v := ?_) rfl (by kernel_rfl) (by kernel_rfl) (by kernel_rfl) (fun _ _ _ h => h) (Or.inl ⟨by rfl, ?_⟩) (by assumption) ?_
  rotate_left
  · intro w hSw; (try dsimp only at hSw); go_simp <;> with_reducible rfl
  simp only [Act.put, List.setIfInBounds_toArray, List.set_cons_zero, List.set_cons_succ]
  refine wpAnyH_take (i := 46) (oi := { dst := some 99, op := Go.Op.move (Go.Operand.tmp 98), type := 4, pos := _, after := #[{ on := 45, ground := Go.Ground.data }, { on := 44, ground := Go.Ground.chain }], guard := none }) (v := ?_) rfl (by kernel_rfl) (by kernel_rfl) (by kernel_rfl) (fun _ _ _ h => h) (Or.inl ⟨by rfl, ?_⟩) (by assumption) ?_
  rotate_left
  · intro w hSw; (try dsimp only at hSw); go_simp <;> with_reducible rfl
  simp only [Act.put, List.setIfInBounds_toArray, List.set_cons_zero, List.set_cons_succ]
  refine wpAnyH_take (i := 47) (oi := { dst := some 100, op := Go.Op.load 25 (Go.Operand.tmp 1), type := 25, pos := _, after := #[{ on := 46, ground := Go.Ground.guard }], guard := some (46, true) }) (v := ?_) rfl (by kernel_rfl) (by kernel_rfl) (by kernel_rfl) (fun _ _ _ h => h) (Or.inl ⟨by rfl, ?_⟩) (by assumption) ?_
  rotate_left
  · intro w hSw; (try dsimp only at hSw); go_simp <;> with_reducible rfl
  simp only [Act.put, List.setIfInBounds_toArray, List.set_cons_zero, List.set_cons_succ]
  refine wpAnyH_ready (rs := [48]) (by kernel_rfl) (by simp) ?_
  refine AllReadyH.cons (o := { dst := some 101, op := Go.Op.buildSlice 23 1 #[(0, Go.Operand.tmp 100)], type := 23, pos := _, after := #[{ on := 47, ground := Go.Ground.data }, { on := 46, ground := Go.Ground.guard }], guard := some (46, true) }) rfl (fun K hK => ?_) AllReadyH.nil
  refine if_take (by rfl) ?_
  obtain ⟨ie, hie, hz, hsz⟩ := inf25
  refine wp_buildSlice 23 25 1 _ rfl #[.int .u8 3, .int .i64 0, .string ⟨#[97]⟩, .slice none 0 0] ie z25 Tryd.underlying23 hie hz (by rw [hsz]; decide) (by rw [hsz]; decide) (by rw [hsz]; simp only [List.map_toArray, List.map_cons, List.map_nil]; exact fill1R _ _ _ _) ?_
  clear hie hz hsz
  have AV13 := hid (AV12.out.push #[.int .u8 3, .int .i64 0, .string ⟨#[97]⟩, .slice none 0 0])
  have E1 := hid (StP.one (ok := TT) (x := exA) (s := N0) 4 (by omega) v12.heap.size trivial (leafN _ 97) (heap_alloc_new v12 (.cells (ex4 (exA) (N0)) 25)))
  clear AV12
  refine hK.out _ _ (SB _ (AV13.out.row w1.heap.size #[.int .u8 3, .int .i64 0, .string ⟨#[97]⟩, .slice none 0 0] (by simp)) (AV13.out.row w2.heap.size #[.int .u8 3, .int .i64 0, .string ⟨#[98]⟩, .slice none 0 0] (by simp)) (AV13.out.row w3.heap.size #[.int .u8 3, .int .i64 0, .string ⟨#[99]⟩, .slice none 0 0] (by simp))) (fun _ => ?_)
  clear hK K
  simp only [Act.put, List.setIfInBounds_toArray, List.set_cons_zero, List.set_cons_succ]
  refine wpAnyH_ready (rs := [49]) (by kernel_rfl) (by simp) ?_
  refine AllReadyH.cons (o := { dst := some 102, op := Go.Op.call { callee := Go.Callee.value (Go.Operand.func 21), args := #[Go.Operand.const (Go.Value.int Go.IntKind.u8 4), Go.Operand.tmp 101], argTypes := #[22, 23] }, type := 25, pos := _, after := #[{ on := 48, ground := Go.Ground.data }, { on := 46, ground := Go.Ground.chain }, { on := 46, ground := Go.Ground.guard }], guard := some (46, true) }) rfl (fun K hK => ?_) AllReadyH.nil
  go_simp
  refine (of_pl _ _ _ _ _).mono ?_
  rintro e v14 ⟨rfl, bv14⟩
  have AV14 := hid (AV13.out.step bv14)
  have E1 := hid (E1.out.carry fun b _ hl => bv14.block b hl)
  clear AV13 bv14
  go_wp2_with fail
  refine hK.out _ _ (SB _ (AV14.out.row w1.heap.size #[.int .u8 3, .int .i64 0, .string ⟨#[97]⟩, .slice none 0 0] (by simp)) (AV14.out.row w2.heap.size #[.int .u8 3, .int .i64 0, .string ⟨#[98]⟩, .slice none 0 0] (by simp)) (AV14.out.row w3.heap.size #[.int .u8 3, .int .i64 0, .string ⟨#[99]⟩, .slice none 0 0] (by simp))) (fun _ => ?_)
  clear hK K
  refine wpAnyH_ready (rs := [50]) (by kernel_rfl) (by simp) ?_
  refine AllReadyH.cons (o := { dst := some 103, op := Go.Op.buildSlice 23 1 #[(0, Go.Operand.tmp 102)], type := 23, pos := _, after := #[{ on := 49, ground := Go.Ground.data }, { on := 46, ground := Go.Ground.guard }], guard := some (46, true) }) rfl (fun K hK => ?_) AllReadyH.nil
  refine if_take (by rfl) ?_
  obtain ⟨ie, hie, hz, hsz⟩ := inf25
  refine wp_buildSlice 23 25 1 _ rfl #[.int .u8 4, .int .i64 0, .string ⟨#[]⟩, .slice (some ⟨v12.heap.size, 0, none⟩) 1 1] ie z25 Tryd.underlying23 hie hz (by rw [hsz]; decide) (by rw [hsz]; decide) (by rw [hsz]; simp only [List.map_toArray, List.map_cons, List.map_nil]; exact fill1R _ _ _ _) ?_
  clear hie hz hsz
  have AV15 := hid (AV14.out.push #[.int .u8 4, .int .i64 0, .string ⟨#[]⟩, .slice (some ⟨v12.heap.size, 0, none⟩) 1 1])
  have E1 := hid (E1.out.carry fun b _ hl => Below.heap_alloc _ (.cells #[.int .u8 4, .int .i64 0, .string ⟨#[]⟩, .slice (some ⟨v12.heap.size, 0, none⟩) 1 1] 25) _ hl)
  have E2 := hid (StP.one (ok := TT) (x := opE 4 [exA]) (s := .slice (some ⟨v12.heap.size, 0, none⟩) 1 1) 4 (by omega) v14.heap.size trivial E1.out (heap_alloc_new v14 (.cells (ex4 (opE 4 [exA]) (.slice (some ⟨v12.heap.size, 0, none⟩) 1 1)) 25)))
  clear E1
  clear AV14
  refine hK.out _ _ (SB _ (AV15.out.row w1.heap.size #[.int .u8 3, .int .i64 0, .string ⟨#[97]⟩, .slice none 0 0] (by simp)) (AV15.out.row w2.heap.size #[.int .u8 3, .int .i64 0, .string ⟨#[98]⟩, .slice none 0 0] (by simp)) (AV15.out.row w3.heap.size #[.int .u8 3, .int .i64 0, .string ⟨#[99]⟩, .slice none 0 0] (by simp))) (fun _ => ?_)
  clear hK K
  simp only [Act.put, List.setIfInBounds_toArray, List.set_cons_zero, List.set_cons_succ]
  refine wpAnyH_ready (rs := [51]) (by kernel_rfl) (by simp) ?_
  refine AllReadyH.cons (o := { dst := some 104, op := Go.Op.call { callee := Go.Callee.value (Go.Operand.func 21), args := #[Go.Operand.const (Go.Value.int Go.IntKind.u8 4), Go.Operand.tmp 103], argTypes := #[22, 23] }, type := 25, pos := _, after := #[{ on := 50, ground := Go.Ground.data }, { on := 49, ground := Go.Ground.chain }, { on := 46, ground := Go.Ground.guard }], guard := some (46, true) }) rfl (fun K hK => ?_) AllReadyH.nil
  go_simp
  refine (of_pl _ _ _ _ _).mono ?_
  rintro e v16 ⟨rfl, bv16⟩
  have AV16 := hid (AV15.out.step bv16)
  have E2 := hid (E2.out.carry fun b _ hl => bv16.block b hl)
  clear AV15 bv16
  go_wp2_with fail
  refine hK.out _ _ (SB _ (AV16.out.row w1.heap.size #[.int .u8 3, .int .i64 0, .string ⟨#[97]⟩, .slice none 0 0] (by simp)) (AV16.out.row w2.heap.size #[.int .u8 3, .int .i64 0, .string ⟨#[98]⟩, .slice none 0 0] (by simp)) (AV16.out.row w3.heap.size #[.int .u8 3, .int .i64 0, .string ⟨#[99]⟩, .slice none 0 0] (by simp))) (fun _ => ?_)
  clear hK K
  refine wpAnyH_ready (rs := [52]) (by kernel_rfl) (by simp) ?_
  refine AllReadyH.cons (o := { dst := some 105, op := Go.Op.call { callee := Go.Callee.value (Go.Operand.func 31), args := #[Go.Operand.const (Go.Value.string { data := #[45, 32, 45, 97] }), Go.Operand.tmp 104], argTypes := #[9, 25] }, type := 4, pos := _, after := #[{ on := 51, ground := Go.Ground.data }, { on := 51, ground := Go.Ground.chain }, { on := 46, ground := Go.Ground.guard }], guard := some (46, true) }) rfl (fun K hK => ?_) AllReadyH.nil
  go_simp
  refine (is2 ⟨#[45, 32, 45, 97]⟩ e3X _ _ _ (by decide) (HA.out.below AV16.out.below) chk3 wr3 E2.out.st).mono ?_
  rintro e v17 ⟨rfl, bv17⟩
  have AV17 := hid (AV16.out.step bv17)
  clear AV16 bv17 E2
  go_wp2_with fail
  refine hK.out _ _ (SB _ (AV17.out.row w1.heap.size #[.int .u8 3, .int .i64 0, .string ⟨#[97]⟩, .slice none 0 0] (by simp)) (AV17.out.row w2.heap.size #[.int .u8 3, .int .i64 0, .string ⟨#[98]⟩, .slice none 0 0] (by simp)) (AV17.out.row w3.heap.size #[.int .u8 3, .int .i64 0, .string ⟨#[99]⟩, .slice none 0 0] (by simp))) (fun _ => ?_)
  clear hK K
  refine wpAnyH_take (i := 53) (oi := { dst := some 106, op := Go.Op.pick (Go.Operand.tmp 99) (Go.Operand.tmp 105) (Go.Operand.const (Go.Value.bool false)), type := 4, pos := _, after := #[{ on := 46, ground := Go.Ground.data }, { on := 52, ground := Go.Ground.data }], guard := none }) (v := ?_) rfl (by kernel_rfl) (by kernel_rfl) (by kernel_rfl) (fun _ _ _ h => h) (Or.inl ⟨by rfl, ?_⟩) (by assumption) ?_
  rotate_left
  · intro w hSw; (try dsimp only at hSw); go_simp <;> with_reducible rfl
  simp only [Act.put, List.setIfInBounds_toArray, List.set_cons_zero, List.set_cons_succ]
  refine wpAnyH_take (i := 54) (oi := { dst := some 107, op := Go.Op.move (Go.Operand.tmp 106), type := 4, pos := _, after := #[{ on := 53, ground := Go.Ground.data }, { on := 52, ground := Go.Ground.chain }], guard := none }) (v := ?_) rfl (by kernel_rfl) (by kernel_rfl) (by kernel_rfl) (fun _ _ _ h => h) (Or.inl ⟨by rfl, ?_⟩) (by assumption) ?_
  rotate_left
  · intro w hSw; (try dsimp only at hSw); go_simp <;> with_reducible rfl
  simp only [Act.put, List.setIfInBounds_toArray, List.set_cons_zero, List.set_cons_succ]
  refine wpAnyH_take (i := 55) (oi := { dst := some 108, op := Go.Op.load 25 (Go.Operand.tmp 1), type := 25, pos := _, after := #[{ on := 54, ground := Go.Ground.guard }], guard := some (54, true) }) (v := ?_) rfl (by kernel_rfl) (by kernel_rfl) (by kernel_rfl) (fun _ _ _ h => h) (Or.inl ⟨by rfl, ?_⟩) (by assumption) ?_
  rotate_left
  · intro w hSw; (try dsimp only at hSw); go_simp <;> with_reducible rfl
  simp only [Act.put, List.setIfInBounds_toArray, List.set_cons_zero, List.set_cons_succ]
  refine wpAnyH_take (i := 56) (oi := { dst := some 109, op := Go.Op.load 25 (Go.Operand.tmp 2), type := 25, pos := _, after := #[{ on := 54, ground := Go.Ground.guard }], guard := some (54, true) }) (v := ?_) rfl (by kernel_rfl) (by kernel_rfl) (by kernel_rfl) (fun _ _ _ h => h) (Or.inl ⟨by rfl, ?_⟩) (by assumption) ?_
  rotate_left
  · intro w hSw; (try dsimp only at hSw); go_simp <;> with_reducible rfl
  simp only [Act.put, List.setIfInBounds_toArray, List.set_cons_zero, List.set_cons_succ]
  refine wpAnyH_take (i := 57) (oi := { dst := some 110, op := Go.Op.build 25 #[(0, Go.Operand.const (Go.Value.int Go.IntKind.u8 1)), (1, Go.Operand.const (Go.Value.int Go.IntKind.i64 1))], type := 25, pos := _, after := #[{ on := 54, ground := Go.Ground.guard }], guard := some (54, true) }) (v := ?_) rfl (by kernel_rfl) (by kernel_rfl) (by kernel_rfl) (fun _ _ _ h => h) (Or.inl ⟨by rfl, ?_⟩) (by assumption) ?_
  rotate_left
  · intro w hSw; (try dsimp only at hSw); go_simp <;> with_reducible rfl
  simp only [Act.put, List.setIfInBounds_toArray, List.set_cons_zero, List.set_cons_succ]
  refine wpAnyH_ready (rs := [58]) (by kernel_rfl) (by simp) ?_
  refine AllReadyH.cons (o := { dst := some 111, op := Go.Op.buildSlice 23 2 #[(0, Go.Operand.tmp 109), (1, Go.Operand.tmp 110)], type := 23, pos := _, after := #[{ on := 56, ground := Go.Ground.data }, { on := 57, ground := Go.Ground.data }, { on := 54, ground := Go.Ground.guard }], guard := some (54, true) }) rfl (fun K hK => ?_) AllReadyH.nil
  refine if_take (by rfl) ?_
  obtain ⟨ie, hie, hz, hsz⟩ := inf25
  refine wp_buildSlice 23 25 2 _ rfl #[.int .u8 3, .int .i64 0, .string ⟨#[98]⟩, .slice none 0 0, .int .u8 1, .int .i64 1, .string ⟨#[]⟩, .slice none 0 0] ie z25 Tryd.underlying23 hie hz (by rw [hsz]; decide) (by rw [hsz]; decide) (by rw [hsz]; simp only [List.map_toArray, List.map_cons, List.map_nil]; exact fill2R _ _ _ _ _ _ _ _) ?_
  clear hie hz hsz
  have AV18 := hid (AV17.out.push #[.int .u8 3, .int .i64 0, .string ⟨#[98]⟩, .slice none 0 0, .int .u8 1, .int .i64 1, .string ⟨#[]⟩, .slice none 0 0])
  have E1 := hid (StP.two (ok := TT) (x := exB) (s := N0) (y := (⟨1, 1, ByteArray.empty, []⟩ : Ex)) (t := N0) 6 (by omega) v17.heap.size trivial (leafN _ 98) (StP.leaf (ok := TT) 1 1 _ (by omega) (by omega) (by decide)) (by rw [show ex4 (exB) (N0) ++ ex4 ((⟨1, 1, ByteArray.empty, []⟩ : Ex)) (N0) = #[.int .u8 3, .int .i64 0, .string ⟨#[98]⟩, .slice none 0 0, .int .u8 1, .int .i64 1, .string ⟨#[]⟩, .slice none 0 0] from rfl]; exact heap_alloc_new v17 _))
  clear AV17
  refine hK.out _ _ (SB _ (AV18.out.row w1.heap.size #[.int .u8 3, .int .i64 0, .string ⟨#[97]⟩, .slice none 0 0] (by simp)) (AV18.out.row w2.heap.size #[.int .u8 3, .int .i64 0, .string ⟨#[98]⟩, .slice none 0 0] (by simp)) (AV18.out.row w3.heap.size #[.int .u8 3, .int .i64 0, .string ⟨#[99]⟩, .slice none 0 0] (by simp))) (fun _ => ?_)
  clear hK K
  simp only [Act.put, List.setIfInBounds_toArray, List.set_cons_zero, List.set_cons_succ]
  refine wpAnyH_ready (rs := [59]) (by kernel_rfl) (by simp) ?_
  refine AllReadyH.cons (o := { dst := some 112, op := Go.Op.call { callee := Go.Callee.value (Go.Operand.func 21), args := #[Go.Operand.const (Go.Value.int Go.IntKind.u8 6), Go.Operand.tmp 111], argTypes := #[22, 23] }, type := 25, pos := _, after := #[{ on := 58, ground := Go.Ground.data }, { on := 54, ground := Go.Ground.chain }, { on := 54, ground := Go.Ground.guard }], guard := some (54, true) }) rfl (fun K hK => ?_) AllReadyH.nil
  go_simp
  refine (of_pl _ _ _ _ _).mono ?_
  rintro e v19 ⟨rfl, bv19⟩
  have AV19 := hid (AV18.out.step bv19)
  have E1 := hid (E1.out.carry fun b _ hl => bv19.block b hl)
  clear AV18 bv19
  go_wp2_with fail
  refine hK.out _ _ (SB _ (AV19.out.row w1.heap.size #[.int .u8 3, .int .i64 0, .string ⟨#[97]⟩, .slice none 0 0] (by simp)) (AV19.out.row w2.heap.size #[.int .u8 3, .int .i64 0, .string ⟨#[98]⟩, .slice none 0 0] (by simp)) (AV19.out.row w3.heap.size #[.int .u8 3, .int .i64 0, .string ⟨#[99]⟩, .slice none 0 0] (by simp))) (fun _ => ?_)
  clear hK K
  refine wpAnyH_ready (rs := [60]) (by kernel_rfl) (by simp) ?_
  refine AllReadyH.cons (o := { dst := some 113, op := Go.Op.buildSlice 23 2 #[(0, Go.Operand.tmp 108), (1, Go.Operand.tmp 112)], type := 23, pos := _, after := #[{ on := 55, ground := Go.Ground.data }, { on := 59, ground := Go.Ground.data }, { on := 54, ground := Go.Ground.guard }], guard := some (54, true) }) rfl (fun K hK => ?_) AllReadyH.nil
  refine if_take (by rfl) ?_
  obtain ⟨ie, hie, hz, hsz⟩ := inf25
  refine wp_buildSlice 23 25 2 _ rfl #[.int .u8 3, .int .i64 0, .string ⟨#[97]⟩, .slice none 0 0, .int .u8 6, .int .i64 0, .string ⟨#[]⟩, .slice (some ⟨v17.heap.size, 0, none⟩) 2 2] ie z25 Tryd.underlying23 hie hz (by rw [hsz]; decide) (by rw [hsz]; decide) (by rw [hsz]; simp only [List.map_toArray, List.map_cons, List.map_nil]; exact fill2R _ _ _ _ _ _ _ _) ?_
  clear hie hz hsz
  have AV20 := hid (AV19.out.push #[.int .u8 3, .int .i64 0, .string ⟨#[97]⟩, .slice none 0 0, .int .u8 6, .int .i64 0, .string ⟨#[]⟩, .slice (some ⟨v17.heap.size, 0, none⟩) 2 2])
  have E1 := hid (E1.out.carry fun b _ hl => Below.heap_alloc _ (.cells #[.int .u8 3, .int .i64 0, .string ⟨#[97]⟩, .slice none 0 0, .int .u8 6, .int .i64 0, .string ⟨#[]⟩, .slice (some ⟨v17.heap.size, 0, none⟩) 2 2] 25) _ hl)
  have E2 := hid (StP.two (ok := TT) (x := exA) (s := N0) (y := opE 6 [exB, ⟨1, 1, ByteArray.empty, []⟩]) (t := .slice (some ⟨v17.heap.size, 0, none⟩) 2 2) 8 (by omega) v19.heap.size trivial (leafN _ 97) E1.out (by rw [show ex4 (exA) (N0) ++ ex4 (opE 6 [exB, ⟨1, 1, ByteArray.empty, []⟩]) (.slice (some ⟨v17.heap.size, 0, none⟩) 2 2) = #[.int .u8 3, .int .i64 0, .string ⟨#[97]⟩, .slice none 0 0, .int .u8 6, .int .i64 0, .string ⟨#[]⟩, .slice (some ⟨v17.heap.size, 0, none⟩) 2 2] from rfl]; exact heap_alloc_new v19 _))
  clear E1
  clear AV19
  refine hK.out _ _ (SB _ (AV20.out.row w1.heap.size #[.int .u8 3, .int .i64 0, .string ⟨#[97]⟩, .slice none 0 0] (by simp)) (AV20.out.row w2.heap.size #[.int .u8 3, .int .i64 0, .string ⟨#[98]⟩, .slice none 0 0] (by simp)) (AV20.out.row w3.heap.size #[.int .u8 3, .int .i64 0, .string ⟨#[99]⟩, .slice none 0 0] (by simp))) (fun _ => ?_)
  clear hK K
  simp only [Act.put, List.setIfInBounds_toArray, List.set_cons_zero, List.set_cons_succ]
  refine wpAnyH_ready (rs := [61]) (by kernel_rfl) (by simp) ?_
  refine AllReadyH.cons (o := { dst := some 114, op := Go.Op.call { callee := Go.Callee.value (Go.Operand.func 21), args := #[Go.Operand.const (Go.Value.int Go.IntKind.u8 8), Go.Operand.tmp 113], argTypes := #[22, 23] }, type := 25, pos := _, after := #[{ on := 60, ground := Go.Ground.data }, { on := 59, ground := Go.Ground.chain }, { on := 54, ground := Go.Ground.guard }], guard := some (54, true) }) rfl (fun K hK => ?_) AllReadyH.nil
  go_simp
  refine (of_pl _ _ _ _ _).mono ?_
  rintro e v21 ⟨rfl, bv21⟩
  have AV21 := hid (AV20.out.step bv21)
  have E2 := hid (E2.out.carry fun b _ hl => bv21.block b hl)
  clear AV20 bv21
  go_wp2_with fail
  refine hK.out _ _ (SB _ (AV21.out.row w1.heap.size #[.int .u8 3, .int .i64 0, .string ⟨#[97]⟩, .slice none 0 0] (by simp)) (AV21.out.row w2.heap.size #[.int .u8 3, .int .i64 0, .string ⟨#[98]⟩, .slice none 0 0] (by simp)) (AV21.out.row w3.heap.size #[.int .u8 3, .int .i64 0, .string ⟨#[99]⟩, .slice none 0 0] (by simp))) (fun _ => ?_)
  clear hK K
  refine wpAnyH_ready (rs := [62]) (by kernel_rfl) (by simp) ?_
  refine AllReadyH.cons (o := { dst := some 115, op := Go.Op.call { callee := Go.Callee.value (Go.Operand.func 31), args := #[Go.Operand.const (Go.Value.string { data := #[97, 32, 42, 32, 40, 98, 32, 43, 32, 49, 41] }), Go.Operand.tmp 114], argTypes := #[9, 25] }, type := 4, pos := _, after := #[{ on := 61, ground := Go.Ground.data }, { on := 61, ground := Go.Ground.chain }, { on := 54, ground := Go.Ground.guard }], guard := some (54, true) }) rfl (fun K hK => ?_) AllReadyH.nil
  go_simp
  refine (is2 ⟨#[97, 32, 42, 32, 40, 98, 32, 43, 32, 49, 41]⟩ e4X _ _ _ (by decide) (HA.out.below AV21.out.below) chk4 wr4 E2.out.st).mono ?_
  rintro e v22 ⟨rfl, bv22⟩
  have AV22 := hid (AV21.out.step bv22)
  clear AV21 bv22 E2
  go_wp2_with fail
  refine hK.out _ _ (SB _ (AV22.out.row w1.heap.size #[.int .u8 3, .int .i64 0, .string ⟨#[97]⟩, .slice none 0 0] (by simp)) (AV22.out.row w2.heap.size #[.int .u8 3, .int .i64 0, .string ⟨#[98]⟩, .slice none 0 0] (by simp)) (AV22.out.row w3.heap.size #[.int .u8 3, .int .i64 0, .string ⟨#[99]⟩, .slice none 0 0] (by simp))) (fun _ => ?_)
  clear hK K
  refine wpAnyH_take (i := 63) (oi := { dst := some 116, op := Go.Op.pick (Go.Operand.tmp 107) (Go.Operand.tmp 115) (Go.Operand.const (Go.Value.bool false)), type := 4, pos := _, after := #[{ on := 54, ground := Go.Ground.data }, { on := 62, ground := Go.Ground.data }], guard := none }) (v := ?_) rfl (by kernel_rfl) (by kernel_rfl) (by kernel_rfl) (fun _ _ _ h => h) (Or.inl ⟨by rfl, ?_⟩) (by assumption) ?_
  rotate_left
  · intro w hSw; (try dsimp only at hSw); go_simp <;> with_reducible rfl
  simp only [Act.put, List.setIfInBounds_toArray, List.set_cons_zero, List.set_cons_succ]
  refine wpAnyH_take (i := 64) (oi := { dst := some 117, op := Go.Op.move (Go.Operand.tmp 116), type := 4, pos := _, after := #[{ on := 63, ground := Go.Ground.data }, { on := 62, ground := Go.Ground.chain }], guard := none }) (v := ?_) rfl (by kernel_rfl) (by kernel_rfl) (by kernel_rfl) (fun _ _ _ h => h) (Or.inl ⟨by rfl, ?_⟩) (by assumption) ?_
  rotate_left
  · intro w hSw; (try dsimp only at hSw); go_simp <;> with_reducible rfl
  simp only [Act.put, List.setIfInBounds_toArray, List.set_cons_zero, List.set_cons_succ]
  refine wpAnyH_take (i := 65) (oi := { dst := some 118, op := Go.Op.load 25 (Go.Operand.tmp 1), type := 25, pos := _, after := #[{ on := 64, ground := Go.Ground.guard }], guard := some (64, true) }) (v := ?_) rfl (by kernel_rfl) (by kernel_rfl) (by kernel_rfl) (fun _ _ _ h => h) (Or.inl ⟨by rfl, ?_⟩) (by assumption) ?_
  rotate_left
  · intro w hSw; (try dsimp only at hSw); go_simp <;> with_reducible rfl
  simp only [Act.put, List.setIfInBounds_toArray, List.set_cons_zero, List.set_cons_succ]
  refine wpAnyH_take (i := 66) (oi := { dst := some 119, op := Go.Op.load 25 (Go.Operand.tmp 2), type := 25, pos := _, after := #[{ on := 64, ground := Go.Ground.guard }], guard := some (64, true) }) (v := ?_) rfl (by kernel_rfl) (by kernel_rfl) (by kernel_rfl) (fun _ _ _ h => h) (Or.inl ⟨by rfl, ?_⟩) (by assumption) ?_
  rotate_left
  · intro w hSw; (try dsimp only at hSw); go_simp <;> with_reducible rfl
  simp only [Act.put, List.setIfInBounds_toArray, List.set_cons_zero, List.set_cons_succ]
  refine wpAnyH_take (i := 67) (oi := { dst := some 120, op := Go.Op.load 25 (Go.Operand.tmp 3), type := 25, pos := _, after := #[{ on := 64, ground := Go.Ground.guard }], guard := some (64, true) }) (v := ?_) rfl (by kernel_rfl) (by kernel_rfl) (by kernel_rfl) (fun _ _ _ h => h) (Or.inl ⟨by rfl, ?_⟩) (by assumption) ?_
  rotate_left
  · intro w hSw; (try dsimp only at hSw); go_simp <;> with_reducible rfl
  simp only [Act.put, List.setIfInBounds_toArray, List.set_cons_zero, List.set_cons_succ]
  refine wpAnyH_take (i := 68) (oi := { dst := some 121, op := Go.Op.load 25 (Go.Operand.tmp 1), type := 25, pos := _, after := #[{ on := 64, ground := Go.Ground.guard }], guard := some (64, true) }) (v := ?_) rfl (by kernel_rfl) (by kernel_rfl) (by kernel_rfl) (fun _ _ _ h => h) (Or.inl ⟨by rfl, ?_⟩) (by assumption) ?_
  rotate_left
  · intro w hSw; (try dsimp only at hSw); go_simp <;> with_reducible rfl
  simp only [Act.put, List.setIfInBounds_toArray, List.set_cons_zero, List.set_cons_succ]
  refine wpAnyH_ready (rs := [69]) (by kernel_rfl) (by simp) ?_
  refine AllReadyH.cons (o := { dst := some 122, op := Go.Op.buildSlice 23 2 #[(0, Go.Operand.tmp 120), (1, Go.Operand.tmp 121)], type := 23, pos := _, after := #[{ on := 67, ground := Go.Ground.data }, { on := 68, ground := Go.Ground.data }, { on := 64, ground := Go.Ground.guard }], guard := some (64, true) }) rfl (fun K hK => ?_) AllReadyH.nil
  refine if_take (by rfl) ?_
  obtain ⟨ie, hie, hz, hsz⟩ := inf25
  refine wp_buildSlice 23 25 2 _ rfl #[.int .u8 3, .int .i64 0, .string ⟨#[99]⟩, .slice none 0 0, .int .u8 3, .int .i64 0, .string ⟨#[97]⟩, .slice none 0 0] ie z25 Tryd.underlying23 hie hz (by rw [hsz]; decide) (by rw [hsz]; decide) (by rw [hsz]; simp only [List.map_toArray, List.map_cons, List.map_nil]; exact fill2R _ _ _ _ _ _ _ _) ?_
  clear hie hz hsz
  have AV23 := hid (AV22.out.push #[.int .u8 3, .int .i64 0, .string ⟨#[99]⟩, .slice none 0 0, .int .u8 3, .int .i64 0, .string ⟨#[97]⟩, .slice none 0 0])
  have E1 := hid (StP.two (ok := TT) (x := exC) (s := N0) (y := exA) (t := N0) 18 (by omega) v22.heap.size trivial (leafN _ 99) (leafN _ 97) (by rw [show ex4 (exC) (N0) ++ ex4 (exA) (N0) = #[.int .u8 3, .int .i64 0, .string ⟨#[99]⟩, .slice none 0 0, .int .u8 3, .int .i64 0, .string ⟨#[97]⟩, .slice none 0 0] from rfl]; exact heap_alloc_new v22 _))
  clear AV22
  refine hK.out _ _ (SB _ (AV23.out.row w1.heap.size #[.int .u8 3, .int .i64 0, .string ⟨#[97]⟩, .slice none 0 0] (by simp)) (AV23.out.row w2.heap.size #[.int .u8 3, .int .i64 0, .string ⟨#[98]⟩, .slice none 0 0] (by simp)) (AV23.out.row w3.heap.size #[.int .u8 3, .int .i64 0, .string ⟨#[99]⟩, .slice none 0 0] (by simp))) (fun _ => ?_)
  clear hK K
  simp only [Act.put, List.setIfInBounds_toArray, List.set_cons_zero, List.set_cons_succ]
  refine wpAnyH_ready (rs := [70]) (by kernel_rfl) (by simp) ?_
  refine AllReadyH.cons (o := { dst := some 123, op := Go.Op.call { callee := Go.Callee.value (Go.Operand.func 21), args := #[Go.Operand.const (Go.Value.int Go.IntKind.u8 18), Go.Operand.tmp 122], argTypes := #[22, 23] }, type := 25, pos := _, after := #[{ on := 69, ground := Go.Ground.data }, { on := 64, ground := Go.Ground.chain }, { on := 64, ground := Go.Ground.guard }], guard := some (64, true) }) rfl (fun K hK => ?_) AllReadyH.nil
  go_simp
  refine (of_pl _ _ _ _ _).mono ?_
  rintro e v24 ⟨rfl, bv24⟩
  have AV24 := hid (AV23.out.step bv24)
  have E1 := hid (E1.out.carry fun b _ hl => bv24.block b hl)
  clear AV23 bv24
  go_wp2_with fail
  refine hK.out _ _ (SB _ (AV24.out.row w1.heap.size #[.int .u8 3, .int .i64 0, .string ⟨#[97]⟩, .slice none 0 0] (by simp)) (AV24.out.row w2.heap.size #[.int .u8 3, .int .i64 0, .string ⟨#[98]⟩, .slice none 0 0] (by simp)) (AV24.out.row w3.heap.size #[.int .u8 3, .int .i64 0, .string ⟨#[99]⟩, .slice none 0 0] (by simp))) (fun _ => ?_)
  clear hK K
  refine wpAnyH_ready (rs := [71]) (by kernel_rfl) (by simp) ?_
  refine AllReadyH.cons (o := { dst := some 124, op := Go.Op.buildSlice 23 3 #[(0, Go.Operand.tmp 118), (1, Go.Operand.tmp 119), (2, Go.Operand.tmp 123)], type := 23, pos := _, after := #[{ on := 65, ground := Go.Ground.data }, { on := 66, ground := Go.Ground.data }, { on := 70, ground := Go.Ground.data }, { on := 64, ground := Go.Ground.guard }], guard := some (64, true) }) rfl (fun K hK => ?_) AllReadyH.nil
  refine if_take (by rfl) ?_
  obtain ⟨ie, hie, hz, hsz⟩ := inf25
  refine wp_buildSlice 23 25 3 _ rfl #[.int .u8 3, .int .i64 0, .string ⟨#[97]⟩, .slice none 0 0, .int .u8 3, .int .i64 0, .string ⟨#[98]⟩, .slice none 0 0, .int .u8 18, .int .i64 0, .string ⟨#[]⟩, .slice (some ⟨v22.heap.size, 0, none⟩) 2 2] ie z25 Tryd.underlying23 hie hz (by rw [hsz]; decide) (by rw [hsz]; decide) (by rw [hsz]; simp only [List.map_toArray, List.map_cons, List.map_nil]; exact fill3R _ _ _ _ _ _ _ _ _ _ _ _) ?_
  clear hie hz hsz
  have AV25 := hid (AV24.out.push #[.int .u8 3, .int .i64 0, .string ⟨#[97]⟩, .slice none 0 0, .int .u8 3, .int .i64 0, .string ⟨#[98]⟩, .slice none 0 0, .int .u8 18, .int .i64 0, .string ⟨#[]⟩, .slice (some ⟨v22.heap.size, 0, none⟩) 2 2])
  have E1 := hid (E1.out.carry fun b _ hl => Below.heap_alloc _ (.cells #[.int .u8 3, .int .i64 0, .string ⟨#[97]⟩, .slice none 0 0, .int .u8 3, .int .i64 0, .string ⟨#[98]⟩, .slice none 0 0, .int .u8 18, .int .i64 0, .string ⟨#[]⟩, .slice (some ⟨v22.heap.size, 0, none⟩) 2 2] 25) _ hl)
  have E2 := hid (StP.three (ok := TT) (x := exA) (s := N0) (y := exB) (t := N0) (z := opE 18 [exC, exA]) (u := .slice (some ⟨v22.heap.size, 0, none⟩) 2 2) 17 (by omega) v24.heap.size trivial (leafN _ 97) (leafN _ 98) E1.out (by rw [show ex4 exA N0 ++ ex4 exB N0 ++ ex4 (opE 18 [exC, exA]) (.slice (some ⟨v22.heap.size, 0, none⟩) 2 2) = #[.int .u8 3, .int .i64 0, .string ⟨#[97]⟩, .slice none 0 0, .int .u8 3, .int .i64 0, .string ⟨#[98]⟩, .slice none 0 0, .int .u8 18, .int .i64 0, .string ⟨#[]⟩, .slice (some ⟨v22.heap.size, 0, none⟩) 2 2] from rfl]; exact heap_alloc_new v24 _))
  clear E1
  clear AV24
  refine hK.out _ _ (SB _ (AV25.out.row w1.heap.size #[.int .u8 3, .int .i64 0, .string ⟨#[97]⟩, .slice none 0 0] (by simp)) (AV25.out.row w2.heap.size #[.int .u8 3, .int .i64 0, .string ⟨#[98]⟩, .slice none 0 0] (by simp)) (AV25.out.row w3.heap.size #[.int .u8 3, .int .i64 0, .string ⟨#[99]⟩, .slice none 0 0] (by simp))) (fun _ => ?_)
  clear hK K
  simp only [Act.put, List.setIfInBounds_toArray, List.set_cons_zero, List.set_cons_succ]
  refine wpAnyH_ready (rs := [72]) (by kernel_rfl) (by simp) ?_
  refine AllReadyH.cons (o := { dst := some 125, op := Go.Op.call { callee := Go.Callee.value (Go.Operand.func 21), args := #[Go.Operand.const (Go.Value.int Go.IntKind.u8 17), Go.Operand.tmp 124], argTypes := #[22, 23] }, type := 25, pos := _, after := #[{ on := 71, ground := Go.Ground.data }, { on := 70, ground := Go.Ground.chain }, { on := 64, ground := Go.Ground.guard }], guard := some (64, true) }) rfl (fun K hK => ?_) AllReadyH.nil
  go_simp
  refine (of_pl _ _ _ _ _).mono ?_
  rintro e v26 ⟨rfl, bv26⟩
  have AV26 := hid (AV25.out.step bv26)
  have E2 := hid (E2.out.carry fun b _ hl => bv26.block b hl)
  clear AV25 bv26
  go_wp2_with fail
  refine hK.out _ _ (SB _ (AV26.out.row w1.heap.size #[.int .u8 3, .int .i64 0, .string ⟨#[97]⟩, .slice none 0 0] (by simp)) (AV26.out.row w2.heap.size #[.int .u8 3, .int .i64 0, .string ⟨#[98]⟩, .slice none 0 0] (by simp)) (AV26.out.row w3.heap.size #[.int .u8 3, .int .i64 0, .string ⟨#[99]⟩, .slice none 0 0] (by simp))) (fun _ => ?_)
  clear hK K
  refine wpAnyH_ready (rs := [73]) (by kernel_rfl) (by simp) ?_
  refine AllReadyH.cons (o := { dst := some 126, op := Go.Op.call { callee := Go.Callee.value (Go.Operand.func 31), args := #[Go.Operand.const (Go.Value.string { data := #[105, 102, 32, 97, 32, 116, 104, 101, 110, 32, 98, 32, 101, 108, 115, 101, 32, 99, 32, 45, 62, 32, 97] }), Go.Operand.tmp 125], argTypes := #[9, 25] }, type := 4, pos := _, after := #[{ on := 72, ground := Go.Ground.data }, { on := 72, ground := Go.Ground.chain }, { on := 64, ground := Go.Ground.guard }], guard := some (64, true) }) rfl (fun K hK => ?_) AllReadyH.nil
  go_simp
  refine (is2 ⟨#[105, 102, 32, 97, 32, 116, 104, 101, 110, 32, 98, 32, 101, 108, 115, 101, 32, 99, 32, 45, 62, 32, 97]⟩ e5X _ _ _ (by decide) (HA.out.below AV26.out.below) chk5 wr5 E2.out.st).mono ?_
  rintro e v27 ⟨rfl, bv27⟩
  have AV27 := hid (AV26.out.step bv27)
  clear AV26 bv27 E2
  go_wp2_with fail
  refine hK.out _ _ (SB _ (AV27.out.row w1.heap.size #[.int .u8 3, .int .i64 0, .string ⟨#[97]⟩, .slice none 0 0] (by simp)) (AV27.out.row w2.heap.size #[.int .u8 3, .int .i64 0, .string ⟨#[98]⟩, .slice none 0 0] (by simp)) (AV27.out.row w3.heap.size #[.int .u8 3, .int .i64 0, .string ⟨#[99]⟩, .slice none 0 0] (by simp))) (fun _ => ?_)
  clear hK K
  refine wpAnyH_take (i := 74) (oi := { dst := some 127, op := Go.Op.pick (Go.Operand.tmp 117) (Go.Operand.tmp 126) (Go.Operand.const (Go.Value.bool false)), type := 4, pos := _, after := #[{ on := 64, ground := Go.Ground.data }, { on := 73, ground := Go.Ground.data }], guard := none }) (v := ?_) rfl (by kernel_rfl) (by kernel_rfl) (by kernel_rfl) (fun _ _ _ h => h) (Or.inl ⟨by rfl, ?_⟩) (by assumption) ?_
  rotate_left
  · intro w hSw; (try dsimp only at hSw); go_simp <;> with_reducible rfl
  simp only [Act.put, List.setIfInBounds_toArray, List.set_cons_zero, List.set_cons_succ]
  refine wpAnyH_take (i := 75) (oi := { dst := some 0, op := Go.Op.assign (Go.Operand.tmp 127), type := 4, pos := _, after := ([{ on := 74, ground := Go.Ground.data }, { on := 73, ground := Go.Ground.chain }, { on := 0, ground := Go.Ground.phase }, { on := 1, ground := Go.Ground.phase }, { on := 2, ground := Go.Ground.phase }, { on := 3, ground := Go.Ground.phase }, { on := 4, ground := Go.Ground.phase }, { on := 5, ground := Go.Ground.phase }, { on := 6, ground := Go.Ground.phase }, { on := 7, ground := Go.Ground.phase }, { on := 8, ground := Go.Ground.phase }, { on := 9, ground := Go.Ground.phase }, { on := 10, ground := Go.Ground.phase }, { on := 11, ground := Go.Ground.phase }, { on := 12, ground := Go.Ground.phase }, { on := 13, ground := Go.Ground.phase }, { on := 14, ground := Go.Ground.phase }, { on := 15, ground := Go.Ground.phase }, { on := 16, ground := Go.Ground.phase }, { on := 17, ground := Go.Ground.phase }, { on := 18, ground := Go.Ground.phase }, { on := 19, ground := Go.Ground.phase }, { on := 20, ground := Go.Ground.phase }, { on := 21, ground := Go.Ground.phase }, { on := 22, ground := Go.Ground.phase }, { on := 23, ground := Go.Ground.phase }, { on := 24, ground := Go.Ground.phase }, { on := 25, ground := Go.Ground.phase }, { on := 26, ground := Go.Ground.phase }, { on := 27, ground := Go.Ground.phase }, { on := 28, ground := Go.Ground.phase }, { on := 29, ground := Go.Ground.phase }, { on := 30, ground := Go.Ground.phase }, { on := 31, ground := Go.Ground.phase }, { on := 32, ground := Go.Ground.phase }, { on := 33, ground := Go.Ground.phase }, { on := 34, ground := Go.Ground.phase }, { on := 35, ground := Go.Ground.phase }].append [{ on := 36, ground := Go.Ground.phase }, { on := 37, ground := Go.Ground.phase }, { on := 38, ground := Go.Ground.phase }, { on := 39, ground := Go.Ground.phase }, { on := 40, ground := Go.Ground.phase }, { on := 41, ground := Go.Ground.phase }, { on := 42, ground := Go.Ground.phase }, { on := 43, ground := Go.Ground.phase }, { on := 44, ground := Go.Ground.phase }, { on := 45, ground := Go.Ground.phase }, { on := 46, ground := Go.Ground.phase }, { on := 47, ground := Go.Ground.phase }, { on := 48, ground := Go.Ground.phase }, { on := 49, ground := Go.Ground.phase }, { on := 50, ground := Go.Ground.phase }, { on := 51, ground := Go.Ground.phase }, { on := 52, ground := Go.Ground.phase }, { on := 53, ground := Go.Ground.phase }, { on := 54, ground := Go.Ground.phase }, { on := 55, ground := Go.Ground.phase }, { on := 56, ground := Go.Ground.phase }, { on := 57, ground := Go.Ground.phase }, { on := 58, ground := Go.Ground.phase }, { on := 59, ground := Go.Ground.phase }, { on := 60, ground := Go.Ground.phase }, { on := 61, ground := Go.Ground.phase }, { on := 62, ground := Go.Ground.phase }, { on := 63, ground := Go.Ground.phase }, { on := 64, ground := Go.Ground.phase }, { on := 65, ground := Go.Ground.phase }, { on := 66, ground := Go.Ground.phase }, { on := 67, ground := Go.Ground.phase }, { on := 68, ground := Go.Ground.phase }, { on := 69, ground := Go.Ground.phase }, { on := 70, ground := Go.Ground.phase }, { on := 71, ground := Go.Ground.phase }, { on := 72, ground := Go.Ground.phase }, { on := 73, ground := Go.Ground.phase }, { on := 74, ground := Go.Ground.phase }]).toArray, guard := none }) (v := ?_) rfl (by kernel_rfl) (by kernel_rfl) (by kernel_rfl) (fun _ _ _ h => h) (Or.inl ⟨by rfl, ?_⟩) (by assumption) ?_
  rotate_left
  · intro w hSw; (try dsimp only at hSw); go_simp <;> with_reducible rfl
  simp only [Act.put, List.setIfInBounds_toArray, List.set_cons_zero]
  refine wpAnyH_done (by kernel_rfl) ?_ _
  refine HK9.out _ _ ?_
  go_wp2
  go_ret
  exact ⟨rfl, AV27.out.below⟩
end Go.Proofs.YtkieljleopbhoaaDoor.Lex
