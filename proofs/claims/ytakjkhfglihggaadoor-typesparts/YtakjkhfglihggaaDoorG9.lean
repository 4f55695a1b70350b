/-
  The contracts of TwinFlow and TwinFlows.
  The contract of TwinProg.
  Whether the twin of a program's rows is as it was: the contracts of LeftIns, LeftTexts, LeftFlow, LeftFlows and LeftProg.
  The document's own Find.
  A program's twin whose flows are exchanged one by one: what stands while that is done.
  A program without its outs, with a flow twice, without a flow: what stands while that is made.
-/
import Derived.Test.YtakjkhfglihggaaDoorG4
import Derived.Test.YtakjkhfglihggaaDoorG8
import Derived.Test.YtakjkhfglihggaaDoorG1
import Derived.Deep.QuietTactic
import Derived.Test.YtakjkhfglihggaaDoorG3
import Derived.Test.YtakjkhfglihggaaDoorG5
import Derived.Deep.MidRow
import Derived.Test.YtakjkhfglihggaaDoorG6
import Derived.Deep.AppendLies
import Derived.Deep.RegionLaw
namespace Go.Proofs.YtakjkhfglihggaaDoor.Lex
open Go.ChangeShapes Go.WideShapes Go.ChangeAt Go.RowKit Go.Joins
theorem info50 : (Tryd.prog.info? 52).map (·.size) = some 8 := by kernel_rfl
theorem info50' : (Tryd.prog.info? 52).map (fun i => (i.zero, i.size, i.bytes)) = some (some (.agg #[.string ByteArray.empty, .int .u8 0, .int .i64 0, .int .i64 0, .int .u8 0, .int .i64 0, .string ByteArray.empty, .slice none 0 0]), 8, 96) := by kernel_rfl
set_option maxRecDepth 100000 in
set_option maxHeartbeats 1000000 in
theorem twin_flow (x : Fl) (w : World) (s : Value) (hS : St w x.body s) :
    Calls Tryd.prog 57 #[flV x s] w fun e w' => ∃ s', e = .returned (flV x s') ∧ Tw w' w.heap.size x.body s' ∧ Below w.heap.size w w' := by
  obtain ⟨ao, cap, sl, rfl, _⟩ := hS.out
  have b1 := (Below.refl w.heap.size w).alloc (Nat.le_refl _) (.cells #[.string x.name, .int .u8 (x.ty : Int), .int .i64 x.st, .int .i64 x.df, .int .u8 (x.body.op : Int), .int .i64 x.body.n, .string x.body.name, .slice ao x.body.args.length cap] 52)
  have b2 := bstep b1 ((Below.refl _ _).alloc (Nat.le_refl _) (.cells #[.string ByteArray.empty, .int .u8 0, .int .i64 0, .int .i64 0, .int .u8 0, .int .i64 0, .string ByteArray.empty, .slice none 0 0] 52))
  have c := fun W (hb : Below w.heap.size w W) => twin_any _ x.body (Nat.le_refl _) W _ (hS.keep hb)
  have H2 := hid b2
  have B0 := box_first w #[.string x.name, .int .u8 (x.ty : Int), .int .i64 x.st, .int .i64 x.df, .int .u8 (x.body.op : Int), .int .i64 x.body.n, .string x.body.name, .slice ao x.body.args.length cap] #[.string ByteArray.empty, .int .u8 0, .int .i64 0, .int .i64 0, .int .u8 0, .int .i64 0, .string ByteArray.empty, .slice none 0 0] 52
  clear hS b1 b2
  go_enter Tryd.func57, Tryd.ntmps57
  go_wp2
  refine wp_region_held_drew (S := fun W => W.cell? ⟨w.heap.size, 0, none⟩ = some (.string x.name) ∧ W.cell? ⟨w.heap.size, 1, none⟩ = some (.int .u8 (x.ty : Int)) ∧ W.cell? ⟨w.heap.size, 2, none⟩ = some (.int .i64 x.st) ∧ W.cell? ⟨w.heap.size, 3, none⟩ = some (.int .i64 x.df) ∧ W.cell? ⟨w.heap.size, 4, none⟩ = some (.int .u8 (x.body.op : Int)) ∧ W.cell? ⟨w.heap.size, 5, none⟩ = some (.int .i64 x.body.n) ∧ W.cell? ⟨w.heap.size, 6, none⟩ = some (.string x.body.name) ∧ W.cell? ⟨w.heap.size, 7, none⟩ = some (.slice ao x.body.args.length cap)) (by kernel_rfl) ?_ (fun hHeld => ?_)
  · exact ⟨B0 0 _ rfl, B0 1 _ rfl, B0 2 _ rfl, B0 3 _ rfl, B0 4 _ rfl, B0 5 _ rfl, B0 6 _ rfl, B0 7 _ rfl⟩
  refine wpAnyH_take (i := 0) (oi := { dst := some 3, op := Go.Op.fieldAddr 52 (Go.Operand.tmp 1) 0, type := 0, pos := _, after := #[], guard := none }) (v := ?_) rfl (by kernel_rfl) (by kernel_rfl) (by kernel_rfl) (fun _ _ _ h => h) (Or.inl ⟨by rfl, ?_⟩) (by assumption) ?_
  rotate_left
  · intro w hSw; (try dsimp only at hSw); go_simp <;> first | with_reducible rfl | (rw [if_neg (by first | omega | (simp only [ByteArray.size_append] at *; omega))])
  simp only [Act.put, List.setIfInBounds_toArray, List.set_cons_zero, List.set_cons_succ]
  refine wpAnyH_take (i := 1) (oi := { dst := some 4, op := Go.Op.load 9 (Go.Operand.tmp 3), type := 9, pos := _, after := #[{ on := 0, ground := Go.Ground.data }], guard := none }) (v := ?_) rfl (by kernel_rfl) (by kernel_rfl) (by kernel_rfl) (fun _ _ _ h => h) (Or.inl ⟨by rfl, ?_⟩) (by assumption) ?_
  rotate_left
  · intro w hSw; (try dsimp only at hSw); go_simp <;> first | with_reducible rfl | (rw [if_neg (by first | omega | (simp only [ByteArray.size_append] at *; omega))])
  simp only [Act.put, List.setIfInBounds_toArray, List.set_cons_zero, List.set_cons_succ]
  refine wpAnyH_take (i := 2) (oi := { dst := some 5, op := Go.Op.fieldAddr 52 (Go.Operand.tmp 1) 1, type := 0, pos := _, after := #[], guard := none }) (v := ?_) rfl (by kernel_rfl) (by kernel_rfl) (by kernel_rfl) (fun _ _ _ h => h) (Or.inl ⟨by rfl, ?_⟩) (by assumption) ?_
  rotate_left
  · intro w hSw; (try dsimp only at hSw); go_simp <;> first | with_reducible rfl | (rw [if_neg (by first | omega | (simp only [ByteArray.size_append] at *; omega))])
  simp only [Act.put, List.setIfInBounds_toArray, List.set_cons_zero, List.set_cons_succ]
  refine wpAnyH_take (i := 3) (oi := { dst := some 6, op := Go.Op.load 35 (Go.Operand.tmp 5), type := 35, pos := _, after := #[{ on := 2, ground := Go.Ground.data }], guard := none }) (v := ?_) rfl (by kernel_rfl) (by kernel_rfl) (by kernel_rfl) (fun _ _ _ h => h) (Or.inl ⟨by rfl, ?_⟩) (by assumption) ?_
  rotate_left
  · intro w hSw; (try dsimp only at hSw); go_simp <;> first | with_reducible rfl | (rw [if_neg (by first | omega | (simp only [ByteArray.size_append] at *; omega))])
  simp only [Act.put, List.setIfInBounds_toArray, List.set_cons_zero, List.set_cons_succ]
  refine wpAnyH_take (i := 4) (oi := { dst := some 7, op := Go.Op.fieldAddr 52 (Go.Operand.tmp 1) 2, type := 0, pos := _, after := #[], guard := none }) (v := ?_) rfl (by kernel_rfl) (by kernel_rfl) (by kernel_rfl) (fun _ _ _ h => h) (Or.inl ⟨by rfl, ?_⟩) (by assumption) ?_
  rotate_left
  · intro w hSw; (try dsimp only at hSw); go_simp <;> first | with_reducible rfl | (rw [if_neg (by first | omega | (simp only [ByteArray.size_append] at *; omega))])
  simp only [Act.put, List.setIfInBounds_toArray, List.set_cons_zero, List.set_cons_succ]
  refine wpAnyH_take (i := 5) (oi := { dst := some 8, op := Go.Op.load 3 (Go.Operand.tmp 7), type := 3, pos := _, after := #[{ on := 4, ground := Go.Ground.data }], guard := none }) (v := ?_) rfl (by kernel_rfl) (by kernel_rfl) (by kernel_rfl) (fun _ _ _ h => h) (Or.inl ⟨by rfl, ?_⟩) (by assumption) ?_
  rotate_left
  · intro w hSw; (try dsimp only at hSw); go_simp <;> first | with_reducible rfl | (rw [if_neg (by first | omega | (simp only [ByteArray.size_append] at *; omega))])
  simp only [Act.put, List.setIfInBounds_toArray, List.set_cons_zero, List.set_cons_succ]
  refine wpAnyH_take (i := 6) (oi := { dst := some 9, op := Go.Op.fieldAddr 52 (Go.Operand.tmp 1) 3, type := 0, pos := _, after := #[], guard := none }) (v := ?_) rfl (by kernel_rfl) (by kernel_rfl) (by kernel_rfl) (fun _ _ _ h => h) (Or.inl ⟨by rfl, ?_⟩) (by assumption) ?_
  rotate_left
  · intro w hSw; (try dsimp only at hSw); go_simp <;> first | with_reducible rfl | (rw [if_neg (by first | omega | (simp only [ByteArray.size_append] at *; omega))])
  simp only [Act.put, List.setIfInBounds_toArray, List.set_cons_zero, List.set_cons_succ]
  refine wpAnyH_take (i := 7) (oi := { dst := some 10, op := Go.Op.load 2 (Go.Operand.tmp 9), type := 2, pos := _, after := #[{ on := 6, ground := Go.Ground.data }], guard := none }) (v := ?_) rfl (by kernel_rfl) (by kernel_rfl) (by kernel_rfl) (fun _ _ _ h => h) (Or.inl ⟨by rfl, ?_⟩) (by assumption) ?_
  rotate_left
  · intro w hSw; (try dsimp only at hSw); go_simp <;> first | with_reducible rfl | (rw [if_neg (by first | omega | (simp only [ByteArray.size_append] at *; omega))])
  simp only [Act.put, List.setIfInBounds_toArray, List.set_cons_zero, List.set_cons_succ]
  refine wpAnyH_take (i := 8) (oi := { dst := some 11, op := Go.Op.fieldAddr 52 (Go.Operand.tmp 1) 4, type := 0, pos := _, after := #[], guard := none }) (v := ?_) rfl (by kernel_rfl) (by kernel_rfl) (by kernel_rfl) (fun _ _ _ h => h) (Or.inl ⟨by rfl, ?_⟩) (by assumption) ?_
  rotate_left
  · intro w hSw; (try dsimp only at hSw); go_simp <;> first | with_reducible rfl | (rw [if_neg (by first | omega | (simp only [ByteArray.size_append] at *; omega))])
  simp only [Act.put, List.setIfInBounds_toArray, List.set_cons_zero, List.set_cons_succ]
  refine wpAnyH_take (i := 9) (oi := { dst := some 12, op := Go.Op.load 30 (Go.Operand.tmp 11), type := 30, pos := _, after := #[{ on := 8, ground := Go.Ground.data }], guard := none }) (v := ?_) rfl (by kernel_rfl) (by kernel_rfl) (by kernel_rfl) (fun _ _ _ h => h) (Or.inl ⟨by rfl, ?_⟩) (by assumption) ?_
  rotate_left
  · intro w hSw; (try dsimp only at hSw); go_simp <;> first | with_reducible rfl | (rw [if_neg (by first | omega | (simp only [ByteArray.size_append] at *; omega))])
  simp only [Act.put, List.setIfInBounds_toArray, List.set_cons_zero, List.set_cons_succ]
  refine wpAnyH_ready (rs := [10]) (by kernel_rfl) (by simp) ?_
  refine AllReadyH.cons (o := { dst := some 13, op := Go.Op.call { callee := Go.Callee.value (Go.Operand.func 12), args := #[Go.Operand.tmp 12], argTypes := #[30] }, type := 30, pos := _, after := #[{ on := 9, ground := Go.Ground.data }], guard := none }) rfl (fun K hK => ?_) AllReadyH.nil
  go_simp
  refine (c _ H2.out.drew).mono ?_
  rintro e w3 ⟨s3, rfl, ht3, hb3⟩
  obtain ⟨t3, c3, _, rfl, _⟩ := ht3.st.out
  obtain ⟨p1, p2, p3⟩ := two_boxes w w3 _ _ 52 hb3
  go_wp2_with fail
  refine hK.out _ _ ?_ (fun hHeld1 => ?_)
  · exact ⟨p1 0 _ rfl, p1 1 _ rfl, p1 2 _ rfl, p1 3 _ rfl, p1 4 _ rfl, p1 5 _ rfl, p1 6 _ rfl, p1 7 _ rfl⟩
  clear hK K
  refine wpAnyH_take (i := 11) (oi := { dst := some 14, op := Go.Op.build 52 #[(0, Go.Operand.tmp 4), (1, Go.Operand.tmp 6), (2, Go.Operand.tmp 8), (3, Go.Operand.tmp 10), (4, Go.Operand.tmp 13)], type := 52, pos := _, after := #[{ on := 1, ground := Go.Ground.data }, { on := 3, ground := Go.Ground.data }, { on := 5, ground := Go.Ground.data }, { on := 7, ground := Go.Ground.data }, { on := 10, ground := Go.Ground.data }], guard := none }) (v := ?_) rfl (by kernel_rfl) (by kernel_rfl) (by kernel_rfl) (fun _ _ _ h => h) (Or.inl ⟨by rfl, ?_⟩) (by assumption) ?_
  rotate_left
  · intro w hSw; (try dsimp only at hSw); go_simp <;> first | with_reducible rfl | (rw [if_neg (by first | omega | (simp only [ByteArray.size_append] at *; omega))])
  simp only [Act.put, List.setIfInBounds_toArray, List.set_cons_zero, List.set_cons_succ]
  refine wpAnyH_ready (rs := [12]) (by kernel_rfl) (by simp) ?_
  refine AllReadyH.cons (o := { dst := none, op := Go.Op.store 52 (Go.Operand.tmp 2) (Go.Operand.tmp 14), type := 0, pos := _, after := #[{ on := 11, ground := Go.Ground.data }, { on := 10, ground := Go.Ground.chain }, { on := 0, ground := Go.Ground.phase }, { on := 1, ground := Go.Ground.phase }, { on := 2, ground := Go.Ground.phase }, { on := 3, ground := Go.Ground.phase }, { on := 4, ground := Go.Ground.phase }, { on := 5, ground := Go.Ground.phase }, { on := 6, ground := Go.Ground.phase }, { on := 7, ground := Go.Ground.phase }, { on := 8, ground := Go.Ground.phase }, { on := 9, ground := Go.Ground.phase }, { on := 10, ground := Go.Ground.phase }, { on := 11, ground := Go.Ground.phase }], guard := none }) rfl (fun K hK => ?_) AllReadyH.nil
  refine if_take (by rfl) ?_
  refine wp_store_row 52 _ _ rfl (w.heap.size + 1) #[.string x.name, .int .u8 (x.ty : Int), .int .i64 x.st, .int .i64 x.df, .int .u8 (x.body.op : Int), .int .i64 x.body.n, .string x.body.name, .slice t3 x.body.args.length c3] rfl rfl 52 _ p3 info50 rfl (by simp [Value.oneCell']) ?_
  refine hK.out _ _ ?_ (fun _ => ?_)
  · have hne : w.heap.size ≠ w.heap.size + 1 := by omega
    have kk : ∀ j v, w3.cell? ⟨w.heap.size, j, none⟩ = some v → (w3.setRow (w.heap.size + 1) #[.string x.name, .int .u8 (x.ty : Int), .int .i64 x.st, .int .i64 x.df, .int .u8 (x.body.op : Int), .int .i64 x.body.n, .string x.body.name, .slice t3 x.body.args.length c3]).cell? ⟨w.heap.size, j, none⟩ = some v := fun j v h => by
      rw [World.cell?_of_block (w := w3) (a := ⟨w.heap.size, j, none⟩) (setRow_other w3 _ _ _ hne)]
      exact h
    exact ⟨kk _ _ (p1 0 _ rfl), kk _ _ (p1 1 _ rfl), kk _ _ (p1 2 _ rfl), kk _ _ (p1 3 _ rfl), kk _ _ (p1 4 _ rfl), kk _ _ (p1 5 _ rfl), kk _ _ (p1 6 _ rfl), kk _ _ (p1 7 _ rfl)⟩
  clear hK K
  refine wpAnyH_done (by kernel_rfl) ?_ _
  go_wp2
  refine bodyPost_ret (results_cell_row rfl _ _ (w.heap.size + 1) 52 #[.string x.name, .int .u8 (x.ty : Int), .int .i64 x.st, .int .i64 x.df, .int .u8 (x.body.op : Int), .int .i64 x.body.n, .string x.body.name, .slice t3 x.body.args.length c3] (0, 0) _ rfl (setRow_heap _ _ _ _ _ _ p3) Tryd.underlying52 rfl info50) rfl ⟨_, rfl, ?_, ?_⟩
  · have hlo : w.heap.size + 2 ≤ (((w.alloc (.cells #[.string x.name, .int .u8 (x.ty : Int), .int .i64 x.st, .int .i64 x.df, .int .u8 (x.body.op : Int), .int .i64 x.body.n, .string x.body.name, .slice ao x.body.args.length cap] 52)).alloc (.cells #[.string ByteArray.empty, .int .u8 0, .int .i64 0, .int .i64 0, .int .u8 0, .int .i64 0, .string ByteArray.empty, .slice none 0 0] 52)).drew).heap.size := by simp
    exact (ht3.carry fun b hb _ => setRow_other w3 _ _ _ (by have := hb; omega)).low (by omega)
  · exact below_row (bstep H2.out.drew hb3) (by have := (bstep H2.out.drew hb3).size; omega) (by omega) _
/-- While the flows' row is made. -/
structure MkF (w : World) (l : List Fl) (k : Nat) (ps : List (Fl × Value)) (W : World) : Prop where
  made : MkR w 52 8 l.length (ps.map fun (p : Fl × Value) => flL p.1 p.2) W
  len : ps.length = k
  fst : ps.map (·.1) = l.take k
  parts : ∀ p ∈ ps, Tw W (w.heap.size + 1) p.1.body p.2
theorem MkF.step {w W W' : World} {l : List Fl} {k : Nat} {ps : List (Fl × Value)} (h : MkF w l k ps W) (hb : Below W.heap.size W W') : MkF w l k ps W' :=
  ⟨h.made.step hb, h.len, h.fst, fun p hp => (h.parts p hp).keep hb⟩
theorem MkF.row {w W : World} {l : List Fl} {k : Nat} {ps : List (Fl × Value)} (h : MkF w l k ps W) : W.ownsRow w.heap.size 52 8 (.slice (some ⟨w.heap.size, 0, none⟩) k (l.length + 1)) k (ps.map fun (p : Fl × Value) => flL p.1 p.2).flatten := by
  have := h.made.row
  rwa [List.length_map, h.len] at this
theorem MkF.grow {w W W' : World} {l : List Fl} {k : Nat} {ps : List (Fl × Value)} {y : Fl} {s : Value} (h : MkF w l k ps W) (hk : k < l.length) (hy : l[k] = y) (hT : Tw W (w.heap.size + 1) y.body s)
    (hr : W'.ownsRow w.heap.size 52 8 (.slice (some ⟨w.heap.size, 0, none⟩) (k + 1) (l.length + 1)) (k + 1) ((ps.map fun (p : Fl × Value) => flL p.1 p.2).flatten ++ flL y s)) (hg : W.grownBy W' (some w.heap.size)) : MkF w l (k + 1) (ps ++ [(y, s)]) W' where
  made := by
    have := h.made.grow (by rw [List.length_map, h.len]) rfl hr hg
    simpa using this
  len := by simp [h.len]
  fst := by rw [List.map_append, h.fst, List.take_succ_eq_append_getElem hk, hy]; rfl
  parts := fun p hp => by
    rcases List.mem_append.1 hp with hp | hp
    · exact (h.parts p hp).grown hg (by omega)
    · rw [List.mem_singleton.1 hp]; exact hT.grown hg (by omega)
theorem MkF.done {w W W' : World} {l : List Fl} {ps : List (Fl × Value)} (h : MkF w l l.length ps W) (hlen : l.length ≤ 1466015503658) (hok : ∀ x ∈ l, x.ok)
    (hr : W'.ownsRow w.heap.size 52 8 (.slice (some ⟨w.heap.size, 0, none⟩) (l.length + 1) (l.length + 1)) (l.length + 1) ((ps.map fun (p : Fl × Value) => flL p.1 p.2).flatten ++ flL spareFl (.slice none 0 0))) (hg : W.grownBy W' (some w.heap.size)) :
    TwFlows W' w.heap.size l (.slice (some ⟨w.heap.size, 0, none⟩) l.length (l.length + 1)) := by
  have hl := h.len
  have hf : ps.map (·.1) = l := by rw [h.fst, List.take_length]
  have hfst : ∀ i (hi : i < ps.length), ps[i].1 = l[i]'(by omega) := fun i hi => by
    have : (ps.map (·.1))[i]'(by simpa using hi) = l[i]'(by omega) := by simp only [hf]
    simpa using this
  obtain ⟨C1, C2⟩ := MkR.cells h.made.each (by rw [List.length_map, hl]) rfl hr
  refine ⟨w.heap.size, l.length + 1, fun i => (ps[i]?.map (·.2)).getD (.slice none 0 0), rfl, Nat.le_refl _, hlen, by omega, hok, fun i hi => ?_, ?_, fun i hi => ?_, ?_⟩
  · have hip : i < ps.length := by omega
    have he : (ps.map fun (p : Fl × Value) => flL p.1 p.2)[i]? = some (flL l[i] ps[i].2) := by rw [List.getElem?_map, List.getElem?_eq_getElem hip, Option.map_some, hfst i hip]
    dsimp only
    rw [List.getElem?_eq_getElem hip]
    exact ⟨C1 i _ 0 _ he rfl, C1 i _ 1 _ he rfl, C1 i _ 2 _ he rfl, C1 i _ 3 _ he rfl, C1 i _ 4 _ he rfl, C1 i _ 5 _ he rfl, C1 i _ 6 _ he rfl, C1 i _ 7 _ he rfl⟩
  · exact ⟨C2 0 _ rfl, C2 1 _ rfl, C2 2 _ rfl, C2 3 _ rfl, C2 4 _ rfl, C2 5 _ rfl, C2 6 _ rfl, C2 7 _ rfl⟩
  · have hip : i < ps.length := by omega
    have := (h.parts ps[i] (List.getElem_mem hip)).grown hg (by omega)
    rw [hfst i hip] at this
    dsimp only
    rw [List.getElem?_eq_getElem hip]
    exact this
  · exact Blk.of_row hr
set_option maxRecDepth 100000 in
set_option maxHeartbeats 2000000 in
theorem twin_flows (l : List Fl) (w : World) (s : Value) (hS : FlowsAt w l s) :
    Calls Tryd.prog 28 #[s] w fun e w' => ∃ s', e = .returned s' ∧ TwFlows w' w.heap.size l s' ∧ Below w.heap.size w w' := by
  obtain ⟨ao, cap, sl, rfl, hlen, _, hok, hc, hs⟩ := hS
  have HC := hid hc
  have HO := hid hok
  have HS := hid hs
  obtain ⟨i0, hi, hi0, hi1, hi2⟩ := info_parts info50'
  clear hc hok hs
  go_enter Tryd.func28, Tryd.ntmps28
  go_wp2_with (at_make; refine wpList_make_own w rfl (.const (.int .i64 0)) (.tmp 7) 23 rfl w.heap.size 52 i0 _ 8 Tryd.underlying23 hi hi0 hi1 .i64 .i64 _ (l.length + 1) rfl rfl (by omega) (by rw [hi2]; omega) (by unfold maxLen; omega) (Nat.le_refl _) ?_; intro w1 hown1 hgrow1; have M1 := hid (MkR.start (t := 52) (c := 8) (n := l.length) hown1 hgrow1); clear hown1 hgrow1)
  go_loopw [3, 4] (fun v i wr => ∃ (k : Nat) (ps : List (Fl × Value)), k ≤ l.length ∧ v = .slice (some ⟨w.heap.size, 0, none⟩) k (l.length + 1) ∧ i = .int .i64 (k : Int) ∧ Hid (MkF w l k ps wr)) (fun _ i _ => l.length - (intOf i).toNat)
  case atStart => exact ⟨0, [], Nat.zero_le _, rfl, rfl, hid ⟨M1.out, rfl, rfl, fun p hp => by cases hp⟩⟩
  case round =>
    obtain ⟨k, ps, hk, rfl, rfl, hM⟩ := hrel
    by_cases hlt : k < l.length
    · have hlt' : (k : Int) < (l.length : Int) := by omega
      have hk0 : (0 : Int) ≤ (k : Int) := by omega
      obtain ⟨bb, o, rfl, hcc⟩ := HC.out.resolve_left (by omega)
      have F := (hcc k hlt).keep hM.out.made.below
      have c := twin_flow l[k] wr (sl k) ((HS.out k hlt).keep hM.out.made.below)
      obtain ⟨y, hy⟩ : ∃ y, l[k] = y := ⟨_, rfl⟩
      rw [hy] at F c
      obtain ⟨v0, v1, v2, v3, v4, v5, v6, v7⟩ := F
      have HY := hid hy
      clear hcc hy
      go_wp2_with (first
        | (go_at_call 57; refine c.mono ?_; rintro e w2 ⟨s2, rfl, ht2, hb2⟩; obtain ⟨b2, c2, _, rfl, _⟩ := ht2.st.out; have T2 := hid (ht2.keep ((Below.refl _ _).alloc (Nat.le_refl _) (.cells #[.string y.name, .int .u8 (y.ty : Int), .int .i64 y.st, .int .i64 y.df, .int .u8 (y.body.op : Int), .int .i64 y.body.n, .string y.body.name, .slice b2 y.body.args.length c2] 52))); have M2 := hid ((hM.out.step hb2).step ((Below.refl _ _).alloc (Nat.le_refl _) (.cells #[.string y.name, .int .u8 (y.ty : Int), .int .i64 y.st, .int .i64 y.df, .int .u8 (y.body.op : Int), .int .i64 y.body.n, .string y.body.name, .slice b2 y.body.args.length c2] 52))); have N2 := hid (next_cells w2 (flL y (.slice b2 y.body.args.length c2)) 52); have SZ := hid hM.out.made.size; clear c ht2 hb2)
        | (at_builtin; refine wpList_append_fits _ rfl (.tmp 15) (.tmp 21) 23 rfl w.heap.size 52 i0 8 Tryd.underlying23 hi hi1 w.heap.size k (l.length + 1) (ps.map fun (p : Fl × Value) => flL p.1 p.2).flatten rfl M2.out.row ⟨w2.heap.size, 0, none⟩ 1 1 (flL y (.slice b2 y.body.args.length c2)) rfl rfl N2.out (by simp [Value.oneCell']) (by omega) ?_; intro w4 hown4 hgrow4; have M4 := hid (M2.out.grow hlt HY.out (T2.out.low (by have := SZ.out; omega)) hown4 hgrow4); clear hown4 hgrow4))
      go_roundw
      case rel => exact ⟨k + 1, _, by omega, rfl, by go_num, M4⟩
      case measure => simp [intOf]; omega
    · have hlt' : ¬ (k : Int) < (l.length : Int) := by omega
      obtain rfl : k = l.length := by omega
      have M2 := hid (hM.out.step ((Below.refl _ _).alloc (Nat.le_refl _) (.cells #[.string spare, .int .u8 0, .int .i64 0, .int .i64 0, .int .u8 0, .int .i64 0, .string ⟨#[]⟩, .slice none 0 0] 52)))
      have N2 := hid (next_cells wr (flL spareFl (.slice none 0 0)) 52)
      go_wp2_with (at_builtin; refine wpList_append_fits _ rfl (.tmp 23) (.tmp 25) 23 rfl w.heap.size 52 i0 8 Tryd.underlying23 hi hi1 w.heap.size l.length (l.length + 1) (ps.map fun (p : Fl × Value) => flL p.1 p.2).flatten rfl M2.out.row ⟨wr.heap.size, 0, none⟩ 1 1 (flL spareFl (.slice none 0 0)) rfl rfl N2.out (by simp [Value.oneCell']) (by omega) ?_; intro w4 hown4 hgrow4; have T4 := hid (M2.out.done hlen HO.out hown4 hgrow4); have B4 := hid (M2.out.made.below.grown hgrow4 M2.out.made.below.size (fun j hj => by cases hj; exact Nat.le_refl _)); clear hown4 hgrow4)
      go_ret
      exact ⟨_, rfl, T4.out, B4.out⟩
end Go.Proofs.YtakjkhfglihggaaDoor.Lex
namespace Go.Proofs.YtakjkhfglihggaaDoor.Lex
open Go.ChangeShapes Go.WideShapes Go.ChangeAt Go.RowKit Go.Joins
theorem info26 : (Tryd.prog.info? 26).map (·.size) = some 4 := by kernel_rfl
/-- The first row lies ahead of the second one. -/
def Ord2 (a b : Value) : Prop := ∀ i n c j m d, a = .slice (some ⟨i, 0, none⟩) n c → b = .slice (some ⟨j, 0, none⟩) m d → i < j
set_option maxRecDepth 100000 in
set_option maxHeartbeats 1000000 in
theorem twin_prog2 (p : Pg) (w : World) (a b c : Value) (hP : PgAt w p a b c) :
    Calls Tryd.prog 11 #[pgV p a b c] w fun e w' => ∃ a' b' c', e = .returned (pgV p a' b' c') ∧ TwPg w' w.heap.size p a' b' c' ∧ Below w.heap.size w w' ∧ Ord2 a' b' := by
  obtain ⟨a0, a1, rfl, _⟩ := hP.ins
  obtain ⟨b0, b1, _, rfl, _⟩ := hP.flows
  obtain ⟨c0, c1, rfl, _⟩ := hP.outs
  have P0 := hid hP
  have H2 := hid (bstep ((Below.refl w.heap.size w).alloc (Nat.le_refl _) (.cells (pgC p (.slice a0 p.ins.length a1) (.slice b0 p.flows.length b1) (.slice c0 p.outs.length c1)) 26)) ((Below.refl _ _).alloc (Nat.le_refl _) (.cells #[.int .i64 0, .slice none 0 0, .slice none 0 0, .slice none 0 0] 26)))
  have B0 := box_first w (pgC p (.slice a0 p.ins.length a1) (.slice b0 p.flows.length b1) (.slice c0 p.outs.length c1)) #[.int .i64 0, .slice none 0 0, .slice none 0 0, .slice none 0 0] 26
  clear hP
  go_enter Tryd.func11, Tryd.ntmps11
  go_wp2
  refine wp_region_held_drew (S := fun W => W.cell? ⟨w.heap.size, 0, none⟩ = some (.int .i64 p.st) ∧ W.cell? ⟨w.heap.size, 1, none⟩ = some (.slice a0 p.ins.length a1) ∧ W.cell? ⟨w.heap.size, 2, none⟩ = some (.slice b0 p.flows.length b1) ∧ W.cell? ⟨w.heap.size, 3, none⟩ = some (.slice c0 p.outs.length c1)) (by kernel_rfl) ?_ (fun hHeld => ?_)
  · exact ⟨B0 0 _ rfl, B0 1 _ rfl, B0 2 _ rfl, B0 3 _ rfl⟩
  refine wpAnyH_take (i := 0) (oi := { dst := some 3, op := Go.Op.fieldAddr 26 (Go.Operand.tmp 1) 0, type := 0, pos := _, after := #[], guard := none }) (v := ?_) rfl (by kernel_rfl) (by kernel_rfl) (by kernel_rfl) (fun _ _ _ h => h) (Or.inl ⟨by rfl, ?_⟩) (by assumption) ?_
  rotate_left
  · intro w hSw; (try dsimp only at hSw); go_simp <;> first | with_reducible rfl | (rw [if_neg (by first | omega | (simp only [ByteArray.size_append] at *; omega))])
  simp only [Act.put, List.setIfInBounds_toArray, List.set_cons_zero, List.set_cons_succ]
  refine wpAnyH_take (i := 1) (oi := { dst := some 4, op := Go.Op.load 3 (Go.Operand.tmp 3), type := 3, pos := _, after := #[{ on := 0, ground := Go.Ground.data }], guard := none }) (v := ?_) rfl (by kernel_rfl) (by kernel_rfl) (by kernel_rfl) (fun _ _ _ h => h) (Or.inl ⟨by rfl, ?_⟩) (by assumption) ?_
  rotate_left
  · intro w hSw; (try dsimp only at hSw); go_simp <;> first | with_reducible rfl | (rw [if_neg (by first | omega | (simp only [ByteArray.size_append] at *; omega))])
  simp only [Act.put, List.setIfInBounds_toArray, List.set_cons_zero, List.set_cons_succ]
  refine wpAnyH_take (i := 2) (oi := { dst := some 5, op := Go.Op.fieldAddr 26 (Go.Operand.tmp 1) 1, type := 0, pos := _, after := #[], guard := none }) (v := ?_) rfl (by kernel_rfl) (by kernel_rfl) (by kernel_rfl) (fun _ _ _ h => h) (Or.inl ⟨by rfl, ?_⟩) (by assumption) ?_
  rotate_left
  · intro w hSw; (try dsimp only at hSw); go_simp <;> first | with_reducible rfl | (rw [if_neg (by first | omega | (simp only [ByteArray.size_append] at *; omega))])
  simp only [Act.put, List.setIfInBounds_toArray, List.set_cons_zero, List.set_cons_succ]
  refine wpAnyH_take (i := 3) (oi := { dst := some 6, op := Go.Op.load 22 (Go.Operand.tmp 5), type := 22, pos := _, after := #[{ on := 2, ground := Go.Ground.data }], guard := none }) (v := ?_) rfl (by kernel_rfl) (by kernel_rfl) (by kernel_rfl) (fun _ _ _ h => h) (Or.inl ⟨by rfl, ?_⟩) (by assumption) ?_
  rotate_left
  · intro w hSw; (try dsimp only at hSw); go_simp <;> first | with_reducible rfl | (rw [if_neg (by first | omega | (simp only [ByteArray.size_append] at *; omega))])
  simp only [Act.put, List.setIfInBounds_toArray, List.set_cons_zero, List.set_cons_succ]
  refine wpAnyH_take (i := 5) (oi := { dst := some 8, op := Go.Op.fieldAddr 26 (Go.Operand.tmp 1) 2, type := 0, pos := _, after := #[], guard := none }) (v := ?_) rfl (by kernel_rfl) (by kernel_rfl) (by kernel_rfl) (fun _ _ _ h => h) (Or.inl ⟨by rfl, ?_⟩) (by assumption) ?_
  rotate_left
  · intro w hSw; (try dsimp only at hSw); go_simp <;> first | with_reducible rfl | (rw [if_neg (by first | omega | (simp only [ByteArray.size_append] at *; omega))])
  simp only [Act.put, List.setIfInBounds_toArray, List.set_cons_zero, List.set_cons_succ]
  refine wpAnyH_take (i := 6) (oi := { dst := some 9, op := Go.Op.load 23 (Go.Operand.tmp 8), type := 23, pos := _, after := #[{ on := 5, ground := Go.Ground.data }], guard := none }) (v := ?_) rfl (by kernel_rfl) (by kernel_rfl) (by kernel_rfl) (fun _ _ _ h => h) (Or.inl ⟨by rfl, ?_⟩) (by assumption) ?_
  rotate_left
  · intro w hSw; (try dsimp only at hSw); go_simp <;> first | with_reducible rfl | (rw [if_neg (by first | omega | (simp only [ByteArray.size_append] at *; omega))])
  simp only [Act.put, List.setIfInBounds_toArray, List.set_cons_zero, List.set_cons_succ]
  refine wpAnyH_take (i := 8) (oi := { dst := some 11, op := Go.Op.fieldAddr 26 (Go.Operand.tmp 1) 3, type := 0, pos := _, after := #[], guard := none }) (v := ?_) rfl (by kernel_rfl) (by kernel_rfl) (by kernel_rfl) (fun _ _ _ h => h) (Or.inl ⟨by rfl, ?_⟩) (by assumption) ?_
  rotate_left
  · intro w hSw; (try dsimp only at hSw); go_simp <;> first | with_reducible rfl | (rw [if_neg (by first | omega | (simp only [ByteArray.size_append] at *; omega))])
  simp only [Act.put, List.setIfInBounds_toArray, List.set_cons_zero, List.set_cons_succ]
  refine wpAnyH_take (i := 9) (oi := { dst := some 12, op := Go.Op.load 24 (Go.Operand.tmp 11), type := 24, pos := _, after := #[{ on := 8, ground := Go.Ground.data }], guard := none }) (v := ?_) rfl (by kernel_rfl) (by kernel_rfl) (by kernel_rfl) (fun _ _ _ h => h) (Or.inl ⟨by rfl, ?_⟩) (by assumption) ?_
  rotate_left
  · intro w hSw; (try dsimp only at hSw); go_simp <;> first | with_reducible rfl | (rw [if_neg (by first | omega | (simp only [ByteArray.size_append] at *; omega))])
  simp only [Act.put, List.setIfInBounds_toArray, List.set_cons_zero, List.set_cons_succ]
  refine wpAnyH_ready (rs := [4]) (by kernel_rfl) (by simp) ?_
  refine AllReadyH.cons (o := { dst := some 7, op := Go.Op.call { callee := Go.Callee.value (Go.Operand.func 27), args := #[Go.Operand.tmp 6], argTypes := #[22] }, type := 22, pos := _, after := #[{ on := 3, ground := Go.Ground.data }], guard := none }) rfl (fun K hK => ?_) AllReadyH.nil
  go_simp
  refine (twin_ins _ _ _ (P0.out.keep H2.out.drew).ins).mono ?_
  rintro e w3 ⟨s3, rfl, ht3, hb3⟩
  obtain ⟨g3, k3, rfl, _⟩ := id ht3
  have HB3 := hid (bstep H2.out.drew hb3)
  have HT3 := hid ht3
  have G3 := hid hb3
  obtain ⟨p1, p2, p3⟩ := two_boxes w w3 _ _ 26 hb3
  clear ht3 hb3
  go_wp2_with fail
  refine hK.out _ _ ?_ (fun hHeld1 => ?_)
  · exact ⟨p1 0 _ rfl, p1 1 _ rfl, p1 2 _ rfl, p1 3 _ rfl⟩
  clear hK K
  refine wpAnyH_ready (rs := [7]) (by kernel_rfl) (by simp) ?_
  refine AllReadyH.cons (o := { dst := some 10, op := Go.Op.call { callee := Go.Callee.value (Go.Operand.func 28), args := #[Go.Operand.tmp 9], argTypes := #[23] }, type := 23, pos := _, after := #[{ on := 6, ground := Go.Ground.data }, { on := 4, ground := Go.Ground.chain }], guard := none }) rfl (fun K hK => ?_) AllReadyH.nil
  go_simp
  refine (twin_flows _ _ _ (P0.out.keep HB3.out).flows).mono ?_
  rintro e w4 ⟨s4, rfl, ht4, hb4⟩
  obtain ⟨g4, k4, _, rfl, _⟩ := id ht4
  have HB4 := hid (bstep HB3.out hb4)
  have HT4 := hid ht4
  have G4 := hid (bstep G3.out hb4)
  have F4 := hid hb4
  obtain ⟨q1, q2, q3⟩ := two_boxes w w4 _ _ 26 G4.out
  clear ht4 hb4
  go_wp2_with fail
  refine hK.out _ _ ?_ (fun hHeld2 => ?_)
  · exact ⟨q1 0 _ rfl, q1 1 _ rfl, q1 2 _ rfl, q1 3 _ rfl⟩
  clear hK K
  refine wpAnyH_ready (rs := [10]) (by kernel_rfl) (by simp) ?_
  refine AllReadyH.cons (o := { dst := some 13, op := Go.Op.call { callee := Go.Callee.value (Go.Operand.func 29), args := #[Go.Operand.tmp 12], argTypes := #[24] }, type := 24, pos := _, after := #[{ on := 9, ground := Go.Ground.data }, { on := 7, ground := Go.Ground.chain }], guard := none }) rfl (fun K hK => ?_) AllReadyH.nil
  go_simp
  refine (twin_texts _ _ _ (P0.out.keep HB4.out).outs).mono ?_
  rintro e w5 ⟨s5, rfl, ht5, hb5⟩
  obtain ⟨g5, k5, rfl, _⟩ := id ht5
  have HB5 := hid (bstep HB4.out hb5)
  have HT5 := hid ht5
  have G5 := hid (bstep G4.out hb5)
  have F5 := hid hb5
  obtain ⟨r1, r2, r3⟩ := two_boxes w w5 _ _ 26 G5.out
  clear ht5 hb5
  go_wp2_with fail
  refine hK.out _ _ ?_ (fun hHeld3 => ?_)
  · exact ⟨r1 0 _ rfl, r1 1 _ rfl, r1 2 _ rfl, r1 3 _ rfl⟩
  clear hK K
  refine wpAnyH_take (i := 11) (oi := { dst := some 14, op := Go.Op.build 26 #[(0, Go.Operand.tmp 4), (1, Go.Operand.tmp 7), (2, Go.Operand.tmp 10), (3, Go.Operand.tmp 13)], type := 26, pos := _, after := #[{ on := 1, ground := Go.Ground.data }, { on := 4, ground := Go.Ground.data }, { on := 7, ground := Go.Ground.data }, { on := 10, ground := Go.Ground.data }], guard := none }) (v := ?_) rfl (by kernel_rfl) (by kernel_rfl) (by kernel_rfl) (fun _ _ _ h => h) (Or.inl ⟨by rfl, ?_⟩) (by assumption) ?_
  rotate_left
  · intro w hSw; (try dsimp only at hSw); go_simp <;> first | with_reducible rfl | (rw [if_neg (by first | omega | (simp only [ByteArray.size_append] at *; omega))])
  simp only [Act.put, List.setIfInBounds_toArray, List.set_cons_zero, List.set_cons_succ]
  refine wpAnyH_ready (rs := [12]) (by kernel_rfl) (by simp) ?_
  refine AllReadyH.cons (o := { dst := none, op := Go.Op.store 26 (Go.Operand.tmp 2) (Go.Operand.tmp 14), type := 0, pos := _, after := #[{ on := 11, ground := Go.Ground.data }, { on := 10, ground := Go.Ground.chain }, { on := 0, ground := Go.Ground.phase }, { on := 1, ground := Go.Ground.phase }, { on := 2, ground := Go.Ground.phase }, { on := 3, ground := Go.Ground.phase }, { on := 4, ground := Go.Ground.phase }, { on := 5, ground := Go.Ground.phase }, { on := 6, ground := Go.Ground.phase }, { on := 7, ground := Go.Ground.phase }, { on := 8, ground := Go.Ground.phase }, { on := 9, ground := Go.Ground.phase }, { on := 10, ground := Go.Ground.phase }, { on := 11, ground := Go.Ground.phase }], guard := none }) rfl (fun K hK => ?_) AllReadyH.nil
  refine if_take (by rfl) ?_
  refine wp_store_row 26 _ _ rfl (w.heap.size + 1) (pgC p (.slice (some ⟨g3, 0, none⟩) p.ins.length k3) (.slice (some ⟨g4, 0, none⟩) p.flows.length k4) (.slice (some ⟨g5, 0, none⟩) p.outs.length k5)) rfl rfl 26 _ r3 info26 rfl (by simp [Value.oneCell']) ?_
  refine hK.out _ _ ?_ (fun _ => ?_)
  · have hne : w.heap.size ≠ w.heap.size + 1 := by omega
    have kk : ∀ j v, w5.cell? ⟨w.heap.size, j, none⟩ = some v → (w5.setRow (w.heap.size + 1) (pgC p (.slice (some ⟨g3, 0, none⟩) p.ins.length k3) (.slice (some ⟨g4, 0, none⟩) p.flows.length k4) (.slice (some ⟨g5, 0, none⟩) p.outs.length k5))).cell? ⟨w.heap.size, j, none⟩ = some v := fun j v h => by
      rw [World.cell?_of_block (w := w5) (a := ⟨w.heap.size, j, none⟩) (setRow_other w5 _ _ _ hne)]
      exact h
    exact ⟨kk _ _ (r1 0 _ rfl), kk _ _ (r1 1 _ rfl), kk _ _ (r1 2 _ rfl), kk _ _ (r1 3 _ rfl)⟩
  clear hK K
  refine wpAnyH_done (by kernel_rfl) ?_ _
  go_wp2
  refine bodyPost_ret (results_cell_row rfl _ _ (w.heap.size + 1) 26 (pgC p (.slice (some ⟨g3, 0, none⟩) p.ins.length k3) (.slice (some ⟨g4, 0, none⟩) p.flows.length k4) (.slice (some ⟨g5, 0, none⟩) p.outs.length k5)) (0, 0) _ rfl (setRow_heap _ _ _ _ _ _ r3) Tryd.underlying26 rfl info26) rfl ⟨_, _, _, rfl, ?_, ?_, ?_⟩
  · have hlo : w.heap.size + 2 ≤ (((w.alloc (.cells (pgC p (.slice a0 p.ins.length a1) (.slice b0 p.flows.length b1) (.slice c0 p.outs.length c1)) 26)).alloc (.cells #[.int .i64 0, .slice none 0 0, .slice none 0 0, .slice none 0 0] 26)).drew).heap.size := by simp
    have h3 : w.heap.size + 2 ≤ w3.heap.size := Nat.le_trans hlo G3.out.size
    have h4 : w.heap.size + 2 ≤ w4.heap.size := Nat.le_trans h3 F4.out.size
    have T : TwPg w5 (w.heap.size + 2) p (.slice (some ⟨g3, 0, none⟩) p.ins.length k3) (.slice (some ⟨g4, 0, none⟩) p.flows.length k4) (.slice (some ⟨g5, 0, none⟩) p.outs.length k5) := ⟨P0.out.st, HT3.out.carry (fun b _ hb => (bstep F4.out F5.out).block b hb) hlo, HT4.out.carry (fun b _ hb => F5.out.block b hb) h3, HT5.out.carry (fun _ _ _ => rfl) h4⟩
    exact T.carry (fun b hb _ => setRow_other w5 _ _ _ (by omega)) (by omega)
  · exact below_row HB5.out HB5.out.size (by omega) _
  · intro i n c j m d e1 e2
    injection e1 with e1 _ _
    injection e1 with e1
    injection e1 with e1 _ _
    injection e2 with e2 _ _
    injection e2 with e2
    injection e2 with e2 _ _
    subst e1 e2
    obtain ⟨b, _, e, _, _, _, _, _, _, cur, hk, _⟩ := HT3.out
    injection e with e _ _
    injection e with e
    injection e with e _ _
    subst e
    have l3 := (Array.getElem?_eq_some_iff.1 hk).1
    obtain ⟨b, _, _, e, hlo, _⟩ := HT4.out
    injection e with e _ _
    injection e with e
    injection e with e _ _
    subst e
    omega
theorem twin_prog (p : Pg) (w : World) (a b c : Value) (hP : PgAt w p a b c) :
    Calls Tryd.prog 11 #[pgV p a b c] w fun e w' => ∃ a' b' c', e = .returned (pgV p a' b' c') ∧ TwPg w' w.heap.size p a' b' c' ∧ Below w.heap.size w w' :=
  (twin_prog2 p w a b c hP).mono fun _ _ ⟨a', b', c', h1, h2, h3, _⟩ => ⟨a', b', c', h1, h2, h3⟩
end Go.Proofs.YtakjkhfglihggaaDoor.Lex
namespace Go.Proofs.YtakjkhfglihggaaDoor.Lex
open Go.ChangeShapes Go.WideShapes Go.ChangeAt Go.RowKit Go.Joins
set_option maxRecDepth 100000 in
set_option maxHeartbeats 2000000 in
theorem left_ins (l : List Hd) (w : World) (lo : Nat) (st s : Value) (hT : TwIns w lo l st) (hS : InsAt w l s) :
    Calls Tryd.prog 37 #[st, s] w fun e w' => e = .returned (.bool true) ∧ Below w.heap.size w w' := by
  obtain ⟨ao, cap, rfl, hlen, _, _, hc⟩ := hS
  obtain ⟨b, cp, rfl, _, _, hcp, _, htc, hsp, _⟩ := hT
  have HC := hid hc
  have HT := hid htc
  have HP := hid hsp
  have hne : ((l.length : Int) != (l.length : Int)) = false := by simp
  have hcp' : ¬ (cp : Int) ≤ (l.length : Int) := by omega
  clear hc htc hsp
  go_enter Tryd.func37, Tryd.ntmps37
  go_wp2
  go_loopw [5] (fun i wr => ∃ k : Nat, k ≤ l.length ∧ i = .int .i64 (k : Int) ∧ Hid (Below w.heap.size w wr)) (fun i _ => l.length - (intOf i).toNat)
  case atStart => exact ⟨0, Nat.zero_le _, rfl, Below.refl _ _⟩
  case round =>
    obtain ⟨k, hk, rfl, hB⟩ := hrel
    by_cases hlt : k < l.length
    · have hlt' : (k : Int) < (l.length : Int) := by omega
      have hk0 : (0 : Int) ≤ (k : Int) := by omega
      obtain ⟨bb, o, rfl, hcc⟩ := HC.out.resolve_left (by omega)
      obtain ⟨v0, v1, v2⟩ := (hcc k hlt).keep hB.out
      obtain ⟨u0, u1, u2⟩ := (HT.out k hlt).keep hB.out
      clear hcc
      generalize l[k] = y at *
      generalize y.name = N at *
      generalize y.ty = Y at *
      generalize y.st = Z at *
      go_wp2
      go_quiet (fail)
      go_wp2
      go_roundw
      case rel => exact ⟨k + 1, by omega, by go_num, below_drewN hB.out _⟩
      case measure => simp [intOf]; omega
    · have hlt' : ¬ (k : Int) < (l.length : Int) := by omega
      obtain ⟨q0, q1, q2⟩ := HP.out.keep hB.out
      unfold spare at q0
      have hle1 : (l.length : Int) + 1 ≤ (cp : Int) := by omega
      have hle2 : (l.length : Int) < (l.length : Int) + 1 := by omega
      have hle3 : (0 : Int) ≤ (l.length : Int) := by omega
      go_wp2
      go_ret
      exact ⟨rfl, bstep hB.out ((Below.refl _ _).alloc (Nat.le_refl _) _)⟩
set_option maxRecDepth 100000 in
set_option maxHeartbeats 2000000 in
theorem left_texts (l : List ByteArray) (w : World) (lo : Nat) (st s : Value) (hT : TwTexts w lo l st) (hS : TextsAt w l s) :
    Calls Tryd.prog 39 #[st, s] w fun e w' => e = .returned (.bool true) ∧ Below w.heap.size w w' := by
  obtain ⟨ao, cap, rfl, hlen, _, _, hc⟩ := hS
  obtain ⟨b, cp, rfl, _, _, hcp, _, htc, hsp, _⟩ := hT
  have HC := hid hc
  have HT := hid htc
  have HP := hid hsp
  have hne : ((l.length : Int) != (l.length : Int)) = false := by simp
  have hcp' : ¬ (cp : Int) ≤ (l.length : Int) := by omega
  clear hc htc hsp
  go_enter Tryd.func39, Tryd.ntmps39
  go_wp2
  go_loopw [5] (fun i wr => ∃ k : Nat, k ≤ l.length ∧ i = .int .i64 (k : Int) ∧ Hid (Below w.heap.size w wr)) (fun i _ => l.length - (intOf i).toNat)
  case atStart => exact ⟨0, Nat.zero_le _, rfl, Below.refl _ _⟩
  case round =>
    obtain ⟨k, hk, rfl, hB⟩ := hrel
    by_cases hlt : k < l.length
    · have hlt' : (k : Int) < (l.length : Int) := by omega
      have hk0 : (0 : Int) ≤ (k : Int) := by omega
      obtain ⟨bb, o, rfl, hcc⟩ := HC.out.resolve_left (by omega)
      have v0 := cell_kept (hcc k hlt) hB.out
      have u0 := cell_kept (HT.out k hlt) hB.out
      clear hcc
      generalize l[k] = N at *
      go_wp2
      go_quiet (fail)
      go_wp2
      go_roundw
      case rel => exact ⟨k + 1, by omega, by go_num, below_drewN hB.out _⟩
      case measure => simp [intOf]; omega
    · have hlt' : ¬ (k : Int) < (l.length : Int) := by omega
      have q0 := cell_kept HP.out hB.out
      unfold spare at q0
      have hle1 : (l.length : Int) + 1 ≤ (cp : Int) := by omega
      have hle2 : (l.length : Int) < (l.length : Int) + 1 := by omega
      have hle3 : (0 : Int) ≤ (l.length : Int) := by omega
      go_wp2
      go_ret
      exact ⟨rfl, hB.out⟩
set_option maxRecDepth 100000 in
set_option maxHeartbeats 1000000 in
theorem left_flow (x : Fl) (w : World) (lo : Nat) (st s : Value) (hT : Tw w lo x.body st) (hS : St w x.body s) :
    Calls Tryd.prog 65 #[flV x st, flV x s] w fun e w' => e = .returned (.bool true) ∧ Below w.heap.size w w' := by
  have hs := fun W hT hS => left_any _ x.body (Nat.le_refl _) W lo st s hT hS
  obtain ⟨ao, cap, sl, rfl, _⟩ := hS.out
  obtain ⟨b, cp, tl, rfl, _⟩ := hT.out
  have e0 : (x.name.toList == x.name.toList) = true := by simp
  have e1 : ((x.ty : Int) == (x.ty : Int)) = true := by simp
  have e2 : (x.st == x.st) = true := by simp
  have e3 : (x.df == x.df) = true := by simp
  have b1 := (Below.refl w.heap.size w).alloc (Nat.le_refl _) (.cells #[.string x.name, .int .u8 (x.ty : Int), .int .i64 x.st, .int .i64 x.df, .int .u8 (x.body.op : Int), .int .i64 x.body.n, .string x.body.name, .slice (some ⟨b, 0, none⟩) x.body.args.length cp] 52)
  have b2 := bstep b1 ((Below.refl _ _).alloc (Nat.le_refl _) (.cells #[.string x.name, .int .u8 (x.ty : Int), .int .i64 x.st, .int .i64 x.df, .int .u8 (x.body.op : Int), .int .i64 x.body.n, .string x.body.name, .slice ao x.body.args.length cap] 52))
  have HT := hid (hT.keep b2)
  have HS := hid (hS.keep b2)
  have HB := hid b2
  clear hT hS b1 b2
  go_enter Tryd.func65, Tryd.ntmps65
  go_wp2_with (go_at_call 16; refine (hs _ HT.out HS.out).mono ?_; rintro e w2 ⟨rfl, hb2⟩)
  go_ret
  exact ⟨rfl, bstep HB.out hb2⟩
set_option maxRecDepth 100000 in
set_option maxHeartbeats 2000000 in
theorem left_flows (l : List Fl) (w : World) (lo : Nat) (st s : Value) (hT : TwFlows w lo l st) (hS : FlowsAt w l s) :
    Calls Tryd.prog 38 #[st, s] w fun e w' => e = .returned (.bool true) ∧ Below w.heap.size w w' := by
  obtain ⟨ao, cap, sl, rfl, hlen, _, _, hc, hs⟩ := hS
  obtain ⟨b, cp, tl, rfl, _, _, hcp, _, htc, hsp, hts, _⟩ := hT
  have HC := hid hc
  have HT := hid htc
  have HP := hid hsp
  have HS := hid hs
  have HTS := hid hts
  have hne : ((l.length : Int) != (l.length : Int)) = false := by simp
  have hcp' : ¬ (cp : Int) ≤ (l.length : Int) := by omega
  clear hc htc hsp hs hts
  go_enter Tryd.func38, Tryd.ntmps38
  go_wp2
  go_loopw [5] (fun i wr => ∃ k : Nat, k ≤ l.length ∧ i = .int .i64 (k : Int) ∧ Hid (Below w.heap.size w wr)) (fun i _ => l.length - (intOf i).toNat)
  case atStart => exact ⟨0, Nat.zero_le _, rfl, Below.refl _ _⟩
  case round =>
    obtain ⟨k, hk, rfl, hB⟩ := hrel
    by_cases hlt : k < l.length
    · have hlt' : (k : Int) < (l.length : Int) := by omega
      have hk0 : (0 : Int) ≤ (k : Int) := by omega
      obtain ⟨bb, o, rfl, hcc⟩ := HC.out.resolve_left (by omega)
      have X := (hcc k hlt).keep hB.out
      have Y := (HT.out k hlt).keep hB.out
      have hst := HS.out k hlt
      have htw := HTS.out k hlt
      clear hcc
      generalize l[k] = y at *
      generalize sl k = sv at *
      generalize tl k = tv at *
      obtain ⟨a3, c3, _, rfl, _⟩ := hst.out
      obtain ⟨b2, c2, _, rfl, _⟩ := htw.out
      obtain ⟨v0, v1, v2, v3, v4, v5, v6, v7⟩ := X
      obtain ⟨u0, u1, u2, u3, u4, u5, u6, u7⟩ := Y
      have c := fun W (hb : Below w.heap.size w W) => left_flow y W _ _ _ (htw.keep hb) (hst.keep hb)
      clear hst htw
      go_wp2
      refine wp_region_held_drew (S := fun W => (W.cell? ⟨b, k * 8, none⟩ = some (.string y.name) ∧ W.cell? ⟨b, k * 8 + 1, none⟩ = some (.int .u8 (y.ty : Int)) ∧ W.cell? ⟨b, k * 8 + 2, none⟩ = some (.int .i64 y.st) ∧ W.cell? ⟨b, k * 8 + 3, none⟩ = some (.int .i64 y.df) ∧ W.cell? ⟨b, k * 8 + 4, none⟩ = some (.int .u8 (y.body.op : Int)) ∧ W.cell? ⟨b, k * 8 + 5, none⟩ = some (.int .i64 y.body.n) ∧ W.cell? ⟨b, k * 8 + 6, none⟩ = some (.string y.body.name) ∧ W.cell? ⟨b, k * 8 + 7, none⟩ = some (.slice (some ⟨b2, 0, none⟩) y.body.args.length c2)) ∧ W.cell? ⟨bb, o + k * 8, none⟩ = some (.string y.name) ∧ W.cell? ⟨bb, o + k * 8 + 1, none⟩ = some (.int .u8 (y.ty : Int)) ∧ W.cell? ⟨bb, o + k * 8 + 2, none⟩ = some (.int .i64 y.st) ∧ W.cell? ⟨bb, o + k * 8 + 3, none⟩ = some (.int .i64 y.df) ∧ W.cell? ⟨bb, o + k * 8 + 4, none⟩ = some (.int .u8 (y.body.op : Int)) ∧ W.cell? ⟨bb, o + k * 8 + 5, none⟩ = some (.int .i64 y.body.n) ∧ W.cell? ⟨bb, o + k * 8 + 6, none⟩ = some (.string y.body.name) ∧ W.cell? ⟨bb, o + k * 8 + 7, none⟩ = some (.slice a3 y.body.args.length c3)) (by kernel_rfl) ?_ (fun hHeld => ?_)
      · exact ⟨⟨u0, u1, u2, u3, u4, u5, u6, u7⟩, v0, v1, v2, v3, v4, v5, v6, v7⟩
      refine wpAnyH_take (i := 0) (oi := { dst := some 25, op := Go.Op.move (Go.Operand.tmp 0), type := 23, pos := _, after := #[], guard := none }) (v := ?_) rfl (by kernel_rfl) (by kernel_rfl) (by kernel_rfl) (fun _ _ _ h => h) (Or.inl ⟨by rfl, ?_⟩) (by assumption) ?_
      rotate_left
      · intro w hSw; (try dsimp only at hSw); go_simp <;> first | with_reducible rfl | (rw [if_neg (by first | omega | (simp only [ByteArray.size_append] at *; omega))])
      simp only [Act.put, List.setIfInBounds_toArray, List.set_cons_zero, List.set_cons_succ]
      refine wpAnyH_take (i := 1) (oi := { dst := some 26, op := Go.Op.move (Go.Operand.tmp 5), type := 3, pos := _, after := #[], guard := none }) (v := ?_) rfl (by kernel_rfl) (by kernel_rfl) (by kernel_rfl) (fun _ _ _ h => h) (Or.inl ⟨by rfl, ?_⟩) (by assumption) ?_
      rotate_left
      · intro w hSw; (try dsimp only at hSw); go_simp <;> first | with_reducible rfl | (rw [if_neg (by first | omega | (simp only [ByteArray.size_append] at *; omega))])
      simp only [Act.put, List.setIfInBounds_toArray, List.set_cons_zero, List.set_cons_succ]
      refine wpAnyH_take (i := 2) (oi := { dst := some 27, op := Go.Op.indexAddr 23 (Go.Operand.tmp 25) (Go.Operand.tmp 26), type := 0, pos := _, after := #[{ on := 0, ground := Go.Ground.data }, { on := 1, ground := Go.Ground.data }], guard := none }) (v := ?_) rfl (by kernel_rfl) (by kernel_rfl) (by kernel_rfl) (fun _ _ _ h => h) (Or.inl ⟨by rfl, ?_⟩) (by assumption) ?_
      rotate_left
      · intro w hSw; (try dsimp only at hSw); go_simp <;> first | with_reducible rfl | (rw [if_neg (by first | omega | (simp only [ByteArray.size_append] at *; omega))])
      simp only [Act.put, List.setIfInBounds_toArray, List.set_cons_zero, List.set_cons_succ]
      refine wpAnyH_take (i := 3) (oi := { dst := some 28, op := Go.Op.load 52 (Go.Operand.tmp 27), type := 52, pos := _, after := #[{ on := 2, ground := Go.Ground.data }], guard := none }) (v := ?_) rfl (by kernel_rfl) (by kernel_rfl) (by kernel_rfl) (fun _ _ _ h => h) (Or.inl ⟨by rfl, ?_⟩) (by assumption) ?_
      rotate_left
      · intro w hSw; (try dsimp only at hSw); go_simp <;> first | with_reducible rfl | (rw [if_neg (by first | omega | (simp only [ByteArray.size_append] at *; omega))])
      simp only [Act.put, List.setIfInBounds_toArray, List.set_cons_zero, List.set_cons_succ]
      refine wpAnyH_take (i := 4) (oi := { dst := some 29, op := Go.Op.move (Go.Operand.tmp 1), type := 23, pos := _, after := #[], guard := none }) (v := ?_) rfl (by kernel_rfl) (by kernel_rfl) (by kernel_rfl) (fun _ _ _ h => h) (Or.inl ⟨by rfl, ?_⟩) (by assumption) ?_
      rotate_left
      · intro w hSw; (try dsimp only at hSw); go_simp <;> first | with_reducible rfl | (rw [if_neg (by first | omega | (simp only [ByteArray.size_append] at *; omega))])
      simp only [Act.put, List.setIfInBounds_toArray, List.set_cons_zero, List.set_cons_succ]
      refine wpAnyH_take (i := 5) (oi := { dst := some 30, op := Go.Op.move (Go.Operand.tmp 5), type := 3, pos := _, after := #[], guard := none }) (v := ?_) rfl (by kernel_rfl) (by kernel_rfl) (by kernel_rfl) (fun _ _ _ h => h) (Or.inl ⟨by rfl, ?_⟩) (by assumption) ?_
      rotate_left
      · intro w hSw; (try dsimp only at hSw); go_simp <;> first | with_reducible rfl | (rw [if_neg (by first | omega | (simp only [ByteArray.size_append] at *; omega))])
      simp only [Act.put, List.setIfInBounds_toArray, List.set_cons_zero, List.set_cons_succ]
      refine wpAnyH_take (i := 6) (oi := { dst := some 31, op := Go.Op.indexAddr 23 (Go.Operand.tmp 29) (Go.Operand.tmp 30), type := 0, pos := _, after := #[{ on := 4, ground := Go.Ground.data }, { on := 5, ground := Go.Ground.data }], guard := none }) (v := ?_) rfl (by kernel_rfl) (by kernel_rfl) (by kernel_rfl) (fun _ _ _ h => h) (Or.inl ⟨by rfl, ?_⟩) (by assumption) ?_
      rotate_left
      · intro w hSw; (try dsimp only at hSw); go_simp <;> first | with_reducible rfl | (rw [if_neg (by first | omega | (simp only [ByteArray.size_append] at *; omega))])
      simp only [Act.put, List.setIfInBounds_toArray, List.set_cons_zero, List.set_cons_succ]
      refine wpAnyH_take (i := 7) (oi := { dst := some 32, op := Go.Op.load 52 (Go.Operand.tmp 31), type := 52, pos := _, after := #[{ on := 6, ground := Go.Ground.data }], guard := none }) (v := ?_) rfl (by kernel_rfl) (by kernel_rfl) (by kernel_rfl) (fun _ _ _ h => h) (Or.inl ⟨by rfl, ?_⟩) (by assumption) ?_
      rotate_left
      · intro w hSw; (try dsimp only at hSw); go_simp <;> first | with_reducible rfl | (rw [if_neg (by first | omega | (simp only [ByteArray.size_append] at *; omega))])
      simp only [Act.put, List.setIfInBounds_toArray, List.set_cons_zero, List.set_cons_succ]
      refine wpAnyH_ready (rs := [8]) (by kernel_rfl) (by simp) ?_
      refine AllReadyH.cons (o := { dst := some 33, op := Go.Op.call { callee := Go.Callee.value (Go.Operand.func 65), args := #[Go.Operand.tmp 28, Go.Operand.tmp 32], argTypes := #[52, 52] }, type := 4, pos := _, after := #[{ on := 3, ground := Go.Ground.data }, { on := 7, ground := Go.Ground.data }], guard := none }) rfl (fun K hK => ?_) AllReadyH.nil
      go_simp
      refine (c _ (hB.out.drew)).mono ?_
      rintro e w4 ⟨rfl, hb4⟩
      go_wp2_with fail
      refine hK.out _ _ ?_ (fun hHeld1 => ?_)
      · exact ⟨⟨cell_kept (w := wr.drew) u0 hb4, cell_kept (w := wr.drew) u1 hb4, cell_kept (w := wr.drew) u2 hb4, cell_kept (w := wr.drew) u3 hb4, cell_kept (w := wr.drew) u4 hb4, cell_kept (w := wr.drew) u5 hb4, cell_kept (w := wr.drew) u6 hb4, cell_kept (w := wr.drew) u7 hb4⟩, cell_kept (w := wr.drew) v0 hb4, cell_kept (w := wr.drew) v1 hb4, cell_kept (w := wr.drew) v2 hb4, cell_kept (w := wr.drew) v3 hb4, cell_kept (w := wr.drew) v4 hb4, cell_kept (w := wr.drew) v5 hb4, cell_kept (w := wr.drew) v6 hb4, cell_kept (w := wr.drew) v7 hb4⟩
      clear hK K
      refine wpAnyH_take (i := 9) (oi := { dst := some 34, op := Go.Op.unOp Go.UnOp.not 4 (Go.Operand.tmp 33), type := 4, pos := _, after := #[{ on := 8, ground := Go.Ground.data }], guard := none }) (v := ?_) rfl (by kernel_rfl) (by kernel_rfl) (by kernel_rfl) (fun _ _ _ h => h) (Or.inl ⟨by rfl, ?_⟩) (by assumption) ?_
      rotate_left
      · intro w hSw; (try dsimp only at hSw); go_simp <;> first | with_reducible rfl | (rw [if_neg (by first | omega | (simp only [ByteArray.size_append] at *; omega))])
      simp only [Act.put, List.setIfInBounds_toArray, List.set_cons_zero, List.set_cons_succ]
      refine wpAnyH_done (by kernel_rfl) ?_ _
      go_wp2
      go_roundw
      case rel => exact ⟨k + 1, by omega, by go_num, bstep hB.out.drew hb4⟩
      case measure => simp [intOf]; omega
    · have hlt' : ¬ (k : Int) < (l.length : Int) := by omega
      have Q := HP.out.keep hB.out
      simp only [FlCells, spare] at Q
      obtain ⟨q0, q1, q2, q3, q4, q5, q6, q7⟩ := Q
      have hle1 : (l.length : Int) + 1 ≤ (cp : Int) := by omega
      have hle2 : (l.length : Int) < (l.length : Int) + 1 := by omega
      have hle3 : (0 : Int) ≤ (l.length : Int) := by omega
      go_wp2
      go_ret
      exact ⟨rfl, bstep hB.out ((Below.refl _ _).alloc (Nat.le_refl _) _)⟩
set_option maxRecDepth 100000 in
set_option maxHeartbeats 1000000 in
theorem left_prog (p : Pg) (w : World) (lo : Nat) (a b c a' b' c' : Value) (hT : TwPg w lo p a b c) (hP : PgAt w p a' b' c') :
    Calls Tryd.prog 15 #[pgV p a b c, pgV p a' b' c'] w fun e w' => e = .returned (.bool true) ∧ Below w.heap.size w w' := by
  obtain ⟨a0, a1, rfl, _⟩ := hT.at.ins
  obtain ⟨b0, b1, _, rfl, _⟩ := hT.at.flows
  obtain ⟨c0, c1, rfl, _⟩ := hT.at.outs
  obtain ⟨a2, a3, rfl, _⟩ := hP.ins
  obtain ⟨b2, b3, _, rfl, _⟩ := hP.flows
  obtain ⟨c2, c3, rfl, _⟩ := hP.outs
  have e0 : (p.st == p.st) = true := by simp
  have bb := bstep ((Below.refl w.heap.size w).alloc (Nat.le_refl _) (.cells (pgC p (.slice a0 p.ins.length a1) (.slice b0 p.flows.length b1) (.slice c0 p.outs.length c1)) 26)) ((Below.refl _ _).alloc (Nat.le_refl _) (.cells (pgC p (.slice a2 p.ins.length a3) (.slice b2 p.flows.length b3) (.slice c2 p.outs.length c3)) 26))
  have HT := hid (hT.keep bb)
  have HP := hid (hP.keep bb)
  have HB := hid bb
  have x0 : ∀ j v, (pgC p (.slice a0 p.ins.length a1) (.slice b0 p.flows.length b1) (.slice c0 p.outs.length c1))[j]? = some v → ((w.alloc (.cells (pgC p (.slice a0 p.ins.length a1) (.slice b0 p.flows.length b1) (.slice c0 p.outs.length c1)) 26)).alloc (.cells (pgC p (.slice a2 p.ins.length a3) (.slice b2 p.flows.length b3) (.slice c2 p.outs.length c3)) 26)).cell? ⟨w.heap.size, j, none⟩ = some v := box_first w (pgC p (.slice a0 p.ins.length a1) (.slice b0 p.flows.length b1) (.slice c0 p.outs.length c1)) (pgC p (.slice a2 p.ins.length a3) (.slice b2 p.flows.length b3) (.slice c2 p.outs.length c3)) 26
  have x2 := x0 2 (.slice b0 p.flows.length b1) rfl
  have x3 := x0 3 (.slice c0 p.outs.length c1) rfl
  have y0 := box_at (w.alloc (.cells (pgC p (.slice a0 p.ins.length a1) (.slice b0 p.flows.length b1) (.slice c0 p.outs.length c1)) 26)) (pgC p (.slice a2 p.ins.length a3) (.slice b2 p.flows.length b3) (.slice c2 p.outs.length c3)) 26
  rw [World.size_alloc] at y0
  have y2 := y0 2 (.slice b2 p.flows.length b3) rfl
  have y3 := y0 3 (.slice c2 p.outs.length c3) rfl
  clear hT hP bb x0 y0
  go_enter Tryd.func15, Tryd.ntmps15
  go_wp2_with (first
    | (go_at_call 37; refine (left_ins _ _ _ _ _ HT.out.ins HP.out.ins).mono ?_; rintro e w1 ⟨rfl, hb1⟩; have x12 := cell_kept x2 hb1; have x13 := cell_kept x3 hb1; have y12 := cell_kept y2 hb1; have y13 := cell_kept y3 hb1; have HT1 := hid (HT.out.keep hb1); have HP1 := hid (HP.out.keep hb1); have HB1 := hid (bstep HB.out hb1); clear x2 x3 y2 y3 HT HP hb1)
    | (go_at_call 38; refine (left_flows _ _ _ _ _ HT1.out.flows HP1.out.flows).mono ?_; rintro e w2 ⟨rfl, hb2⟩; have x23 := cell_kept x13 hb2; have y23 := cell_kept y13 hb2; have HT2 := hid (HT1.out.keep hb2); have HP2 := hid (HP1.out.keep hb2); have HB2 := hid (bstep HB1.out hb2); clear x12 x13 y12 y13 HT1 HP1 hb2)
    | (go_at_call 39; refine (left_texts _ _ _ _ _ HT2.out.outs HP2.out.outs).mono ?_; rintro e w3 ⟨rfl, hb3⟩; have HB3 := hid (bstep HB2.out hb3); clear x23 y23 HT2 HP2 hb3))
  go_ret
  exact ⟨rfl, HB3.out⟩
end Go.Proofs.YtakjkhfglihggaaDoor.Lex
namespace Go.Proofs.YtakjkhfglihggaaDoor.Lex
open Go.ChangeShapes Go.WideShapes Go.ChangeAt Go.RowKit Go.Joins
theorem things_in (p : Pg) (k : Nat) (h : k < p.ins.length) : (insL p).take k ++ [(-1, p.ins[k])] <+: thingsL p := by
  rw [← insL_succ p k h]
  exact (List.take_prefix _ _).trans (List.prefix_append _ _)
theorem things_flow (p : Pg) (k : Nat) (h : k < p.flows.length) : (insL p ++ (flowsL p).take k) ++ [((k : Int), p.flows[k].hd)] <+: thingsL p := by
  rw [List.append_assoc, ← flowsL_succ p k h]
  exact (List.prefix_append_right_inj _).2 (List.take_prefix _ _)
theorem results_tmp4 {fn : Func} {t u v x : Tmp} (h : fn.results = #[.tmp t, .tmp u, .tmp v, .tmp x]) (tmps : Array Value) (P : Program) (w : World) :
    (results fn tmps).run P w = .ok (.tuple #[tmps.getD t undef, tmps.getD u undef, tmps.getD v undef, tmps.getD x undef]) w := by
  simp [results, h, go_sem]
set_option maxRecDepth 100000 in
set_option maxHeartbeats 4000000 in
theorem rfind (p : Pg) (name : ByteArray) (w : World) (a b c : Value) (hP : PgAt w p a b c) :
    Calls Tryd.prog 35 #[pgV p a b c, .string name] w fun e W' => e = .returned (.tuple (foV (findT (thingsL p) name))) ∧ Below w.heap.size w W' := by
  obtain ⟨a0, a1, rfl, hlen, _, _, hc⟩ := hP.ins
  obtain ⟨b0, b1, _, rfl, hlen2, _, _, hc2, _⟩ := hP.flows
  obtain ⟨c0, c1, rfl, _⟩ := hP.outs
  have HC := hid hc
  have HC2 := hid hc2
  clear hc hc2 hP
  have B0 := hid ((Below.refl w.heap.size w).alloc (Nat.le_refl _) (.cells (pgC p (.slice a0 p.ins.length a1) (.slice b0 p.flows.length b1) (.slice c0 p.outs.length c1)) 26))
  have bx := fun j v => box_at w (pgC p (.slice a0 p.ins.length a1) (.slice b0 p.flows.length b1) (.slice c0 p.outs.length c1)) 26 j v
  have X1 := hid (bx 1 (.slice a0 p.ins.length a1) rfl)
  have X2 := hid (bx 2 (.slice b0 p.flows.length b1) rfl)
  clear bx
  go_enter Tryd.func35, Tryd.ntmps35
  go_wp2
  generalize w.alloc (.cells (pgC p (.slice a0 p.ins.length a1) (.slice b0 p.flows.length b1) (.slice c0 p.outs.length c1)) 26) = w1 at *
  go_loopw [8] (fun i wr => ∃ k : Nat, k ≤ p.ins.length ∧ i = .int .i64 (k : Int) ∧ Hid (Free ((insL p).take k) name) ∧ Hid (Below w1.heap.size w1 wr)) (fun i _ => p.ins.length - (intOf i).toNat)
  case atStart => exact ⟨0, Nat.zero_le _, rfl, hid (fun x hx => by simp at hx), Below.refl _ _⟩
  case round =>
    obtain ⟨k, hk, rfl, hF, hB⟩ := hrel
    have x1 := cell_kept X1.out hB.out
    by_cases hlt : k < p.ins.length
    · have hlt' : (k : Int) < (p.ins.length : Int) := by omega
      have hk0 : (0 : Int) ≤ (k : Int) := by omega
      obtain ⟨bb, o, rfl, hcc⟩ := HC.out.resolve_left (by omega)
      obtain ⟨v0, v1, v2⟩ := (hcc k hlt).keep (bstep B0.out hB.out)
      have HT := hid (things_in p k hlt)
      have HS := hid (insL_succ p k hlt)
      clear hcc
      generalize p.ins[k] = y at *
      by_cases heq : (y.name.toList == name.toList) = true
      · go_wp2
        go_quiet (fail)
        go_wp2
        refine bodyPost_ret (results_tmp4 rfl _ _ _) rfl ?_
        exact ⟨by rw [findT_some HT.out hF.out heq]; rfl, below_drewN (bstep B0.out hB.out) _⟩
      · have heq' : (y.name.toList == name.toList) = false := by simpa using heq
        go_wp2
        go_roundw
        case rel => exact ⟨k + 1, by omega, by go_num, hid (by rw [HS.out]; exact hF.out.snoc heq'), hB⟩
        case measure => simp [intOf]; omega
    · have hlt' : ¬ (k : Int) < (p.ins.length : Int) := by omega
      have hF' : Hid (Free (insL p) name) := by rw [List.take_of_length_le (by rw [insL_len]; omega)] at hF; exact hF
      go_wp2
      go_loopw [9] (fun i wr => ∃ k : Nat, k ≤ p.flows.length ∧ i = .int .i64 (k : Int) ∧ Hid (Free (insL p ++ (flowsL p).take k) name) ∧ Hid (Below w1.heap.size w1 wr)) (fun i _ => p.flows.length - (intOf i).toNat)
      case atStart => exact ⟨0, Nat.zero_le _, rfl, hid (by simpa using hF'.out), hB⟩
      case round =>
        obtain ⟨j, hj, rfl, hG, hB'⟩ := hrel
        have x2 := cell_kept X2.out hB'.out
        by_cases hjl : j < p.flows.length
        · have hjl' : (j : Int) < (p.flows.length : Int) := by omega
          have hj0 : (0 : Int) ≤ (j : Int) := by omega
          obtain ⟨b2, o2, rfl, hcc⟩ := HC2.out.resolve_left (by omega)
          obtain ⟨v0, v1, v2, v3, v4, v5, v6, v7⟩ := (hcc j hjl).keep (bstep B0.out hB'.out)
          have HT := hid (things_flow p j hjl)
          have HS := hid (flowsL_succ p j hjl)
          clear hcc v7
          generalize p.flows[j] = y at *
          by_cases heq : (y.name.toList == name.toList) = true
          · go_wp2
            go_quiet (fail)
            go_wp2
            refine bodyPost_ret (results_tmp4 rfl _ _ _) rfl ?_
            exact ⟨by rw [findT_some HT.out hG.out heq]; rfl, below_drewN (bstep B0.out hB'.out) _⟩
          · have heq' : (y.name.toList == name.toList) = false := by simpa using heq
            go_wp2
            go_roundw
            case rel => exact ⟨j + 1, by omega, by go_num, hid (by rw [HS.out, ← List.append_assoc]; exact hG.out.snoc heq'), hB'⟩
            case measure => simp [intOf]; omega
        · have hjl' : ¬ (j : Int) < (p.flows.length : Int) := by omega
          go_wp2
          refine bodyPost_ret (results_tmp4 rfl _ _ _) rfl ?_
          exact ⟨by rw [findT_none (by have := hG.out; rw [List.take_of_length_le (by rw [flowsL_len]; omega)] at this; exact this)]; rfl, bstep B0.out hB'.out⟩
end Go.Proofs.YtakjkhfglihggaaDoor.Lex
namespace Go.Proofs.YtakjkhfglihggaaDoor.Lex
open Go.ChangeShapes Go.WideShapes Go.ChangeAt Go.RowKit Go.Shelf
theorem heap_setCells_other {b j : Nat} (hj : j ≠ b) : ∀ (vs : List Value) (o : Nat) (w : World), (w.setCells b o vs).heap[j]? = w.heap[j]?
  | [], _, _ => rfl
  | v :: r, o, w => by
    rw [World.setCells, heap_setCells_other hj r (o + 1)]
    exact Below.heap_setCell _ _ _ _ hj
theorem grown_setCells (b : Nat) : ∀ (vs : List Value) (o : Nat) (w : World), w.grownBy (w.setCells b o vs) (some b)
  | [], _, w => ⟨rfl, rfl, rfl, Nat.le_refl _, fun _ _ _ => rfl⟩
  | v :: r, o, w => by
    have h := grown_setCells b r (o + 1) (w.setCell ⟨b, o, none⟩ v)
    have g : w.grownBy (w.setCell ⟨b, o, none⟩ v) (some b) := ⟨rfl, rfl, rfl, by simp, fun k _ h => Below.heap_setCell _ _ _ _ (fun e => h (by rw [e]))⟩
    exact ⟨h.os.trans g.os, h.tape.trans g.tape, h.output.trans g.output, Nat.le_trans g.size h.size, fun k hk hn => (h.block k (Nat.lt_of_lt_of_le hk g.size) hn).trans (g.block k hk hn)⟩
theorem Blk.set {b t c cap : Nat} : ∀ (vs : List Value) (o : Nat) (w : World), Blk w b t c cap → Blk (w.setCells b o vs) b t c cap
  | [], _, _, h => h
  | v :: r, o, w, h => by
    obtain ⟨cur, h1, h2, h3⟩ := h
    rw [World.setCells]
    exact Blk.set r (o + 1) _ ⟨_, set_same h1 o v, by simpa using h2, h3⟩
theorem Blk.keep {w w' : World} {b t c cap : Nat} (h : Blk w b t c cap) (hb : Below w.heap.size w w') : Blk w' b t c cap := h.carry (lo := 0) (fun b _ hlt => hb.block b hlt) (Nat.zero_le _)
theorem Blk.there {w : World} {b t c cap o n : Nat} (h : Blk w b t c cap) (ho : o + n ≤ cap * c) : w.there b o n := by
  obtain ⟨cur, h1, h2, _⟩ := h
  intro j hj
  refine ⟨?_, ?_⟩
  · rw [cell_of_row w b (o + j) cur t (0, 0) h1]
    have : o + j < cur.size := by omega
    simp [this]
  · unfold World.frozen?
    rw [h1]
    simp
theorem InsAt.apart {w W : World} {l : List Hd} {b0 n c fb : Nat} (h : InsAt w l (.slice (some ⟨b0, 0, none⟩) n c)) (hne : b0 ≠ fb) (hk : ∀ b, b < w.heap.size → b ≠ fb → W.heap[b]? = w.heap[b]?) : InsAt W l (.slice (some ⟨b0, 0, none⟩) n c) := by
  obtain ⟨ao, cap, e, h1, h2, h3, h4⟩ := h
  refine ⟨ao, cap, e, h1, h2, h3, h4.imp_right ?_⟩
  rintro ⟨b, o, ha, hc⟩
  refine ⟨b, o, ha, fun i hi => ?_⟩
  subst ha
  injection e with e1 _ _
  injection e1 with e1
  injection e1 with e1 _ _
  subst e1
  have k : ∀ {o v}, w.cell? ⟨b0, o, none⟩ = some v → W.cell? ⟨b0, o, none⟩ = some v := fun {o v} h => by
    rw [World.cell?_of_block (w := w) (a := ⟨b0, o, none⟩) (hk b0 (World.block_lt_of_cell? w _ h) hne)]
    exact h
  exact ⟨k (hc i hi).1, k (hc i hi).2.1, k (hc i hi).2.2⟩
theorem TextsAt.apart {w W : World} {l : List ByteArray} {b0 n c fb : Nat} (h : TextsAt w l (.slice (some ⟨b0, 0, none⟩) n c)) (hne : b0 ≠ fb) (hk : ∀ b, b < w.heap.size → b ≠ fb → W.heap[b]? = w.heap[b]?) : TextsAt W l (.slice (some ⟨b0, 0, none⟩) n c) := by
  obtain ⟨ao, cap, e, h1, h2, h3, h4⟩ := h
  refine ⟨ao, cap, e, h1, h2, h3, h4.imp_right ?_⟩
  rintro ⟨b, o, ha, hc⟩
  refine ⟨b, o, ha, fun i hi => ?_⟩
  subst ha
  injection e with e1 _ _
  injection e1 with e1
  injection e1 with e1 _ _
  subst e1
  rw [World.cell?_of_block (w := w) (a := ⟨b0, o + i, none⟩) (hk b0 (World.block_lt_of_cell? w _ (hc i hi)) hne)]
  exact hc i hi
theorem Blk.ne {w : World} {b b' t t' c c' cap cap' : Nat} (h : Blk w b t c cap) (h' : Blk w b' t' c' cap') (ht : t ≠ t') : b ≠ b' := by
  rintro rfl
  obtain ⟨cur, h1, _⟩ := h
  obtain ⟨cur', h1', _⟩ := h'
  rw [h1] at h1'
  injection h1' with h1'
  injection h1' with _ e _
  exact ht e
/-- While the flows are turned. -/
structure TQ (w w9 : World) (p : Pg) (A B C a' c' : Value) (fb cap : Nat) (sl : Nat → Value) (k : Nat) (W : World) : Prop where
  below : Below w.heap.size w W
  row : W.heap[w.heap.size]? = some (.cells (pgC p A B C) 26 (0, 0))
  qrow : W.heap[w9.heap.size]? = some (.cells (pgC p a' (.slice (some ⟨fb, 0, none⟩) p.flows.length cap) c') 26 (0, 0))
  same : ∀ b, b < w9.heap.size → b ≠ fb → W.heap[b]? = w9.heap[b]?
  blk : Blk W fb 52 8 cap
  done : ∀ i (h : i < p.flows.length), i < k → FlCells W fb (i * 8) (p.flows[p.flows.length - 1 - i]) (sl (p.flows.length - 1 - i))
theorem TQ.start {w w9 : World} {p : Pg} {A B C a' c' : Value} {fb cap : Nat} {sl : Nat → Value} (h : FV w p A B C w9) (hb : Blk w9 fb 52 8 cap) :
    TQ w w9 p A B C a' c' fb cap sl 0 (w9.alloc (.cells #[.int .i64 p.st, a', .slice (some ⟨fb, 0, none⟩) p.flows.length cap, c'] 26)) where
  below := h.below.alloc h.below.size _
  row := push_old h.row
  qrow := push_new _ _ _ rfl
  same := fun b hb _ => Below.heap_alloc _ _ _ hb
  blk := hb.keep ((Below.refl _ _).alloc (Nat.le_refl _) _)
  done := fun i _ h => by omega
theorem TQ.keep {w w9 : World} {p : Pg} {A B C a' c' : Value} {fb cap : Nat} {sl : Nat → Value} {k : Nat} {W W' : World} (h : TQ w w9 p A B C a' c' fb cap sl k W) (hb : Below W.heap.size W W') : TQ w w9 p A B C a' c' fb cap sl k W' where
  below := h.below.trans (hb.mono h.below.size)
  row := keep_row h.row hb
  qrow := keep_row h.qrow hb
  same := fun b h1 h2 => (hb.block b (Nat.lt_of_lt_of_le (Nat.lt_of_lt_of_le h1 (Nat.le_of_lt (Array.getElem?_eq_some_iff.1 h.qrow).1)) (Nat.le_refl _))).trans (h.same b h1 h2)
  blk := h.blk.keep hb
  done := fun i h1 h2 => (h.done i h1 h2).keep hb
theorem TQ.store {w w9 : World} {p : Pg} {A B C a' c' : Value} {fb cap : Nat} {sl : Nat → Value} {k m : Nat} {W : World} (h : TQ w w9 p A B C a' c' fb cap sl k W) (h1 : w.heap.size < fb) (h2 : fb < w9.heap.size) (hc : p.flows.length < cap) (hm : p.flows.length = k + 1 + m) (y : Fl) (hy : p.flows[m]'(by omega) = y) (s : Value) (hs : sl m = s) : TQ w w9 p A B C a' c' fb cap sl (k + 1) (W.setCells fb (k * 8) (flL y s)) where
  below := h.below.grown (grown_setCells _ _ _ _) h.below.size (fun j hj => by cases hj; omega)
  row := by rw [heap_setCells_other (by omega)]; exact h.row
  qrow := by rw [heap_setCells_other (by omega)]; exact h.qrow
  same := fun b hb hn => by rw [heap_setCells_other hn]; exact h.same b hb hn
  blk := h.blk.set _ _ _
  done := fun i hi hik => by
    have ht := h.blk.there (o := k * 8) (n := 8) (by omega)
    by_cases e : i = k
    · subst e
      have C := World.rangeAt_setCells_same W fb (i * 8) (flL y s) ht
      have e1 : p.flows.length - 1 - i = m := by omega
      subst hy hs
      simp only [e1]
      exact ⟨C 0 _ rfl, C 1 _ rfl, C 2 _ rfl, C 3 _ rfl, C 4 _ rfl, C 5 _ rfl, C 6 _ rfl, C 7 _ rfl⟩
    · obtain ⟨d0, d1, d2, d3, d4, d5, d6, d7⟩ := h.done i hi (by omega)
      have k' : ∀ {o v}, o < k * 8 → W.cell? ⟨fb, o, none⟩ = some v → (W.setCells fb (k * 8) (flL y s)).cell? ⟨fb, o, none⟩ = some v := fun {o v} ho hv => by
        rw [World.cell?_setCells_out fb _ _ _ _ (fun _ _ => Or.inl ho)]; exact hv
      exact ⟨k' (by omega) d0, k' (by omega) d1, k' (by omega) d2, k' (by omega) d3, k' (by omega) d4, k' (by omega) d5, k' (by omega) d6, k' (by omega) d7⟩
/-- The program with its flows turned. -/
abbrev revP (p : Pg) : Pg := { p with flows := p.flows.reverse }
theorem TQ.pg {w w9 : World} {p : Pg} {A B C a' c' : Value} {fb cap : Nat} {sl : Nat → Value} {W : World} {lo : Nat} (h : TQ w w9 p A B C a' c' fb cap sl p.flows.length W)
    (hT : TwPg w9 lo p a' (.slice (some ⟨fb, 0, none⟩) p.flows.length cap) c') (hS : ∀ i (h : i < p.flows.length), St w p.flows[i].body (sl i)) :
    PgAt W (revP p) a' (.slice (some ⟨fb, 0, none⟩) p.flows.length cap) c' := by
  obtain ⟨b1, c1, e1, _, _, _, _, _, _, k1⟩ := id hT.ins
  obtain ⟨b3, c3, e3, _, _, _, _, _, _, k3⟩ := id hT.outs
  obtain ⟨b2, c2, sl2, e2, _, g1, g2, g3, _, _, _, k2⟩ := id hT.flows
  injection e2 with e2 _ e4
  injection e2 with e2
  injection e2 with e2 _ _
  subst e2 e4
  have hi := hT.ins.at
  have ho := hT.outs.at
  rw [e1] at hi ⊢
  rw [e3] at ho ⊢
  refine ⟨hT.st, hi.apart (k1.ne k2 (by decide)) h.same, ?_, ho.apart (k3.ne k2 (by decide)) h.same⟩
  refine ⟨some ⟨fb, 0, none⟩, cap, fun i => sl (p.flows.length - 1 - i), by simp, by simpa using g1, by simp; omega, fun x hx => g3 x (by simpa using hx), .inr ⟨fb, 0, rfl, fun i hi => ?_⟩, fun i hi => ?_⟩
  · have hi' : i < p.flows.length := by simpa using hi
    have := h.done i hi' hi'
    simpa using this
  · have hi' : i < p.flows.length := by simpa using hi
    have := (hS (p.flows.length - 1 - i) (by omega)).keep h.below
    simpa using this
end Go.Proofs.YtakjkhfglihggaaDoor.Lex
namespace Go.Proofs.YtakjkhfglihggaaDoor.Lex
open Go.ChangeShapes Go.WideShapes Go.ChangeAt Go.RowKit Go.Shelf
theorem fz_row {W : World} {b : Nat} {c : Array Value} {t : TypeId} (h : W.heap[b]? = some (.cells c t (0, 0))) (k : Nat) : W.frozen? ⟨b, k, none⟩ = false := by
  unfold World.frozen?
  rw [h]
  simp
/-- The rows of flows, each with its body's row. -/
abbrev esF (ps : List (Fl × Value)) : List (List Value) := ps.map fun (q : Fl × Value) => flL q.1 q.2
theorem esF_each (ps : List (Fl × Value)) : ∀ e ∈ esF ps, e.length = 8 := fun e he => by
  obtain ⟨q, _, rfl⟩ := List.mem_map.1 he
  rfl
theorem own_flows {X : World} {lo : Nat} {v : Value} {ps : List (Fl × Value)} (hown : X.ownsRow lo 52 8 v ps.length (esF ps).flatten) (hlen : ps.length ≤ 1466015503658) (hok : ∀ q ∈ ps, q.1.ok) (hst : ∀ q ∈ ps, St X q.1.body q.2) : FlowsAt X (ps.map (·.1)) v := by
  have hx : ∀ k, k < ps.length * 8 → ∀ g cap, v = .slice (some ⟨g, 0, none⟩) ps.length cap → X.cell? ⟨g, k, none⟩ = (esF ps).flatten[k]? := fun k hk g cap e => by subst e; exact hown.cellAt k hk
  have hst' : ∀ i (h : i < (ps.map fun (q : Fl × Value) => q.1).length), St X (ps.map fun (q : Fl × Value) => q.1)[i].body ((ps[i]?.map (·.2)).getD (.slice none 0 0)) := fun i hi => by
    have hi' : i < ps.length := by simpa using hi
    rw [List.getElem?_eq_getElem hi']
    simpa using hst ps[i] (List.getElem_mem hi')
  have hok' : ∀ x ∈ ps.map (·.1), x.ok := fun x hx => by
    obtain ⟨q, hq, rfl⟩ := List.mem_map.1 hx
    exact hok q hq
  rcases hown.2 with ⟨h, h0⟩ | ⟨g, cap, cur, e, _, _, hcap, _⟩
  · exact ⟨none, 0, fun i => (ps[i]?.map (·.2)).getD (.slice none 0 0), by rw [h]; simp [h0], by simpa using hlen, by simp [h0], hok', .inl (by simpa using h0), hst'⟩
  · refine ⟨some ⟨g, 0, none⟩, cap, fun i => (ps[i]?.map (·.2)).getD (.slice none 0 0), by rw [e]; simp, by simpa using hlen, by simpa using hcap, hok', .inr ⟨g, 0, rfl, fun i hi => ?_⟩, hst'⟩
    have hi' : i < ps.length := by simpa using hi
    have he : (esF ps)[i]? = some (flL ps[i].1 ps[i].2) := by rw [List.getElem?_map, List.getElem?_eq_getElem hi']; rfl
    have c : ∀ j u, (flL ps[i].1 ps[i].2)[j]? = some u → X.cell? ⟨g, i * 8 + j, none⟩ = some u := fun j u hu => by
      have hj : j < 8 := (List.getElem?_eq_some_iff.1 hu).1
      rw [hx _ (by omega) g cap e]
      have := flat_at (rest := []) (esF_each ps) he hj
      rw [List.append_nil] at this
      rw [this]
      exact hu
    dsimp only
    rw [List.getElem?_eq_getElem hi']
    simp only [Nat.zero_add, List.getElem_map]
    exact ⟨c 0 _ rfl, c 1 _ rfl, c 2 _ rfl, c 3 _ rfl, c 4 _ rfl, c 5 _ rfl, c 6 _ rfl, c 7 _ rfl⟩
theorem TwFlows.own {w : World} {lo : Nat} {l : List Fl} {s : Value} (h : TwFlows w lo l s) : ∃ (ps : List (Fl × Value)) (fb cap : Nat), s = .slice (some ⟨fb, 0, none⟩) l.length cap ∧ ps.map (·.1) = l ∧ w.ownsRow lo 52 8 s l.length (esF ps).flatten ∧ ∀ q ∈ ps, Tw w (fb + 1) q.1.body q.2 := by
  obtain ⟨b, cap, sl, rfl, h1, h2, h3, h4, h5, h6, h7, cur, k1, k2, k3⟩ := h
  have hf : (List.ofFn fun (i : Fin l.length) => ((l[i], sl i) : Fl × Value)).map (·.1) = l := by
    apply List.ext_getElem
    · simp
    · intro i h1 h2; simp
  refine ⟨List.ofFn fun (i : Fin l.length) => (l[i], sl i), b, cap, rfl, hf, ⟨?_, .inr ⟨b, cap, cur, rfl, h1, k1, by omega, k3, k2, ?_⟩⟩, ?_⟩
  · rw [flat_len (esF_each _)]; simp
  · apply List.ext_getElem?
    intro k
    by_cases hk : k < l.length * 8
    · rw [List.getElem?_take_of_lt (by simpa using hk)]
      have hi : k / 8 < l.length := by omega
      have e : k = k / 8 * 8 + k % 8 := by omega
      have he : (esF (List.ofFn fun (i : Fin l.length) => ((l[i], sl i) : Fl × Value)))[k / 8]? = some (flL l[k / 8] (sl (k / 8))) := by
        rw [List.getElem?_map, List.getElem?_eq_getElem (by simpa using hi)]
        simp
      have f := flat_at (rest := []) (j := k % 8) (esF_each _) he (by omega)
      rw [List.append_nil] at f
      conv => rhs; rw [e]
      rw [f]
      have c : ∀ j, w.cell? ⟨b, k / 8 * 8 + j, none⟩ = cur[k / 8 * 8 + j]? := fun j => cell_of_row w b _ cur 52 (0, 0) k1
      obtain ⟨d0, d1, d2, d3, d4, d5, d6, d7⟩ := h5 (k / 8) hi
      have hj : k % 8 < 8 := by omega
      rw [Array.getElem?_toList]
      conv => lhs; rw [e]
      rw [← c]
      generalize k % 8 = j at hj ⊢
      match j, hj with
      | 0, _ => simpa using d0
      | 1, _ => simpa using d1
      | 2, _ => simpa using d2
      | 3, _ => simpa using d3
      | 4, _ => simpa using d4
      | 5, _ => simpa using d5
      | 6, _ => simpa using d6
      | 7, _ => simpa using d7
    · rw [List.getElem?_eq_none (by simp; omega), List.getElem?_eq_none (by rw [flat_len (esF_each _)]; simp; omega)]
  · intro q hq
    obtain ⟨i, rfl⟩ := List.mem_ofFn.1 hq
    exact h7 i i.2
/-- The twin whose outs and flows are exchanged. -/
structure QV (w9 : World) (st : Int) (a' b' c' : Value) (W : World) : Prop where
  below : Below w9.heap.size w9 W
  row : W.heap[w9.heap.size]? = some (.cells #[.int .i64 st, a', b', c'] 26 (0, 0))
theorem QV.new (w9 : World) (st : Int) (a' b' c' : Value) : QV w9 st a' b' c' (w9.alloc (.cells #[.int .i64 st, a', b', c'] 26)) := ⟨(Below.refl _ _).alloc (Nat.le_refl _) _, push_new _ _ _ rfl⟩
theorem QV.keep {w9 W W' : World} {st : Int} {a' b' c' : Value} (h : QV w9 st a' b' c' W) (hb : Below W.heap.size W W') : QV w9 st a' b' c' W' := ⟨h.below.trans (hb.mono h.below.size), keep_row h.row hb⟩
theorem QV.outs {w9 W : World} {st : Int} {a' b' c' : Value} (h : QV w9 st a' b' c' W) (u : Value) : QV w9 st a' b' u (W.setCell ⟨w9.heap.size, 3, none⟩ u) := ⟨h.below.setCell (p := ⟨w9.heap.size, 3, none⟩) (Nat.le_refl _) _, by rw [set_same h.row]; rfl⟩
theorem QV.flows {w9 W : World} {st : Int} {a' b' c' : Value} (h : QV w9 st a' b' c' W) (u : Value) : QV w9 st a' u c' (W.setCell ⟨w9.heap.size, 2, none⟩ u) := ⟨h.below.setCell (p := ⟨w9.heap.size, 2, none⟩) (Nat.le_refl _) _, by rw [set_same h.row]; rfl⟩
theorem texts_nil (W : World) : TextsAt W [] (.slice none 0 0) := ⟨none, 0, rfl, by decide, Nat.le_refl _, (fun x hx => by cases hx), .inl rfl⟩
theorem QV.pg {w9 W : World} {p : Pg} {lo : Nat} {a' b' c' u : Value} (h : QV w9 p.st a' b' u W) (hT : TwPg w9 lo p a' b' c') : PgAt W { p with outs := [] } a' b' (.slice none 0 0) :=
  ⟨hT.st, (hT.keep h.below).at.ins, (hT.keep h.below).at.flows, texts_nil W⟩
theorem QV.pg2 {w9 W : World} {p : Pg} {lo : Nat} {a' b' c' : Value} {l : List Fl} {v : Value} (h : Below w9.heap.size w9 W) (hT : TwPg w9 lo p a' b' c') (hF : FlowsAt W l v) : PgAt W { p with flows := l, outs := [] } a' v (.slice none 0 0) :=
  ⟨hT.st, (hT.keep h).at.ins, hF, texts_nil W⟩
/-- The twin with one more flow. -/
structure TV (lo : Nat) (p : Pg) (y : Fl) (s a2 v2 c2 : Value) (kt : Nat) (W : World) : Prop where
  row : W.heap[kt]? = some (.cells #[.int .i64 p.st, a2, v2, c2] 26 (0, 0))
  hi : lo ≤ kt
  st : -9223372036854775808 ≤ p.st ∧ p.st ≤ 9223372036854775807
  ins : TwIns W lo p.ins a2
  outs : TwTexts W lo p.outs c2
  flows : ∃ ps : List (Fl × Value), ps.map (·.1) = p.flows ∧ W.ownsRow lo 52 8 v2 (ps ++ [(y, s)]).length (esF (ps ++ [(y, s)])).flatten ∧ ∀ q ∈ ps, Tw W lo q.1.body q.2
theorem own_carry {w W : World} {lo t c n : Nat} {v : Value} {xs : List Value} (h : w.ownsRow lo t c v n xs) (hb : ∀ b, lo ≤ b → b < w.heap.size → W.heap[b]? = w.heap[b]?) : W.ownsRow lo t c v n xs := by
  refine ⟨h.1, h.2.imp_right ?_⟩
  rintro ⟨g, cap, cur, e, h1, h2, rest⟩
  exact ⟨g, cap, cur, e, h1, (hb g h1 (Array.getElem?_eq_some_iff.1 h2).1).trans h2, rest⟩
theorem TV.carry {lo : Nat} {p : Pg} {y : Fl} {s a2 v2 c2 : Value} {kt : Nat} {W W' : World} (h : TV lo p y s a2 v2 c2 kt W) (hb : ∀ b, lo ≤ b → b < W.heap.size → W'.heap[b]? = W.heap[b]?) : TV lo p y s a2 v2 c2 kt W' := by
  obtain ⟨ps, h1, h2, h3⟩ := h.flows
  exact ⟨(hb kt h.hi (Array.getElem?_eq_some_iff.1 h.row).1).trans h.row, h.hi, h.st, h.ins.carry hb (Nat.le_refl _), h.outs.carry hb (Nat.le_refl _), ps, h1, own_carry h2 hb, fun q hq => Tw.carryN hb (Nat.le_refl _) _ _ _ (Nat.le_refl _) (h3 q hq)⟩
theorem TV.keep {lo : Nat} {p : Pg} {y : Fl} {s a2 v2 c2 : Value} {kt : Nat} {W W' : World} (h : TV lo p y s a2 v2 c2 kt W) (hb : Below W.heap.size W W') : TV lo p y s a2 v2 c2 kt W' := h.carry (fun b _ hlt => hb.block b hlt)
theorem TV.pg {lo : Nat} {p : Pg} {y : Fl} {s a2 v2 c2 : Value} {kt : Nat} {W : World} (h : TV lo p y s a2 v2 c2 kt W) (hl : p.flows.length ≤ 128) (hok : ∀ x ∈ p.flows, x.ok) (hy : y.ok) (hS : St W y.body s) : PgAt W { p with flows := p.flows ++ [y] } a2 v2 c2 := by
  obtain ⟨ps, h1, h2, h3⟩ := h.flows
  have hlen : ps.length = p.flows.length := by rw [← h1]; simp
  have := own_flows h2 (by simp; omega) (fun q hq => by
    rcases List.mem_append.1 hq with hq | hq
    · exact hok _ (by rw [← h1]; exact List.mem_map_of_mem hq)
    · rw [List.mem_singleton.1 hq]; exact hy) (fun q hq => by
    rcases List.mem_append.1 hq with hq | hq
    · exact (h3 q hq).st
    · rw [List.mem_singleton.1 hq]; exact hS)
  rw [List.map_append, h1] at this
  exact ⟨h.st, h.ins.at, this, h.outs.at⟩
theorem HdCells.blk {w W : World} {b p : Nat} {x : Hd} (h : HdCells w b p x) (hb : W.heap[b]? = w.heap[b]?) : HdCells W b p x := by
  have k : ∀ {o v}, w.cell? ⟨b, o, none⟩ = some v → W.cell? ⟨b, o, none⟩ = some v := fun {o v} h => by
    rw [World.cell?_of_block (w := w) (a := ⟨b, o, none⟩) hb]; exact h
  exact ⟨k h.1, k h.2.1, k h.2.2⟩
theorem TwIns.apart {w W : World} {lo : Nat} {l : List Hd} {s : Value} {fb c cap : Nat} (h : TwIns w lo l s) (hf : Blk w fb 52 c cap) (hk : ∀ b, b < w.heap.size → b ≠ fb → W.heap[b]? = w.heap[b]?) : TwIns W lo l s := by
  obtain ⟨b, cp, rfl, h1, h2, h3, h4, h5, h6, h8⟩ := h
  have hne := h8.ne hf (by decide)
  have hb : W.heap[b]? = w.heap[b]? := by
    obtain ⟨cur, e, _⟩ := h8
    exact hk b (Array.getElem?_eq_some_iff.1 e).1 hne
  exact ⟨b, cp, rfl, h1, h2, h3, h4, fun i hi => (h5 i hi).blk hb, h6.blk hb, by obtain ⟨cur, e, r⟩ := h8; exact ⟨cur, hb.trans e, r⟩⟩
theorem TwTexts.apart {w W : World} {lo : Nat} {l : List ByteArray} {s : Value} {fb c cap : Nat} (h : TwTexts w lo l s) (hf : Blk w fb 52 c cap) (hk : ∀ b, b < w.heap.size → b ≠ fb → W.heap[b]? = w.heap[b]?) : TwTexts W lo l s := by
  obtain ⟨b, cp, rfl, h1, h2, h3, h4, h5, h6, h8⟩ := h
  have hne := h8.ne hf (by decide)
  have hb : W.heap[b]? = w.heap[b]? := by
    obtain ⟨cur, e, _⟩ := h8
    exact hk b (Array.getElem?_eq_some_iff.1 e).1 hne
  have k : ∀ {o v}, w.cell? ⟨b, o, none⟩ = some v → W.cell? ⟨b, o, none⟩ = some v := fun {o v} h => by
    rw [World.cell?_of_block (w := w) (a := ⟨b, o, none⟩) hb]; exact h
  exact ⟨b, cp, rfl, h1, h2, h3, h4, fun i hi => k (h5 i hi), k h6, by obtain ⟨cur, e, r⟩ := h8; exact ⟨cur, hb.trans e, r⟩⟩
theorem tv_grown {w12 w6 : World} {fb : Nat} {o : Obj} {c : Array Value} (hf : fb < w12.heap.size) (hg : ((w12.alloc (.cells c 26)).alloc o).drew.grownBy w6 (some fb)) :
    (∀ b, b < w12.heap.size → b ≠ fb → w6.heap[b]? = w12.heap[b]?) ∧ w6.heap[w12.heap.size]? = some (.cells c 26 (0, 0)) ∧ w12.heap.size < w6.heap.size ∧ w6.os = w12.os ∧ w6.tape = w12.tape ∧ w6.output = w12.output := by
  have sz : ((w12.alloc (.cells c 26)).alloc o).drew.heap.size = w12.heap.size + 2 := by simp
  have hs := hg.size
  refine ⟨fun b hb hn => ?_, ?_, by omega, hg.os, hg.tape, hg.output⟩
  · rw [hg.block b (by omega) (by intro e; injection e with e; omega)]
    exact (Below.heap_alloc _ _ _ (by simp; omega)).trans (Below.heap_alloc _ _ _ hb)
  · rw [hg.block w12.heap.size (by omega) (by intro e; injection e with e; omega)]
    exact push_old (push_new _ _ _ rfl)
theorem news12 (w12 : World) (o1 : Obj) (y : Fl) (s : Value) : ∀ j u, (flL y s)[j]? = some u → ((w12.alloc o1).alloc (.cells (flL y s).toArray 52)).drew.cell? ((⟨w12.heap.size + 1, 0, none⟩ : Addr).add j) = some u := by
  intro j u hj
  have := next_cells (w12.alloc o1) (flL y s) 52 j u hj
  have e : (w12.alloc o1).heap.size = w12.heap.size + 1 := by simp
  rw [e] at this
  exact this
theorem tv_done {w12 w6 : World} {lo n : Nat} {p : Pg} {y : Fl} {s a2 c2 : Value} {fb cap0 gg cap : Nat} {o : Obj} {ps : List (Fl × Value)} (hT : TwPg w12 lo p a2 (.slice (some ⟨fb, 0, none⟩) p.flows.length cap0) c2) (hlo : lo ≤ w12.heap.size)
    (hps : ps.map (·.1) = p.flows) (hTw : ∀ q ∈ ps, Tw w12 (fb + 1) q.1.body q.2) (hn : n = p.flows.length)
    (hown : w6.ownsRow lo 52 8 (.slice (some ⟨gg, 0, none⟩) (n + 1) cap) (n + 1) ((esF ps).flatten ++ flL y s))
    (hg : ((w12.alloc (.cells #[.int .i64 p.st, a2, .slice (some ⟨fb, 0, none⟩) p.flows.length cap0, c2] 26)).alloc o).drew.grownBy w6 (some fb)) (hat : fb = gg ∨ gg = w12.heap.size + 2) :
    TV lo p y s a2 (.slice (some ⟨gg, 0, none⟩) (n + 1) cap) c2 w12.heap.size (w6.setCell ⟨w12.heap.size, 2, none⟩ (.slice (some ⟨gg, 0, none⟩) (n + 1) cap)) ∧ Below lo w12 (w6.setCell ⟨w12.heap.size, 2, none⟩ (.slice (some ⟨gg, 0, none⟩) (n + 1) cap)) := by
  obtain ⟨b, cp, sl, e, h1, h2, h3, h4, h5, h6, h7, h8⟩ := id hT.flows
  injection e with e1 _ e3
  injection e1 with e1
  injection e1 with e1 _ _
  subst e1 e3 hn
  have hf : fb < w12.heap.size := by obtain ⟨cur, e, _⟩ := h8; exact (Array.getElem?_eq_some_iff.1 e).1
  obtain ⟨g1, g2, g3, g4, g5, g6⟩ := tv_grown hf hg
  have hgk : gg ≠ w12.heap.size := by rcases hat with h | h <;> omega
  have same : ∀ b, b < w12.heap.size → b ≠ fb → (w6.setCell ⟨w12.heap.size, 2, none⟩ (.slice (some ⟨gg, 0, none⟩) (p.flows.length + 1) cap)).heap[b]? = w12.heap[b]? := fun b hb hn => (Below.heap_setCell _ _ _ _ (by simp; omega)).trans (g1 b hb hn)
  have gX : w6.grownBy (w6.setCell ⟨w12.heap.size, 2, none⟩ (.slice (some ⟨gg, 0, none⟩) (p.flows.length + 1) cap)) (some w12.heap.size) := ⟨rfl, rfl, rfl, by simp, fun k _ h => Below.heap_setCell _ _ _ _ (fun e => h (by rw [e]))⟩
  have own6 := hown.kept gX (.inr (by simp [Value.ownBlock]; omega))
  have hl : ps.length = p.flows.length := by rw [← hps]; simp
  refine ⟨⟨by rw [set_same g2]; rfl, hlo, hT.st, hT.ins.apart h8 same, hT.outs.apart h8 same, ps, hps, ?_, fun q hq => ?_⟩, ⟨g4, g5, g6, ?_, fun k hk => same k (by omega) (by omega)⟩⟩
  · have e1 : (ps ++ [(y, s)]).length = p.flows.length + 1 := by simp [hl]
    have e2 : (esF (ps ++ [(y, s)])).flatten = (esF ps).flatten ++ flL y s := by simp
    rw [e1, e2]
    exact own6
  · exact (Tw.carryN (fun b hb hlt => same b hlt (by omega)) (Nat.le_refl _) _ _ _ (Nat.le_refl _) (hTw q hq)).low (by omega)
  · have := gX.size
    omega
/-- The row of the flows that are left, while it is made. -/
structure LV (w14 : World) (qs : List (Fl × Value)) (fl : Value) (W : World) : Prop where
  below : Below w14.heap.size w14 W
  own : W.ownsRow w14.heap.size 52 8 fl qs.length (esF qs).flatten
theorem LV.start (w14 : World) : LV w14 [] (.slice none 0 0) w14 := ⟨Below.refl _ _, rfl, .inl ⟨rfl, rfl⟩⟩
theorem LV.keep {w14 W W' : World} {qs : List (Fl × Value)} {fl : Value} (h : LV w14 qs fl W) (hb : Below W.heap.size W W') : LV w14 qs fl W' :=
  ⟨h.below.trans (hb.mono h.below.size), own_carry h.own (fun b _ hlt => hb.block b hlt)⟩
theorem LV.grow {w14 W W' : World} {qs : List (Fl × Value)} {fl fl' : Value} {y : Fl} {s : Value} (h : LV w14 qs fl W) (hown : W'.ownsRow w14.heap.size 52 8 fl' (qs.length + 1) ((esF qs).flatten ++ flL y s)) (hg : W.grownBy W' fl.ownBlock) : LV w14 (qs ++ [(y, s)]) fl' W' where
  below := h.below.grown hg h.below.size (fun j hj => by
    rcases h.own.2 with ⟨e, _⟩ | ⟨g, cap, cur, e, h1, _⟩
    · rw [e] at hj; cases hj
    · rw [e] at hj; have hj' : g = j := by injection hj
      omega)
  own := by
    have e1 : (qs ++ [(y, s)]).length = qs.length + 1 := by simp
    have e2 : (esF (qs ++ [(y, s)])).flatten = (esF qs).flatten ++ flL y s := by simp
    rw [e1, e2]
    exact hown
theorem LV.slice {w14 W : World} {qs : List (Fl × Value)} {fl : Value} (h : LV w14 qs fl W) : ∃ ao cap, fl = .slice ao qs.length cap := by
  rcases h.own.2 with ⟨e, e0⟩ | ⟨g, cap, cur, e, _⟩
  · exact ⟨none, 0, by rw [e, e0]⟩
  · exact ⟨_, cap, e⟩
/-- Is the name asked for? -/
def ak (nm : ByteArray) (l : List Fl) : Bool := !(l.all fun f => (asksOf f).all fun s => !decide (nm.data.toList = s.data.toList))
theorem ak_snoc (nm : ByteArray) (l : List Fl) (f : Fl) : ak nm (l ++ [f]) = (ak nm l || (gat 32 f.body 0 []).any fun z => decide (nm.data.toList = z.1.data.toList)) := by
  unfold ak asksOf
  simp only [List.all_append, List.all_cons, List.all_nil, Bool.and_true, Bool.not_and, List.all_map]
  congr 1
  rw [List.not_all_eq_any_not]
  simp
theorem erase_same {α : Type} (l : List α) (k : Nat) (hk : k < l.length) : (l.take (k + 1)).eraseIdx k = (l.take k).eraseIdx k := by
  have e : (l.take k).length = k := by simp; omega
  rw [List.take_succ_eq_append_getElem hk, List.eraseIdx_append_of_length_le (by omega), e, List.eraseIdx_of_length_le (l := l.take k) (by omega)]
  simp
theorem erase_more {α : Type} (l : List α) (k m : Nat) (hm : m < l.length) (hne : m ≠ k) : (l.take (m + 1)).eraseIdx k = (l.take m).eraseIdx k ++ [l[m]] := by
  rw [List.take_succ_eq_append_getElem hm]
  by_cases h : k < m
  · rw [List.eraseIdx_append_of_lt_length (by simp; omega)]
  · rw [List.eraseIdx_of_length_le (by simp; omega), List.eraseIdx_of_length_le (by simp; omega)]
theorem less_err {p : Pg} (hp : pgOk p = true) (hn : nmOk p = true) (k : Nat) (hk : k < p.flows.length) (y : Fl) (hy : p.flows[k] = y) (l : List Fl) (hl : l = (p.flows.take p.flows.length).eraseIdx k) : nmErr { p with flows := l, outs := [] } = if ak y.name l then 6 else 0 := by
  subst hl hy
  rw [List.take_length, List.eraseIdx_eq_take_drop_succ, less_flow hp hn k hk]
  unfold ak
  cases (p.flows.take k ++ p.flows.drop (k + 1)).all (fun f => (asksOf f).all fun s => !decide (p.flows[k].name.data.toList = s.data.toList)) <;> rfl
theorem twice_err {p : Pg} (hp : pgOk p = true) (k : Nat) (hk : k < p.flows.length) (y : Fl) (hy : p.flows[k] = y) : nmErr { p with flows := p.flows ++ [y] } = if p.flows.length + 1 ≤ 128 then 6 else 1 := by
  subst hy
  exact twice_flow hp k hk
theorem LV.set {w14 W : World} {qs : List (Fl × Value)} {fl u : Value} {kq : Nat} (h : LV w14 qs fl W) (hk : kq < w14.heap.size) : (W.setCell ⟨kq, 2, none⟩ u).ownsRow w14.heap.size 52 8 fl qs.length (esF qs).flatten :=
  own_carry h.own (fun b hb _ => Below.heap_setCell _ _ _ _ (by simp; omega))
end Go.Proofs.YtakjkhfglihggaaDoor.Lex
