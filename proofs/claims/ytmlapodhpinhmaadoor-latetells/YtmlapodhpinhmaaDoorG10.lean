/-
  An age: the contract of the reference's Old.
  A program with its flows in another order: it is checked likewise.
  A program's twin whose flows are exchanged one by one: what stands while that is done.
  A program with less, or with a flow twice: how it is checked.
  A program without its outs, with a flow twice, without a flow: what stands while that is made.
  What it asks for, by the document: the contracts of the document's gather and Refs.
  Does each name mean one thing, by pairs: plain mathematics.
  The document's own: of how many parts an operator is, how great it is, whether it may be.
-/
import Derived.Test.YtmlapodhpinhmaaDoorG9
import Derived.Test.YtmlapodhpinhmaaDoorG8
import Derived.Test.YtmlapodhpinhmaaDoorG7
import Derived.Deep.MidRow
import Derived.Deep.AppendLies
import Derived.Deep.RegionLaw
import Derived.Test.YtmlapodhpinhmaaDoorG3
import Derived.Test.YtmlapodhpinhmaaDoorG2
import Derived.BigQuiet
namespace Go.Proofs.YtmlapodhpinhmaaDoor.Lex
open Go.ChangeShapes Go.WideShapes Go.ChangeAt Go.RowKit Go.Joins
theorem lstV_small {l : List Int} {x : Wi} {n : Nat} (hx : WiOk n x) (hm : Mild l) : -1099511630000 ≤ lstV l x ∧ lstV l x ≤ 1099511630000 := by
  have h1 := hx.ago
  have h2 := hx.way
  have h3 := hm.at x.of
  unfold lstV
  split <;> omega
set_option maxRecDepth 100000 in
set_option maxHeartbeats 1000000 in
theorem rold (p : Pg) (l : List Int) (v : Value) (k : Nat) (r : Rf) (w : World) (a b c : Value) (hP : PgAt w p a b c) (hI : IAt w l v) (hk : k < p.flows.length) (hll : l.length = p.flows.length) (hx : WiOk p.flows.length (mkW p k p.flows[k].st r)) (hm : Mild l) :
    Calls Tryd.prog 30 #[pgV p a b c, v, .int .i64 (k : Int), .agg #[.string r.1, .int .i64 (r.2 : Int)]] w fun e w' => e = .returned (.int .i64 (ageV l (mkW p k p.flows[k].st r))) ∧ Below w.heap.size w w' := by
  obtain ⟨a0, a1, rfl, _⟩ := hP.ins
  obtain ⟨b0, b1, SL, rfl, hfl, _⟩ := hP.flows
  obtain ⟨c0, c1, rfl, _⟩ := hP.outs
  have hI' := hI
  obtain ⟨ao, cap, rfl, ⟨hcap, hlen⟩, hc⟩ := hI
  obtain ⟨lb, lo, rfl, hcc⟩ := hc.resolve_left (by omega)
  have hkl : k < l.length := by omega
  have f1 := hcc k hkl
  rw [← lateAt_nat l k hkl] at f1
  have A1 := hm.at (k : Int)
  obtain ⟨w2, hw2⟩ : ∃ w2, w2 = (w.alloc (.cells (pgC p (.slice a0 p.ins.length a1) (.slice b0 p.flows.length b1) (.slice c0 p.outs.length c1)) 26)).alloc (.cells #[.string r.1, .int .i64 (r.2 : Int)] 29) := ⟨_, rfl⟩
  have hb2 : Below w.heap.size w w2 := by rw [hw2]; exact ((Below.refl _ w).alloc (Nat.le_refl _) _).alloc (by simp) _
  have h0 : w2.heap[w.heap.size]? = some (.cells (pgC p (.slice a0 p.ins.length a1) (.slice b0 p.flows.length b1) (.slice c0 p.outs.length c1)) 26 (0, 0)) := by rw [hw2, Below.heap_alloc _ _ _ (by simp)]; exact heap_alloc_new w _
  have h1 : w2.heap[w.heap.size + 1]? = some (.cells #[.string r.1, .int .i64 (r.2 : Int)] 29 (0, 0)) := by
    rw [hw2]
    have := heap_alloc_new (w.alloc (.cells (pgC p (.slice a0 p.ins.length a1) (.slice b0 p.flows.length b1) (.slice c0 p.outs.length c1)) 26)) (.cells #[.string r.1, .int .i64 (r.2 : Int)] 29)
    rwa [World.size_alloc] at this
  obtain ⟨y0, y1, y2, y3⟩ := row4 h0
  have z0 : w2.cell? ⟨w.heap.size + 1, 0, none⟩ = some (.string r.1) := by rw [cell_of_row _ _ _ _ 29 (0, 0) h1]; rfl
  have z1 : w2.cell? ⟨w.heap.size + 1, 1, none⟩ = some (.int .i64 (r.2 : Int)) := by rw [cell_of_row _ _ _ _ 29 (0, 0) h1]; rfl
  have f1 := cell_kept f1 hb2
  have hbd : Below w.heap.size w w2.drew := hb2.drew
  have c35 := rleast p l _ k r w2.drew _ _ _ (hP.keep hbd) (hI'.keep hbd) hk hll hx hm
  have HV : Hid (ageV l (mkW p k p.flows[k].st r) = lateAt l (k : Int) - lstV l (mkW p k p.flows[k].st r)) := hid (age_lst l (mkW p k p.flows[k].st r))
  have hlv := lstV_small hx hm
  have HB2 := hid hb2
  have k0 : (0 : Int) ≤ (k : Int) := by omega
  have k1 : (k : Int) < (l.length : Int) := by omega
  clear h0 h1 hm hcc hP hI' hbd hb2 hx hll
  generalize ageV l (mkW p k p.flows[k].st r) = AV at *
  generalize lstV l (mkW p k p.flows[k].st r) = LV at *
  generalize lateAt l (k : Int) = LK at *
  have q0 : IntKind.i64.wrap (LK - LV) = LK - LV := by rw [IntKind.wrap_i64]; omega
  go_enter Tryd.func30, Tryd.ntmps30
  go_wp2_with (fail)
  rw [← hw2]
  clear hw2
  refine wp_region_held_drew (S := fun W => (W.cell? ⟨w.heap.size, 0, none⟩ = some (.int .i64 p.st) ∧ W.cell? ⟨w.heap.size, 1, none⟩ = some (.slice a0 p.ins.length a1) ∧ W.cell? ⟨w.heap.size, 2, none⟩ = some (.slice b0 p.flows.length b1) ∧ W.cell? ⟨w.heap.size, 3, none⟩ = some (.slice c0 p.outs.length c1)) ∧ W.cell? ⟨w.heap.size + 1, 0, none⟩ = some (.string r.1) ∧ W.cell? ⟨w.heap.size + 1, 1, none⟩ = some (.int .i64 (r.2 : Int)) ∧ W.cell? ⟨lb, lo + k, none⟩ = some (.int .i64 LK)) (by kernel_rfl) ?_ (fun hHeld => ?_)
  · exact ⟨⟨y0, y1, y2, y3⟩, z0, z1, f1⟩
  refine wpAnyH_take (i := 0) (oi := { dst := some 9, op := Go.Op.move (Go.Operand.tmp 1), type := 27, pos := _, after := #[], guard := none }) (v := ?_) rfl (by kernel_rfl) (by kernel_rfl) (by kernel_rfl) (fun _ _ _ h => h) (Or.inl ⟨by rfl, ?_⟩) (by assumption) ?_
  rotate_left
  · intro w hSw; (try dsimp only at hSw); go_simp <;> first | with_reducible rfl | (rw [if_neg (by first | omega | (simp only [ByteArray.size_append] at *; omega))])
  simp only [Act.put, List.setIfInBounds_toArray, List.set_cons_zero, List.set_cons_succ]
  refine wpAnyH_take (i := 1) (oi := { dst := some 10, op := Go.Op.move (Go.Operand.tmp 2), type := 3, pos := _, after := #[], guard := none }) (v := ?_) rfl (by kernel_rfl) (by kernel_rfl) (by kernel_rfl) (fun _ _ _ h => h) (Or.inl ⟨by rfl, ?_⟩) (by assumption) ?_
  rotate_left
  · intro w hSw; (try dsimp only at hSw); go_simp <;> first | with_reducible rfl | (rw [if_neg (by first | omega | (simp only [ByteArray.size_append] at *; omega))])
  simp only [Act.put, List.setIfInBounds_toArray, List.set_cons_zero, List.set_cons_succ]
  refine wpAnyH_take (i := 2) (oi := { dst := some 11, op := Go.Op.indexAddr 27 (Go.Operand.tmp 9) (Go.Operand.tmp 10), type := 0, pos := _, after := #[{ on := 0, ground := Go.Ground.data }, { on := 1, ground := Go.Ground.data }], guard := none }) (v := ?_) rfl (by kernel_rfl) (by kernel_rfl) (by kernel_rfl) (fun _ _ _ h => h) (Or.inl ⟨by rfl, ?_⟩) (by assumption) ?_
  rotate_left
  · intro w hSw; (try dsimp only at hSw); go_simp <;> first | with_reducible rfl | (rw [if_neg (by first | omega | (simp only [ByteArray.size_append] at *; omega))])
  simp only [Act.put, List.setIfInBounds_toArray, List.set_cons_zero, List.set_cons_succ]
  refine wpAnyH_take (i := 3) (oi := { dst := some 12, op := Go.Op.load 3 (Go.Operand.tmp 11), type := 3, pos := _, after := #[{ on := 2, ground := Go.Ground.data }], guard := none }) (v := ?_) rfl (by kernel_rfl) (by kernel_rfl) (by kernel_rfl) (fun _ _ _ h => h) (Or.inl ⟨by rfl, ?_⟩) (by assumption) ?_
  rotate_left
  · intro w hSw; (try dsimp only at hSw); go_simp <;> first | with_reducible rfl | (rw [if_neg (by first | omega | (simp only [ByteArray.size_append] at *; omega))])
  simp only [Act.put, List.setIfInBounds_toArray, List.set_cons_zero, List.set_cons_succ]
  refine wpAnyH_take (i := 4) (oi := { dst := some 13, op := Go.Op.load 26 (Go.Operand.tmp 4), type := 26, pos := _, after := #[], guard := none }) (v := ?_) rfl (by kernel_rfl) (by kernel_rfl) (by kernel_rfl) (fun _ _ _ h => h) (Or.inl ⟨by rfl, ?_⟩) (by assumption) ?_
  rotate_left
  · intro w hSw; (try dsimp only at hSw); go_simp <;> first | with_reducible rfl | (rw [if_neg (by first | omega | (simp only [ByteArray.size_append] at *; omega))])
  simp only [Act.put, List.setIfInBounds_toArray, List.set_cons_zero, List.set_cons_succ]
  refine wpAnyH_take (i := 5) (oi := { dst := some 14, op := Go.Op.move (Go.Operand.tmp 1), type := 27, pos := _, after := #[], guard := none }) (v := ?_) rfl (by kernel_rfl) (by kernel_rfl) (by kernel_rfl) (fun _ _ _ h => h) (Or.inl ⟨by rfl, ?_⟩) (by assumption) ?_
  rotate_left
  · intro w hSw; (try dsimp only at hSw); go_simp <;> first | with_reducible rfl | (rw [if_neg (by first | omega | (simp only [ByteArray.size_append] at *; omega))])
  simp only [Act.put, List.setIfInBounds_toArray, List.set_cons_zero, List.set_cons_succ]
  refine wpAnyH_take (i := 6) (oi := { dst := some 15, op := Go.Op.move (Go.Operand.tmp 2), type := 3, pos := _, after := #[], guard := none }) (v := ?_) rfl (by kernel_rfl) (by kernel_rfl) (by kernel_rfl) (fun _ _ _ h => h) (Or.inl ⟨by rfl, ?_⟩) (by assumption) ?_
  rotate_left
  · intro w hSw; (try dsimp only at hSw); go_simp <;> first | with_reducible rfl | (rw [if_neg (by first | omega | (simp only [ByteArray.size_append] at *; omega))])
  simp only [Act.put, List.setIfInBounds_toArray, List.set_cons_zero, List.set_cons_succ]
  refine wpAnyH_take (i := 7) (oi := { dst := some 16, op := Go.Op.load 29 (Go.Operand.tmp 7), type := 29, pos := _, after := #[], guard := none }) (v := ?_) rfl (by kernel_rfl) (by kernel_rfl) (by kernel_rfl) (fun _ _ _ h => h) (Or.inl ⟨by rfl, ?_⟩) (by assumption) ?_
  rotate_left
  · intro w hSw; (try dsimp only at hSw); go_simp <;> first | with_reducible rfl | (rw [if_neg (by first | omega | (simp only [ByteArray.size_append] at *; omega))])
  simp only [Act.put, List.setIfInBounds_toArray, List.set_cons_zero, List.set_cons_succ]
  refine wpAnyH_ready (rs := [8]) (by kernel_rfl) (by simp) ?_
  refine AllReadyH.cons (o := { dst := some 17, op := Go.Op.call { callee := Go.Callee.value (Go.Operand.func 35), args := #[Go.Operand.tmp 13, Go.Operand.tmp 14, Go.Operand.tmp 15, Go.Operand.tmp 16], argTypes := #[26, 27, 3, 29] }, type := 3, pos := _, after := #[{ on := 4, ground := Go.Ground.data }, { on := 5, ground := Go.Ground.data }, { on := 6, ground := Go.Ground.data }, { on := 7, ground := Go.Ground.data }], guard := none }) rfl (fun K hK => ?_) AllReadyH.nil
  go_simp
  refine c35.mono ?_
  rintro e w3 ⟨rfl, hb3d⟩
  have hb3 : Below w2.heap.size w2 w3 := (Below.refl _ w2).drew.trans (hb3d.mono (by simp))
  have HB3 := hid hb3
  have n0 := cell_kept y0 hb3
  have n1 := cell_kept y1 hb3
  have n2 := cell_kept y2 hb3
  have n3 := cell_kept y3 hb3
  have n4 := cell_kept z0 hb3
  have n5 := cell_kept z1 hb3
  have n6 := cell_kept f1 hb3
  clear hb3 hb3d
  go_wp2_with fail
  refine hK.out _ _ ?_ (fun hHeld1 => ?_)
  · exact ⟨⟨n0, n1, n2, n3⟩, n4, n5, n6⟩
  clear hK K
  refine wpAnyH_take (i := 9) (oi := { dst := some 18, op := Go.Op.binOp Go.BinOp.sub 3 (Go.Operand.tmp 12) (Go.Operand.tmp 17) 3, type := 3, pos := _, after := #[{ on := 3, ground := Go.Ground.data }, { on := 8, ground := Go.Ground.data }], guard := none }) (v := ?_) rfl (by kernel_rfl) (by kernel_rfl) (by kernel_rfl) (fun _ _ _ h => h) (Or.inl ⟨by rfl, ?_⟩) (by assumption) ?_
  rotate_left
  · intro w hSw; (try dsimp only at hSw); go_simp <;> first | with_reducible rfl | (rw [if_neg (by first | omega | (simp only [ByteArray.size_append] at *; omega))])
  simp only [Act.put, List.setIfInBounds_toArray, List.set_cons_zero, List.set_cons_succ]
  refine wpAnyH_take (i := 10) (oi := { dst := some 8, op := Go.Op.assign (Go.Operand.tmp 18), type := 3, pos := _, after := #[{ on := 9, ground := Go.Ground.data }, { on := 8, ground := Go.Ground.chain }, { on := 0, ground := Go.Ground.phase }, { on := 1, ground := Go.Ground.phase }, { on := 2, ground := Go.Ground.phase }, { on := 3, ground := Go.Ground.phase }, { on := 4, ground := Go.Ground.phase }, { on := 5, ground := Go.Ground.phase }, { on := 6, ground := Go.Ground.phase }, { on := 7, ground := Go.Ground.phase }, { on := 8, ground := Go.Ground.phase }, { on := 9, ground := Go.Ground.phase }], guard := none }) (v := ?_) rfl (by kernel_rfl) (by kernel_rfl) (by kernel_rfl) (fun _ _ _ h => h) (Or.inl ⟨by rfl, ?_⟩) (by assumption) ?_
  rotate_left
  · intro w hSw; (try dsimp only at hSw); go_simp <;> first | with_reducible rfl | (rw [if_neg (by first | omega | (simp only [ByteArray.size_append] at *; omega))])
  simp only [Act.put, List.setIfInBounds_toArray, List.set_cons_zero, List.set_cons_succ]
  refine wpAnyH_done (by kernel_rfl) ?_ _
  go_wp2_with (fail)
  go_ret
  exact ⟨by rw [HV.out]; rfl, HB2.out.trans (HB3.out.mono HB2.out.size)⟩
end Go.Proofs.YtmlapodhpinhmaaDoor.Lex
namespace Go.Proofs.YtmlapodhpinhmaaDoor.Lex
/-- The names of the things, in their order. -/
def namesOf (p : Pg) : List ByteArray := p.ins.map (·.name) ++ p.flows.map (·.name)
theorem things_names (p : Pg) : (thingsL p).map (fun x => x.2.name) = namesOf p := by
  unfold thingsL namesOf
  rw [List.map_append]
  congr 1
  · unfold insL; rw [List.map_map]; rfl
  · apply List.ext_getElem
    · simp [flowsL]
    · intro i h1 h2
      have hi : i < p.flows.length := by simpa using h2
      simp [flowsL, hi, Fl.hd]
/-- How many of them have the name. -/
def cntN (l : List ByteArray) (u : List UInt8) : Nat := (l.filter fun s => decide (u = s.data.toList)).length
theorem cntT_names (p : Pg) (u : List UInt8) : cntT (thingsL p) u = cntN (namesOf p) u := by
  rw [← things_names]
  unfold cntT cntN
  rw [List.filter_map, List.length_map]
  rfl
theorem all_names (p : Pg) (f : ByteArray → Bool) : (thingsL p).all (fun x => f x.2.name) = (namesOf p).all f := by
  rw [← things_names, List.all_map]
  rfl
theorem cntN_perm {l l' : List ByteArray} (h : l.Perm l') (u : List UInt8) : cntN l u = cntN l' u := (h.filter _).length_eq
theorem all_perm {α : Type} {l l' : List α} (h : l.Perm l') (f : α → Bool) : l.all f = l'.all f := by
  rw [Bool.eq_iff_iff, List.all_eq_true, List.all_eq_true]
  exact ⟨fun k x hx => k x (h.mem_iff.2 hx), fun k x hx => k x (h.mem_iff.1 hx)⟩
/-- With its flows in another order. -/
theorem nmOk_perm {p q : Pg} (hi : q.ins = p.ins) (ho : q.outs = p.outs) (hf : q.flows.Perm p.flows) : nmOk q = nmOk p := by
  have hn : (namesOf q).Perm (namesOf p) := by unfold namesOf; rw [hi]; exact (hf.map _).append_left _
  have hc : ∀ u, cntT (thingsL q) u = cntT (thingsL p) u := fun u => by rw [cntT_names, cntT_names]; exact cntN_perm hn u
  have h1 : ∀ s, twice q s = twice p s := fun s => by unfold twice; rw [hc]
  have h2 : ∀ s, none_ q s = none_ p s := fun s => by unfold none_; rw [hc]
  have h3 : ∀ s, told q s = told p s := fun s => by unfold told; rw [ho]
  have ha : (askedL q).Perm (askedL p) := by unfold askedL; exact hf.flatMap_right _
  unfold nmOk
  rw [all_names q (fun s => !twice q s), all_names p (fun s => !twice p s)]
  simp only [h1, h2, h3]
  rw [all_perm hn, all_perm ha, ho]
theorem pgOk_perm {p q : Pg} (hs : q.st = p.st) (hi : q.ins = p.ins) (ho : q.outs = p.outs) (hf : q.flows.Perm p.flows) : pgOk q = pgOk p := by
  unfold pgOk roomOk
  rw [hs, hi, ho, hf.length_eq, all_perm hf]
theorem nmErr_perm {p q : Pg} (hs : q.st = p.st) (hi : q.ins = p.ins) (ho : q.outs = p.outs) (hf : q.flows.Perm p.flows) : nmErr q = nmErr p := by
  unfold nmErr
  rw [pgOk_perm hs hi ho hf, nmOk_perm hi ho hf]
end Go.Proofs.YtmlapodhpinhmaaDoor.Lex
namespace Go.Proofs.YtmlapodhpinhmaaDoor.Lex
open Go.ChangeShapes Go.WideShapes Go.ChangeAt Go.RowKit Go.Shelf
theorem heap_setCells_other {b j : Nat} (hj : j ≠ b) : ∀ (vs : List Value) (o : Nat) (w : World), (w.setCells b o vs).heap[j]? = w.heap[j]?
  | [], _, _ => rfl
  | v :: r, o, w => by
    rw [World.setCells, heap_setCells_other hj r (o + 1)]
    exact Below.heap_setCell _ _ _ _ hj
theorem grown_setCells (b : Nat) : ∀ (vs : List Value) (o : Nat) (w : World), w.grownBy (w.setCells b o vs) (some b)
  | [], _, w => ⟨rfl, rfl, rfl, Nat.le_refl _, fun _ _ _ => rfl⟩
  | v :: r, o, w => by
    have h := grown_setCells b r (o + 1) (w.setCell ⟨b, o, none⟩ v)
    have g : w.grownBy (w.setCell ⟨b, o, none⟩ v) (some b) := ⟨rfl, rfl, rfl, by simp, fun k _ h => Below.heap_setCell _ _ _ _ (fun e => h (by rw [e]))⟩
    exact ⟨h.os.trans g.os, h.tape.trans g.tape, h.output.trans g.output, Nat.le_trans g.size h.size, fun k hk hn => (h.block k (Nat.lt_of_lt_of_le hk g.size) hn).trans (g.block k hk hn)⟩
theorem Blk.set {b t c cap : Nat} : ∀ (vs : List Value) (o : Nat) (w : World), Blk w b t c cap → Blk (w.setCells b o vs) b t c cap
  | [], _, _, h => h
  | v :: r, o, w, h => by
    obtain ⟨cur, h1, h2, h3⟩ := h
    rw [World.setCells]
    exact Blk.set r (o + 1) _ ⟨_, set_same h1 o v, by simpa using h2, h3⟩
theorem Blk.keep {w w' : World} {b t c cap : Nat} (h : Blk w b t c cap) (hb : Below w.heap.size w w') : Blk w' b t c cap := h.carry (lo := 0) (fun b _ hlt => hb.block b hlt) (Nat.zero_le _)
theorem Blk.there {w : World} {b t c cap o n : Nat} (h : Blk w b t c cap) (ho : o + n ≤ cap * c) : w.there b o n := by
  obtain ⟨cur, h1, h2, _⟩ := h
  intro j hj
  refine ⟨?_, ?_⟩
  · rw [cell_of_row w b (o + j) cur t (0, 0) h1]
    have : o + j < cur.size := by omega
    simp [this]
  · unfold World.frozen?
    rw [h1]
    simp
theorem InsAt.apart {w W : World} {l : List Hd} {b0 n c fb : Nat} (h : InsAt w l (.slice (some ⟨b0, 0, none⟩) n c)) (hne : b0 ≠ fb) (hk : ∀ b, b < w.heap.size → b ≠ fb → W.heap[b]? = w.heap[b]?) : InsAt W l (.slice (some ⟨b0, 0, none⟩) n c) := by
  obtain ⟨ao, cap, e, h1, h2, h3, h4⟩ := h
  refine ⟨ao, cap, e, h1, h2, h3, h4.imp_right ?_⟩
  rintro ⟨b, o, ha, hc⟩
  refine ⟨b, o, ha, fun i hi => ?_⟩
  subst ha
  injection e with e1 _ _
  injection e1 with e1
  injection e1 with e1 _ _
  subst e1
  have k : ∀ {o v}, w.cell? ⟨b0, o, none⟩ = some v → W.cell? ⟨b0, o, none⟩ = some v := fun {o v} h => by
    rw [World.cell?_of_block (w := w) (a := ⟨b0, o, none⟩) (hk b0 (World.block_lt_of_cell? w _ h) hne)]
    exact h
  exact ⟨k (hc i hi).1, k (hc i hi).2.1, k (hc i hi).2.2⟩
theorem TextsAt.apart {w W : World} {l : List ByteArray} {b0 n c fb : Nat} (h : TextsAt w l (.slice (some ⟨b0, 0, none⟩) n c)) (hne : b0 ≠ fb) (hk : ∀ b, b < w.heap.size → b ≠ fb → W.heap[b]? = w.heap[b]?) : TextsAt W l (.slice (some ⟨b0, 0, none⟩) n c) := by
  obtain ⟨ao, cap, e, h1, h2, h3, h4⟩ := h
  refine ⟨ao, cap, e, h1, h2, h3, h4.imp_right ?_⟩
  rintro ⟨b, o, ha, hc⟩
  refine ⟨b, o, ha, fun i hi => ?_⟩
  subst ha
  injection e with e1 _ _
  injection e1 with e1
  injection e1 with e1 _ _
  subst e1
  rw [World.cell?_of_block (w := w) (a := ⟨b0, o + i, none⟩) (hk b0 (World.block_lt_of_cell? w _ (hc i hi)) hne)]
  exact hc i hi
theorem Blk.ne {w : World} {b b' t t' c c' cap cap' : Nat} (h : Blk w b t c cap) (h' : Blk w b' t' c' cap') (ht : t ≠ t') : b ≠ b' := by
  rintro rfl
  obtain ⟨cur, h1, _⟩ := h
  obtain ⟨cur', h1', _⟩ := h'
  rw [h1] at h1'
  injection h1' with h1'
  injection h1' with _ e _
  exact ht e
/-- While the flows are turned. -/
structure TQ (w w9 : World) (p : Pg) (A B C a' c' : Value) (fb cap : Nat) (sl : Nat → Value) (k : Nat) (W : World) : Prop where
  below : Below w.heap.size w W
  row : W.heap[w.heap.size]? = some (.cells (pgC p A B C) 26 (0, 0))
  qrow : W.heap[w9.heap.size]? = some (.cells (pgC p a' (.slice (some ⟨fb, 0, none⟩) p.flows.length cap) c') 26 (0, 0))
  same : ∀ b, b < w9.heap.size → b ≠ fb → W.heap[b]? = w9.heap[b]?
  blk : Blk W fb 55 8 cap
  done : ∀ i (h : i < p.flows.length), i < k → FlCells W fb (i * 8) (p.flows[p.flows.length - 1 - i]) (sl (p.flows.length - 1 - i))
theorem TQ.start {w w9 : World} {p : Pg} {A B C a' c' : Value} {fb cap : Nat} {sl : Nat → Value} (h : FV w p A B C w9) (hb : Blk w9 fb 55 8 cap) :
    TQ w w9 p A B C a' c' fb cap sl 0 (w9.alloc (.cells #[.int .i64 p.st, a', .slice (some ⟨fb, 0, none⟩) p.flows.length cap, c'] 26)) where
  below := h.below.alloc h.below.size _
  row := push_old h.row
  qrow := push_new _ _ _ rfl
  same := fun b hb _ => Below.heap_alloc _ _ _ hb
  blk := hb.keep ((Below.refl _ _).alloc (Nat.le_refl _) _)
  done := fun i _ h => by omega
theorem TQ.keep {w w9 : World} {p : Pg} {A B C a' c' : Value} {fb cap : Nat} {sl : Nat → Value} {k : Nat} {W W' : World} (h : TQ w w9 p A B C a' c' fb cap sl k W) (hb : Below W.heap.size W W') : TQ w w9 p A B C a' c' fb cap sl k W' where
  below := h.below.trans (hb.mono h.below.size)
  row := keep_row h.row hb
  qrow := keep_row h.qrow hb
  same := fun b h1 h2 => (hb.block b (Nat.lt_of_lt_of_le (Nat.lt_of_lt_of_le h1 (Nat.le_of_lt (Array.getElem?_eq_some_iff.1 h.qrow).1)) (Nat.le_refl _))).trans (h.same b h1 h2)
  blk := h.blk.keep hb
  done := fun i h1 h2 => (h.done i h1 h2).keep hb
theorem TQ.store {w w9 : World} {p : Pg} {A B C a' c' : Value} {fb cap : Nat} {sl : Nat → Value} {k m : Nat} {W : World} (h : TQ w w9 p A B C a' c' fb cap sl k W) (h1 : w.heap.size < fb) (h2 : fb < w9.heap.size) (hc : p.flows.length < cap) (hm : p.flows.length = k + 1 + m) (y : Fl) (hy : p.flows[m]'(by omega) = y) (s : Value) (hs : sl m = s) : TQ w w9 p A B C a' c' fb cap sl (k + 1) (W.setCells fb (k * 8) (flL y s)) where
  below := h.below.grown (grown_setCells _ _ _ _) h.below.size (fun j hj => by cases hj; omega)
  row := by rw [heap_setCells_other (by omega)]; exact h.row
  qrow := by rw [heap_setCells_other (by omega)]; exact h.qrow
  same := fun b hb hn => by rw [heap_setCells_other hn]; exact h.same b hb hn
  blk := h.blk.set _ _ _
  done := fun i hi hik => by
    have ht := h.blk.there (o := k * 8) (n := 8) (by omega)
    by_cases e : i = k
    · subst e
      have C := World.rangeAt_setCells_same W fb (i * 8) (flL y s) ht
      have e1 : p.flows.length - 1 - i = m := by omega
      subst hy hs
      simp only [e1]
      exact ⟨C 0 _ rfl, C 1 _ rfl, C 2 _ rfl, C 3 _ rfl, C 4 _ rfl, C 5 _ rfl, C 6 _ rfl, C 7 _ rfl⟩
    · obtain ⟨d0, d1, d2, d3, d4, d5, d6, d7⟩ := h.done i hi (by omega)
      have k' : ∀ {o v}, o < k * 8 → W.cell? ⟨fb, o, none⟩ = some v → (W.setCells fb (k * 8) (flL y s)).cell? ⟨fb, o, none⟩ = some v := fun {o v} ho hv => by
        rw [World.cell?_setCells_out fb _ _ _ _ (fun _ _ => Or.inl ho)]; exact hv
      exact ⟨k' (by omega) d0, k' (by omega) d1, k' (by omega) d2, k' (by omega) d3, k' (by omega) d4, k' (by omega) d5, k' (by omega) d6, k' (by omega) d7⟩
/-- The program with its flows turned. -/
abbrev revP (p : Pg) : Pg := { p with flows := p.flows.reverse }
theorem TQ.pg {w w9 : World} {p : Pg} {A B C a' c' : Value} {fb cap : Nat} {sl : Nat → Value} {W : World} {lo : Nat} (h : TQ w w9 p A B C a' c' fb cap sl p.flows.length W)
    (hT : TwPg w9 lo p a' (.slice (some ⟨fb, 0, none⟩) p.flows.length cap) c') (hS : ∀ i (h : i < p.flows.length), St w p.flows[i].body (sl i)) :
    PgAt W (revP p) a' (.slice (some ⟨fb, 0, none⟩) p.flows.length cap) c' := by
  obtain ⟨b1, c1, e1, _, _, _, _, _, _, k1⟩ := id hT.ins
  obtain ⟨b3, c3, e3, _, _, _, _, _, _, k3⟩ := id hT.outs
  obtain ⟨b2, c2, sl2, e2, _, g1, g2, g3, _, _, _, k2⟩ := id hT.flows
  injection e2 with e2 _ e4
  injection e2 with e2
  injection e2 with e2 _ _
  subst e2 e4
  have hi := hT.ins.at
  have ho := hT.outs.at
  rw [e1] at hi ⊢
  rw [e3] at ho ⊢
  refine ⟨hT.st, hi.apart (k1.ne k2 (by decide)) h.same, ?_, ho.apart (k3.ne k2 (by decide)) h.same⟩
  refine ⟨some ⟨fb, 0, none⟩, cap, fun i => sl (p.flows.length - 1 - i), by simp, by simpa using g1, by simp; omega, fun x hx => g3 x (by simpa using hx), .inr ⟨fb, 0, rfl, fun i hi => ?_⟩, fun i hi => ?_⟩
  · have hi' : i < p.flows.length := by simpa using hi
    have := h.done i hi' hi'
    simpa using this
  · have hi' : i < p.flows.length := by simpa using hi
    have := (hS (p.flows.length - 1 - i) (by omega)).keep h.below
    simpa using this
end Go.Proofs.YtmlapodhpinhmaaDoor.Lex
namespace Go.Proofs.YtmlapodhpinhmaaDoor.Lex
theorem cntN_app (a b : List ByteArray) (u : List UInt8) : cntN (a ++ b) u = cntN a u + cntN b u := by
  unfold cntN; rw [List.filter_append, List.length_append]
theorem cntN_cons (s : ByteArray) (l : List ByteArray) (u : List UInt8) : cntN (s :: l) u = (if u = s.data.toList then 1 else 0) + cntN l u := by
  unfold cntN
  by_cases e : u = s.data.toList
  · simp [e]; omega
  · simp [e]
theorem nmOk_parts {p : Pg} : nmOk p = true ↔ (∀ s ∈ namesOf p, ¬ 1 < cntN (namesOf p) s.data.toList) ∧ (∀ s ∈ askedL p, cntN (namesOf p) s.data.toList ≠ 0) ∧ (∀ s ∈ p.outs, cntN (namesOf p) s.data.toList ≠ 0 ∧ ¬ 1 < cntO p.outs s.data.toList) := by
  unfold nmOk
  rw [all_names p (fun s => !twice p s)]
  simp only [Bool.and_eq_true, List.all_eq_true]
  unfold twice none_ told
  simp only [cntT_names]
  simp
/-- Without its outs. -/
theorem less_outs {p : Pg} (hp : pgOk p = true) (hn : nmOk p = true) : nmErr { p with outs := [] } = 0 := by
  have h1 : pgOk { p with outs := [] } = true := by
    unfold pgOk roomOk at hp ⊢
    simp only [Bool.and_eq_true, decide_eq_true_eq, List.all_nil, List.length_nil, and_true] at hp ⊢
    exact ⟨⟨hp.1.1, hp.1.2.1, hp.1.2.2.1, by omega⟩, hp.2.1, hp.2.2.1⟩
  have h2 : nmOk { p with outs := [] } = true := by
    rw [nmOk_parts] at hn ⊢
    exact ⟨hn.1, hn.2.1, fun s hs => by cases hs⟩
  unfold nmErr
  rw [h1, h2]; rfl
/-- With a flow that is there twice. -/
theorem twice_flow {p : Pg} (hp : pgOk p = true) (k : Nat) (hk : k < p.flows.length) : nmErr { p with flows := p.flows ++ [p.flows[k]] } = if p.flows.length + 1 ≤ 128 then 6 else 1 := by
  have h2 : nmOk { p with flows := p.flows ++ [p.flows[k]] } = false := by
    cases e : nmOk { p with flows := p.flows ++ [p.flows[k]] } with
    | false => rfl
    | true =>
      rw [nmOk_parts] at e
      have hm : p.flows[k].name ∈ namesOf { p with flows := p.flows ++ [p.flows[k]] } := by unfold namesOf; simp
      have h := e.1 _ hm
      refine (h ?_).elim
      unfold namesOf
      simp only [List.map_append, List.map_cons, List.map_nil]
      rw [cntN_app, cntN_app, cntN_cons]
      have hin : p.flows[k].name ∈ p.flows.map (·.name) := List.mem_map.2 ⟨_, List.getElem_mem hk, rfl⟩
      have : 1 ≤ cntN (p.flows.map (·.name)) p.flows[k].name.data.toList := by
        unfold cntN
        exact List.length_pos_of_mem (List.mem_filter.2 ⟨hin, by simp⟩)
      simp
      omega
  unfold nmErr
  rw [h2]
  have h1 : pgOk { p with flows := p.flows ++ [p.flows[k]] } = decide (p.flows.length + 1 ≤ 128) := by
    rw [Bool.eq_iff_iff, decide_eq_true_eq]
    unfold pgOk roomOk at hp ⊢
    simp only [Bool.and_eq_true, decide_eq_true_eq, List.all_append, List.length_append, List.length_cons, List.length_nil, List.all_cons, List.all_nil, and_true] at hp ⊢
    constructor
    · intro h; exact h.1.2.2.1
    · intro h
      exact ⟨⟨hp.1.1, hp.1.2.1, by omega, by omega⟩, hp.2.1, ⟨hp.2.2.1, List.all_eq_true.1 hp.2.2.1 _ (List.getElem_mem hk)⟩, hp.2.2.2⟩
  rw [h1]
  by_cases hh : p.flows.length + 1 ≤ 128
  · simp [hh]
  · simp [hh]
theorem erase_perm {α : Type} (l : List α) (k : Nat) (hk : k < l.length) : l.Perm (l[k] :: (l.take k ++ l.drop (k + 1))) := by
  have h : l = l.take k ++ l[k] :: l.drop (k + 1) := by
    conv => lhs; rw [← List.take_append_drop k l, List.drop_eq_getElem_cons hk]
  conv => lhs; rw [h]
  exact List.perm_middle
/-- Without its outs, and without a flow: it is checked just if nobody asks for that. -/
theorem less_flow {p : Pg} (hp : pgOk p = true) (hn : nmOk p = true) (k : Nat) (hk : k < p.flows.length) :
    nmErr { p with flows := p.flows.take k ++ p.flows.drop (k + 1), outs := [] } = if (p.flows.take k ++ p.flows.drop (k + 1)).all (fun f => (asksOf f).all fun s => !decide (p.flows[k].name.data.toList = s.data.toList)) then 0 else 6 := by
  have hperm := erase_perm p.flows k hk
  have hsub : ∀ f ∈ p.flows.take k ++ p.flows.drop (k + 1), f ∈ p.flows := fun f hf => hperm.mem_iff.2 (List.mem_cons_of_mem _ hf)
  have hlen := hperm.length_eq
  simp only [List.length_cons] at hlen
  have hc : ∀ u, cntN (namesOf p) u = (if u = p.flows[k].name.data.toList then 1 else 0) + cntN (namesOf { p with flows := p.flows.take k ++ p.flows.drop (k + 1), outs := [] }) u := fun u => by
    unfold namesOf
    rw [cntN_app, cntN_perm (hperm.map _) u, List.map_cons, cntN_cons, cntN_app]
    dsimp only
    omega
  generalize p.flows.take k ++ p.flows.drop (k + 1) = l at *
  have h1 : pgOk { p with flows := l, outs := [] } = true := by
    unfold pgOk roomOk at hp ⊢
    simp only [Bool.and_eq_true, decide_eq_true_eq, List.all_nil, List.length_nil, and_true, List.all_eq_true] at hp ⊢
    exact ⟨⟨hp.1.1, hp.1.2.1, by omega, by omega⟩, hp.2.1, fun f hf => hp.2.2.1 f (hsub f hf)⟩
  have h2 : nmOk { p with flows := l, outs := [] } = l.all (fun f => (asksOf f).all fun s => !decide (p.flows[k].name.data.toList = s.data.toList)) := by
    rw [nmOk_parts] at hn
    rw [Bool.eq_iff_iff, nmOk_parts]
    simp only [List.all_eq_true]
    have hmem : ∀ s ∈ namesOf { p with flows := l, outs := [] }, s ∈ namesOf p := fun s hs => by
      unfold namesOf at hs ⊢
      rcases List.mem_append.1 hs with hs | hs
      · exact List.mem_append_left _ hs
      · obtain ⟨f, hf, rfl⟩ := List.mem_map.1 hs
        exact List.mem_append_right _ (List.mem_map.2 ⟨f, hsub f hf, rfl⟩)
    have hask : ∀ f ∈ l, ∀ s ∈ asksOf f, s ∈ askedL p := fun f hf s hs => List.mem_flatMap.2 ⟨f, hsub f hf, hs⟩
    constructor
    · intro h f hf s hs
      have h3 := h.2.1 s (List.mem_flatMap.2 ⟨f, hf, hs⟩)
      have h4 := hc s.data.toList
      have h5 : ¬ p.flows[k].name.data.toList = s.data.toList := fun e => by
        rw [← e] at h3 h4
        rw [if_pos rfl] at h4
        have := hn.1 p.flows[k].name (by unfold namesOf; exact List.mem_append_right _ (List.mem_map.2 ⟨_, List.getElem_mem hk, rfl⟩))
        omega
      simp [h5]
    · intro h
      refine ⟨fun s hs => ?_, fun s hs => ?_, fun s hs => by cases hs⟩
      · have h3 := hn.1 s (hmem s hs)
        have h4 := hc s.data.toList
        omega
      · obtain ⟨f, hf, hs⟩ := List.mem_flatMap.1 hs
        have h3 := hn.2.1 s (hask f hf s hs)
        have h4 := hc s.data.toList
        have h5 := h f hf s hs
        simp only [Bool.not_eq_true', decide_eq_false_iff_not] at h5
        rw [if_neg (fun e => h5 e.symm)] at h4
        omega
  unfold nmErr
  rw [h1, h2]; rfl
end Go.Proofs.YtmlapodhpinhmaaDoor.Lex
namespace Go.Proofs.YtmlapodhpinhmaaDoor.Lex
open Go.ChangeShapes Go.WideShapes Go.ChangeAt Go.RowKit Go.Shelf
theorem fz_row {W : World} {b : Nat} {c : Array Value} {t : TypeId} (h : W.heap[b]? = some (.cells c t (0, 0))) (k : Nat) : W.frozen? ⟨b, k, none⟩ = false := by
  unfold World.frozen?
  rw [h]
  simp
/-- The rows of flows, each with its body's row. -/
abbrev esF (ps : List (Fl × Value)) : List (List Value) := ps.map fun (q : Fl × Value) => flL q.1 q.2
theorem esF_each (ps : List (Fl × Value)) : ∀ e ∈ esF ps, e.length = 8 := fun e he => by
  obtain ⟨q, _, rfl⟩ := List.mem_map.1 he
  rfl
theorem own_flows {X : World} {lo : Nat} {v : Value} {ps : List (Fl × Value)} (hown : X.ownsRow lo 55 8 v ps.length (esF ps).flatten) (hlen : ps.length ≤ 1466015503658) (hok : ∀ q ∈ ps, q.1.ok) (hst : ∀ q ∈ ps, St X q.1.body q.2) : FlowsAt X (ps.map (·.1)) v := by
  have hx : ∀ k, k < ps.length * 8 → ∀ g cap, v = .slice (some ⟨g, 0, none⟩) ps.length cap → X.cell? ⟨g, k, none⟩ = (esF ps).flatten[k]? := fun k hk g cap e => by subst e; exact hown.cellAt k hk
  have hst' : ∀ i (h : i < (ps.map fun (q : Fl × Value) => q.1).length), St X (ps.map fun (q : Fl × Value) => q.1)[i].body ((ps[i]?.map (·.2)).getD (.slice none 0 0)) := fun i hi => by
    have hi' : i < ps.length := by simpa using hi
    rw [List.getElem?_eq_getElem hi']
    simpa using hst ps[i] (List.getElem_mem hi')
  have hok' : ∀ x ∈ ps.map (·.1), x.ok := fun x hx => by
    obtain ⟨q, hq, rfl⟩ := List.mem_map.1 hx
    exact hok q hq
  rcases hown.2 with ⟨h, h0⟩ | ⟨g, cap, cur, e, _, _, hcap, _⟩
  · exact ⟨none, 0, fun i => (ps[i]?.map (·.2)).getD (.slice none 0 0), by rw [h]; simp [h0], by simpa using hlen, by simp [h0], hok', .inl (by simpa using h0), hst'⟩
  · refine ⟨some ⟨g, 0, none⟩, cap, fun i => (ps[i]?.map (·.2)).getD (.slice none 0 0), by rw [e]; simp, by simpa using hlen, by simpa using hcap, hok', .inr ⟨g, 0, rfl, fun i hi => ?_⟩, hst'⟩
    have hi' : i < ps.length := by simpa using hi
    have he : (esF ps)[i]? = some (flL ps[i].1 ps[i].2) := by rw [List.getElem?_map, List.getElem?_eq_getElem hi']; rfl
    have c : ∀ j u, (flL ps[i].1 ps[i].2)[j]? = some u → X.cell? ⟨g, i * 8 + j, none⟩ = some u := fun j u hu => by
      have hj : j < 8 := (List.getElem?_eq_some_iff.1 hu).1
      rw [hx _ (by omega) g cap e]
      have := flat_at (rest := []) (esF_each ps) he hj
      rw [List.append_nil] at this
      rw [this]
      exact hu
    dsimp only
    rw [List.getElem?_eq_getElem hi']
    simp only [Nat.zero_add, List.getElem_map]
    exact ⟨c 0 _ rfl, c 1 _ rfl, c 2 _ rfl, c 3 _ rfl, c 4 _ rfl, c 5 _ rfl, c 6 _ rfl, c 7 _ rfl⟩
theorem TwFlows.own {w : World} {lo : Nat} {l : List Fl} {s : Value} (h : TwFlows w lo l s) : ∃ (ps : List (Fl × Value)) (fb cap : Nat), s = .slice (some ⟨fb, 0, none⟩) l.length cap ∧ ps.map (·.1) = l ∧ w.ownsRow lo 55 8 s l.length (esF ps).flatten ∧ ∀ q ∈ ps, Tw w (fb + 1) q.1.body q.2 := by
  obtain ⟨b, cap, sl, rfl, h1, h2, h3, h4, h5, h6, h7, cur, k1, k2, k3⟩ := h
  have hf : (List.ofFn fun (i : Fin l.length) => ((l[i], sl i) : Fl × Value)).map (·.1) = l := by
    apply List.ext_getElem
    · simp
    · intro i h1 h2; simp
  refine ⟨List.ofFn fun (i : Fin l.length) => (l[i], sl i), b, cap, rfl, hf, ⟨?_, .inr ⟨b, cap, cur, rfl, h1, k1, by omega, k3, k2, ?_⟩⟩, ?_⟩
  · rw [flat_len (esF_each _)]; simp
  · apply List.ext_getElem?
    intro k
    by_cases hk : k < l.length * 8
    · rw [List.getElem?_take_of_lt (by simpa using hk)]
      have hi : k / 8 < l.length := by omega
      have e : k = k / 8 * 8 + k % 8 := by omega
      have he : (esF (List.ofFn fun (i : Fin l.length) => ((l[i], sl i) : Fl × Value)))[k / 8]? = some (flL l[k / 8] (sl (k / 8))) := by
        rw [List.getElem?_map, List.getElem?_eq_getElem (by simpa using hi)]
        simp
      have f := flat_at (rest := []) (j := k % 8) (esF_each _) he (by omega)
      rw [List.append_nil] at f
      conv => rhs; rw [e]
      rw [f]
      have c : ∀ j, w.cell? ⟨b, k / 8 * 8 + j, none⟩ = cur[k / 8 * 8 + j]? := fun j => cell_of_row w b _ cur 55 (0, 0) k1
      obtain ⟨d0, d1, d2, d3, d4, d5, d6, d7⟩ := h5 (k / 8) hi
      have hj : k % 8 < 8 := by omega
      rw [Array.getElem?_toList]
      conv => lhs; rw [e]
      rw [← c]
      generalize k % 8 = j at hj ⊢
      match j, hj with
      | 0, _ => simpa using d0
      | 1, _ => simpa using d1
      | 2, _ => simpa using d2
      | 3, _ => simpa using d3
      | 4, _ => simpa using d4
      | 5, _ => simpa using d5
      | 6, _ => simpa using d6
      | 7, _ => simpa using d7
    · rw [List.getElem?_eq_none (by simp; omega), List.getElem?_eq_none (by rw [flat_len (esF_each _)]; simp; omega)]
  · intro q hq
    obtain ⟨i, rfl⟩ := List.mem_ofFn.1 hq
    exact h7 i i.2
/-- The twin whose outs and flows are exchanged. -/
structure QV (w9 : World) (st : Int) (a' b' c' : Value) (W : World) : Prop where
  below : Below w9.heap.size w9 W
  row : W.heap[w9.heap.size]? = some (.cells #[.int .i64 st, a', b', c'] 26 (0, 0))
theorem QV.new (w9 : World) (st : Int) (a' b' c' : Value) : QV w9 st a' b' c' (w9.alloc (.cells #[.int .i64 st, a', b', c'] 26)) := ⟨(Below.refl _ _).alloc (Nat.le_refl _) _, push_new _ _ _ rfl⟩
theorem QV.keep {w9 W W' : World} {st : Int} {a' b' c' : Value} (h : QV w9 st a' b' c' W) (hb : Below W.heap.size W W') : QV w9 st a' b' c' W' := ⟨h.below.trans (hb.mono h.below.size), keep_row h.row hb⟩
theorem QV.outs {w9 W : World} {st : Int} {a' b' c' : Value} (h : QV w9 st a' b' c' W) (u : Value) : QV w9 st a' b' u (W.setCell ⟨w9.heap.size, 3, none⟩ u) := ⟨h.below.setCell (p := ⟨w9.heap.size, 3, none⟩) (Nat.le_refl _) _, by rw [set_same h.row]; rfl⟩
theorem QV.flows {w9 W : World} {st : Int} {a' b' c' : Value} (h : QV w9 st a' b' c' W) (u : Value) : QV w9 st a' u c' (W.setCell ⟨w9.heap.size, 2, none⟩ u) := ⟨h.below.setCell (p := ⟨w9.heap.size, 2, none⟩) (Nat.le_refl _) _, by rw [set_same h.row]; rfl⟩
theorem texts_nil (W : World) : TextsAt W [] (.slice none 0 0) := ⟨none, 0, rfl, by decide, Nat.le_refl _, (fun x hx => by cases hx), .inl rfl⟩
theorem QV.pg {w9 W : World} {p : Pg} {lo : Nat} {a' b' c' u : Value} (h : QV w9 p.st a' b' u W) (hT : TwPg w9 lo p a' b' c') : PgAt W { p with outs := [] } a' b' (.slice none 0 0) :=
  ⟨hT.st, (hT.keep h.below).at.ins, (hT.keep h.below).at.flows, texts_nil W⟩
theorem QV.pg2 {w9 W : World} {p : Pg} {lo : Nat} {a' b' c' : Value} {l : List Fl} {v : Value} (h : Below w9.heap.size w9 W) (hT : TwPg w9 lo p a' b' c') (hF : FlowsAt W l v) : PgAt W { p with flows := l, outs := [] } a' v (.slice none 0 0) :=
  ⟨hT.st, (hT.keep h).at.ins, hF, texts_nil W⟩
/-- The twin with one more flow. -/
structure TV (lo : Nat) (p : Pg) (y : Fl) (s a2 v2 c2 : Value) (kt : Nat) (W : World) : Prop where
  row : W.heap[kt]? = some (.cells #[.int .i64 p.st, a2, v2, c2] 26 (0, 0))
  hi : lo ≤ kt
  st : -9223372036854775808 ≤ p.st ∧ p.st ≤ 9223372036854775807
  ins : TwIns W lo p.ins a2
  outs : TwTexts W lo p.outs c2
  flows : ∃ ps : List (Fl × Value), ps.map (·.1) = p.flows ∧ W.ownsRow lo 55 8 v2 (ps ++ [(y, s)]).length (esF (ps ++ [(y, s)])).flatten ∧ ∀ q ∈ ps, Tw W lo q.1.body q.2
theorem own_carry {w W : World} {lo t c n : Nat} {v : Value} {xs : List Value} (h : w.ownsRow lo t c v n xs) (hb : ∀ b, lo ≤ b → b < w.heap.size → W.heap[b]? = w.heap[b]?) : W.ownsRow lo t c v n xs := by
  refine ⟨h.1, h.2.imp_right ?_⟩
  rintro ⟨g, cap, cur, e, h1, h2, rest⟩
  exact ⟨g, cap, cur, e, h1, (hb g h1 (Array.getElem?_eq_some_iff.1 h2).1).trans h2, rest⟩
theorem TV.carry {lo : Nat} {p : Pg} {y : Fl} {s a2 v2 c2 : Value} {kt : Nat} {W W' : World} (h : TV lo p y s a2 v2 c2 kt W) (hb : ∀ b, lo ≤ b → b < W.heap.size → W'.heap[b]? = W.heap[b]?) : TV lo p y s a2 v2 c2 kt W' := by
  obtain ⟨ps, h1, h2, h3⟩ := h.flows
  exact ⟨(hb kt h.hi (Array.getElem?_eq_some_iff.1 h.row).1).trans h.row, h.hi, h.st, h.ins.carry hb (Nat.le_refl _), h.outs.carry hb (Nat.le_refl _), ps, h1, own_carry h2 hb, fun q hq => Tw.carryN hb (Nat.le_refl _) _ _ _ (Nat.le_refl _) (h3 q hq)⟩
theorem TV.keep {lo : Nat} {p : Pg} {y : Fl} {s a2 v2 c2 : Value} {kt : Nat} {W W' : World} (h : TV lo p y s a2 v2 c2 kt W) (hb : Below W.heap.size W W') : TV lo p y s a2 v2 c2 kt W' := h.carry (fun b _ hlt => hb.block b hlt)
theorem TV.pg {lo : Nat} {p : Pg} {y : Fl} {s a2 v2 c2 : Value} {kt : Nat} {W : World} (h : TV lo p y s a2 v2 c2 kt W) (hl : p.flows.length ≤ 128) (hok : ∀ x ∈ p.flows, x.ok) (hy : y.ok) (hS : St W y.body s) : PgAt W { p with flows := p.flows ++ [y] } a2 v2 c2 := by
  obtain ⟨ps, h1, h2, h3⟩ := h.flows
  have hlen : ps.length = p.flows.length := by rw [← h1]; simp
  have := own_flows h2 (by simp; omega) (fun q hq => by
    rcases List.mem_append.1 hq with hq | hq
    · exact hok _ (by rw [← h1]; exact List.mem_map_of_mem hq)
    · rw [List.mem_singleton.1 hq]; exact hy) (fun q hq => by
    rcases List.mem_append.1 hq with hq | hq
    · exact (h3 q hq).st
    · rw [List.mem_singleton.1 hq]; exact hS)
  rw [List.map_append, h1] at this
  exact ⟨h.st, h.ins.at, this, h.outs.at⟩
theorem HdCells.blk {w W : World} {b p : Nat} {x : Hd} (h : HdCells w b p x) (hb : W.heap[b]? = w.heap[b]?) : HdCells W b p x := by
  have k : ∀ {o v}, w.cell? ⟨b, o, none⟩ = some v → W.cell? ⟨b, o, none⟩ = some v := fun {o v} h => by
    rw [World.cell?_of_block (w := w) (a := ⟨b, o, none⟩) hb]; exact h
  exact ⟨k h.1, k h.2.1, k h.2.2⟩
theorem TwIns.apart {w W : World} {lo : Nat} {l : List Hd} {s : Value} {fb c cap : Nat} (h : TwIns w lo l s) (hf : Blk w fb 55 c cap) (hk : ∀ b, b < w.heap.size → b ≠ fb → W.heap[b]? = w.heap[b]?) : TwIns W lo l s := by
  obtain ⟨b, cp, rfl, h1, h2, h3, h4, h5, h6, h8⟩ := h
  have hne := h8.ne hf (by decide)
  have hb : W.heap[b]? = w.heap[b]? := by
    obtain ⟨cur, e, _⟩ := h8
    exact hk b (Array.getElem?_eq_some_iff.1 e).1 hne
  exact ⟨b, cp, rfl, h1, h2, h3, h4, fun i hi => (h5 i hi).blk hb, h6.blk hb, by obtain ⟨cur, e, r⟩ := h8; exact ⟨cur, hb.trans e, r⟩⟩
theorem TwTexts.apart {w W : World} {lo : Nat} {l : List ByteArray} {s : Value} {fb c cap : Nat} (h : TwTexts w lo l s) (hf : Blk w fb 55 c cap) (hk : ∀ b, b < w.heap.size → b ≠ fb → W.heap[b]? = w.heap[b]?) : TwTexts W lo l s := by
  obtain ⟨b, cp, rfl, h1, h2, h3, h4, h5, h6, h8⟩ := h
  have hne := h8.ne hf (by decide)
  have hb : W.heap[b]? = w.heap[b]? := by
    obtain ⟨cur, e, _⟩ := h8
    exact hk b (Array.getElem?_eq_some_iff.1 e).1 hne
  have k : ∀ {o v}, w.cell? ⟨b, o, none⟩ = some v → W.cell? ⟨b, o, none⟩ = some v := fun {o v} h => by
    rw [World.cell?_of_block (w := w) (a := ⟨b, o, none⟩) hb]; exact h
  exact ⟨b, cp, rfl, h1, h2, h3, h4, fun i hi => k (h5 i hi), k h6, by obtain ⟨cur, e, r⟩ := h8; exact ⟨cur, hb.trans e, r⟩⟩
theorem tv_grown {w12 w6 : World} {fb : Nat} {o : Obj} {c : Array Value} (hf : fb < w12.heap.size) (hg : ((w12.alloc (.cells c 26)).alloc o).drew.grownBy w6 (some fb)) :
    (∀ b, b < w12.heap.size → b ≠ fb → w6.heap[b]? = w12.heap[b]?) ∧ w6.heap[w12.heap.size]? = some (.cells c 26 (0, 0)) ∧ w12.heap.size < w6.heap.size ∧ w6.os = w12.os ∧ w6.tape = w12.tape ∧ w6.output = w12.output := by
  have sz : ((w12.alloc (.cells c 26)).alloc o).drew.heap.size = w12.heap.size + 2 := by simp
  have hs := hg.size
  refine ⟨fun b hb hn => ?_, ?_, by omega, hg.os, hg.tape, hg.output⟩
  · rw [hg.block b (by omega) (by intro e; injection e with e; omega)]
    exact (Below.heap_alloc _ _ _ (by simp; omega)).trans (Below.heap_alloc _ _ _ hb)
  · rw [hg.block w12.heap.size (by omega) (by intro e; injection e with e; omega)]
    exact push_old (push_new _ _ _ rfl)
theorem news12 (w12 : World) (o1 : Obj) (y : Fl) (s : Value) : ∀ j u, (flL y s)[j]? = some u → ((w12.alloc o1).alloc (.cells (flL y s).toArray 55)).drew.cell? ((⟨w12.heap.size + 1, 0, none⟩ : Addr).add j) = some u := by
  intro j u hj
  have := next_cells (w12.alloc o1) (flL y s) 55 j u hj
  have e : (w12.alloc o1).heap.size = w12.heap.size + 1 := by simp
  rw [e] at this
  exact this
theorem tv_done {w12 w6 : World} {lo n : Nat} {p : Pg} {y : Fl} {s a2 c2 : Value} {fb cap0 gg cap : Nat} {o : Obj} {ps : List (Fl × Value)} (hT : TwPg w12 lo p a2 (.slice (some ⟨fb, 0, none⟩) p.flows.length cap0) c2) (hlo : lo ≤ w12.heap.size)
    (hps : ps.map (·.1) = p.flows) (hTw : ∀ q ∈ ps, Tw w12 (fb + 1) q.1.body q.2) (hn : n = p.flows.length)
    (hown : w6.ownsRow lo 55 8 (.slice (some ⟨gg, 0, none⟩) (n + 1) cap) (n + 1) ((esF ps).flatten ++ flL y s))
    (hg : ((w12.alloc (.cells #[.int .i64 p.st, a2, .slice (some ⟨fb, 0, none⟩) p.flows.length cap0, c2] 26)).alloc o).drew.grownBy w6 (some fb)) (hat : fb = gg ∨ gg = w12.heap.size + 2) :
    TV lo p y s a2 (.slice (some ⟨gg, 0, none⟩) (n + 1) cap) c2 w12.heap.size (w6.setCell ⟨w12.heap.size, 2, none⟩ (.slice (some ⟨gg, 0, none⟩) (n + 1) cap)) ∧ Below lo w12 (w6.setCell ⟨w12.heap.size, 2, none⟩ (.slice (some ⟨gg, 0, none⟩) (n + 1) cap)) := by
  obtain ⟨b, cp, sl, e, h1, h2, h3, h4, h5, h6, h7, h8⟩ := id hT.flows
  injection e with e1 _ e3
  injection e1 with e1
  injection e1 with e1 _ _
  subst e1 e3 hn
  have hf : fb < w12.heap.size := by obtain ⟨cur, e, _⟩ := h8; exact (Array.getElem?_eq_some_iff.1 e).1
  obtain ⟨g1, g2, g3, g4, g5, g6⟩ := tv_grown hf hg
  have hgk : gg ≠ w12.heap.size := by rcases hat with h | h <;> omega
  have same : ∀ b, b < w12.heap.size → b ≠ fb → (w6.setCell ⟨w12.heap.size, 2, none⟩ (.slice (some ⟨gg, 0, none⟩) (p.flows.length + 1) cap)).heap[b]? = w12.heap[b]? := fun b hb hn => (Below.heap_setCell _ _ _ _ (by simp; omega)).trans (g1 b hb hn)
  have gX : w6.grownBy (w6.setCell ⟨w12.heap.size, 2, none⟩ (.slice (some ⟨gg, 0, none⟩) (p.flows.length + 1) cap)) (some w12.heap.size) := ⟨rfl, rfl, rfl, by simp, fun k _ h => Below.heap_setCell _ _ _ _ (fun e => h (by rw [e]))⟩
  have own6 := hown.kept gX (.inr (by simp [Value.ownBlock]; omega))
  have hl : ps.length = p.flows.length := by rw [← hps]; simp
  refine ⟨⟨by rw [set_same g2]; rfl, hlo, hT.st, hT.ins.apart h8 same, hT.outs.apart h8 same, ps, hps, ?_, fun q hq => ?_⟩, ⟨g4, g5, g6, ?_, fun k hk => same k (by omega) (by omega)⟩⟩
  · have e1 : (ps ++ [(y, s)]).length = p.flows.length + 1 := by simp [hl]
    have e2 : (esF (ps ++ [(y, s)])).flatten = (esF ps).flatten ++ flL y s := by simp
    rw [e1, e2]
    exact own6
  · exact (Tw.carryN (fun b hb hlt => same b hlt (by omega)) (Nat.le_refl _) _ _ _ (Nat.le_refl _) (hTw q hq)).low (by omega)
  · have := gX.size
    omega
/-- The row of the flows that are left, while it is made. -/
structure LVw (w14 : World) (qs : List (Fl × Value)) (fl : Value) (W : World) : Prop where
  below : Below w14.heap.size w14 W
  own : W.ownsRow w14.heap.size 55 8 fl qs.length (esF qs).flatten
theorem LVw.start (w14 : World) : LVw w14 [] (.slice none 0 0) w14 := ⟨Below.refl _ _, rfl, .inl ⟨rfl, rfl⟩⟩
theorem LVw.keep {w14 W W' : World} {qs : List (Fl × Value)} {fl : Value} (h : LVw w14 qs fl W) (hb : Below W.heap.size W W') : LVw w14 qs fl W' :=
  ⟨h.below.trans (hb.mono h.below.size), own_carry h.own (fun b _ hlt => hb.block b hlt)⟩
theorem LVw.grow {w14 W W' : World} {qs : List (Fl × Value)} {fl fl' : Value} {y : Fl} {s : Value} (h : LVw w14 qs fl W) (hown : W'.ownsRow w14.heap.size 55 8 fl' (qs.length + 1) ((esF qs).flatten ++ flL y s)) (hg : W.grownBy W' fl.ownBlock) : LVw w14 (qs ++ [(y, s)]) fl' W' where
  below := h.below.grown hg h.below.size (fun j hj => by
    rcases h.own.2 with ⟨e, _⟩ | ⟨g, cap, cur, e, h1, _⟩
    · rw [e] at hj; cases hj
    · rw [e] at hj; have hj' : g = j := by injection hj
      omega)
  own := by
    have e1 : (qs ++ [(y, s)]).length = qs.length + 1 := by simp
    have e2 : (esF (qs ++ [(y, s)])).flatten = (esF qs).flatten ++ flL y s := by simp
    rw [e1, e2]
    exact hown
theorem LVw.slice {w14 W : World} {qs : List (Fl × Value)} {fl : Value} (h : LVw w14 qs fl W) : ∃ ao cap, fl = .slice ao qs.length cap := by
  rcases h.own.2 with ⟨e, e0⟩ | ⟨g, cap, cur, e, _⟩
  · exact ⟨none, 0, by rw [e, e0]⟩
  · exact ⟨_, cap, e⟩
/-- Is the name asked for? -/
def ak (nm : ByteArray) (l : List Fl) : Bool := !(l.all fun f => (asksOf f).all fun s => !decide (nm.data.toList = s.data.toList))
theorem ak_snoc (nm : ByteArray) (l : List Fl) (f : Fl) : ak nm (l ++ [f]) = (ak nm l || (gat 32 f.body 0 []).any fun z => decide (nm.data.toList = z.1.data.toList)) := by
  unfold ak asksOf
  simp only [List.all_append, List.all_cons, List.all_nil, Bool.and_true, Bool.not_and, List.all_map]
  congr 1
  rw [List.not_all_eq_any_not]
  simp
theorem erase_same {α : Type} (l : List α) (k : Nat) (hk : k < l.length) : (l.take (k + 1)).eraseIdx k = (l.take k).eraseIdx k := by
  have e : (l.take k).length = k := by simp; omega
  rw [List.take_succ_eq_append_getElem hk, List.eraseIdx_append_of_length_le (by omega), e, List.eraseIdx_of_length_le (l := l.take k) (by omega)]
  simp
theorem erase_more {α : Type} (l : List α) (k m : Nat) (hm : m < l.length) (hne : m ≠ k) : (l.take (m + 1)).eraseIdx k = (l.take m).eraseIdx k ++ [l[m]] := by
  rw [List.take_succ_eq_append_getElem hm]
  by_cases h : k < m
  · rw [List.eraseIdx_append_of_lt_length (by simp; omega)]
  · rw [List.eraseIdx_of_length_le (by simp; omega), List.eraseIdx_of_length_le (by simp; omega)]
theorem less_err {p : Pg} (hp : pgOk p = true) (hn : nmOk p = true) (k : Nat) (hk : k < p.flows.length) (y : Fl) (hy : p.flows[k] = y) (l : List Fl) (hl : l = (p.flows.take p.flows.length).eraseIdx k) : nmErr { p with flows := l, outs := [] } = if ak y.name l then 6 else 0 := by
  subst hl hy
  rw [List.take_length, List.eraseIdx_eq_take_drop_succ, less_flow hp hn k hk]
  unfold ak
  cases (p.flows.take k ++ p.flows.drop (k + 1)).all (fun f => (asksOf f).all fun s => !decide (p.flows[k].name.data.toList = s.data.toList)) <;> rfl
theorem twice_err {p : Pg} (hp : pgOk p = true) (k : Nat) (hk : k < p.flows.length) (y : Fl) (hy : p.flows[k] = y) : nmErr { p with flows := p.flows ++ [y] } = if p.flows.length + 1 ≤ 128 then 6 else 1 := by
  subst hy
  exact twice_flow hp k hk
theorem LVw.set {w14 W : World} {qs : List (Fl × Value)} {fl u : Value} {kq : Nat} (h : LVw w14 qs fl W) (hk : kq < w14.heap.size) : (W.setCell ⟨kq, 2, none⟩ u).ownsRow w14.heap.size 55 8 fl qs.length (esF qs).flatten :=
  own_carry h.own (fun b hb _ => Below.heap_setCell _ _ _ _ (by simp; omega))
end Go.Proofs.YtmlapodhpinhmaaDoor.Lex
namespace Go.Proofs.YtmlapodhpinhmaaDoor.Lex
open Go.ChangeShapes Go.WideShapes Go.ChangeAt Go.RowKit Go.Joins
theorem grown_two {w w1 w2 : World} {v v1 : Value} (h1 : w.grownBy w1 v.ownBlock) (hf : ∀ b, v1.ownBlock = some b → v.ownBlock = some b ∨ w.heap.size ≤ b) (h2 : w1.grownBy w2 v1.ownBlock) : w.grownBy w2 v.ownBlock :=
  ⟨h2.os.trans h1.os, h2.tape.trans h1.tape, h2.output.trans h1.output, Nat.le_trans h1.size h2.size, fun b hb hn => (h2.block b (Nat.lt_of_lt_of_le hb h1.size) (fun e => by
    rcases hf b e.symm with h | h
    · exact hn h.symm
    · omega)).trans (h1.block b hb hn)⟩
/-- The list, as it is handed on. -/
structure RL (w0 wb : World) (v : Value) (acc : List Rf) (l : Value) (W : World) : Prop where
  own : W.ownsRow w0.heap.size 29 2 l acc.length (refsV acc)
  grown : wb.grownBy W v.ownBlock
  fr : ∀ b, l.ownBlock = some b → v.ownBlock = some b ∨ wb.heap.size ≤ b
theorem RL.start {w0 wb : World} {v : Value} {acc : List Rf} (h : wb.ownsRow w0.heap.size 29 2 v acc.length (refsV acc)) : RL w0 wb v acc v wb := ⟨h, ⟨rfl, rfl, rfl, Nat.le_refl _, fun _ _ _ => rfl⟩, fun _ h => .inl h⟩
theorem RL.step {w0 wb W W' : World} {v l l' : Value} {acc acc' : List Rf} (h : RL w0 wb v acc l W) (ho : W'.ownsRow w0.heap.size 29 2 l' acc'.length (refsV acc')) (hg : W.grownBy W' l.ownBlock) (hf : ∀ b, l'.ownBlock = some b → l.ownBlock = some b ∨ W.heap.size ≤ b) : RL w0 wb v acc' l' W' :=
  ⟨ho, grown_two h.grown h.fr hg, fun b e => by
    rcases hf b e with h' | h'
    · exact h.fr b h'
    · exact .inr (Nat.le_trans h.grown.size h')⟩
theorem RL.keep {w0 wb W : World} {v l : Value} {acc : List Rf} {k : Nat} {o : Obj} (h : RL w0 wb v acc l W) (hr : wb.heap[k]? = some o) (hn : v.ownBlock ≠ some k) : W.heap[k]? = some o := (h.grown.block k (Array.getElem?_eq_some_iff.1 hr).1 (fun e => hn e.symm)).trans hr
theorem RL.below {w0 wb W : World} {v l : Value} {acc : List Rf} (h : RL w0 wb v acc l W) (hv : ∀ b, v.ownBlock = some b → w0.heap.size ≤ b) (hb : Below w0.heap.size w0 wb) (hs : w0.heap.size ≤ wb.heap.size) : Below w0.heap.size w0 W := hb.grown h.grown hs (fun b e => hv b e)
theorem RL.back {w0 w wb W : World} {v l : Value} {acc : List Rf} (h : RL w0 wb v acc l W) (_hs : w0.heap.size ≤ wb.heap.size) (hw : Below w.heap.size w wb) : w.grownBy W v.ownBlock :=
  ⟨h.grown.os.trans hw.os, h.grown.tape.trans hw.tape, h.grown.output.trans hw.output, Nat.le_trans hw.size h.grown.size, fun b hb hn => (h.grown.block b (Nat.lt_of_lt_of_le hb hw.size) hn).trans (hw.block b hb)⟩
theorem RL.more {w0 wb W W1 W' : World} {v l l' : Value} {acc acc' : List Rf} (h : RL w0 wb v acc l W) (hb : Below W.heap.size W W1) (ho : W'.ownsRow w0.heap.size 29 2 l' acc'.length (refsV acc')) (hg : W1.grownBy W' l.ownBlock) (hat : l'.ownBlock = l.ownBlock ∨ l'.ownBlock = some W1.heap.size) : RL w0 wb v acc' l' W' :=
  h.step ho ⟨hg.os.trans hb.os, hg.tape.trans hb.tape, hg.output.trans hb.output, Nat.le_trans hb.size hg.size, fun b hlt hn => (hg.block b (Nat.lt_of_lt_of_le hlt hb.size) hn).trans (hb.block b hlt)⟩ (fun b e => by
    rcases hat with h' | h'
    · exact .inl (h' ▸ e)
    · rw [h'] at e; injection e with e; exact .inr (by have := hb.size; omega))
theorem ref_eq (a b : ByteArray) (m n : Nat) (w : World) : (if a.toList = b.toList then (if (m : Int) = (n : Int) then Result.ok (Next.value (Value.bool true)) w else Result.ok (Next.value (Value.bool false)) w) else Result.ok (Next.value (Value.bool false)) w) = (Result.ok (Next.value (Value.bool (a.data.toList == b.data.toList && m == n))) w) := by
  rw [ByteArray.toList_eq, ByteArray.toList_eq]
  by_cases e1 : a.data.toList = b.data.toList
  · rw [if_pos e1, beq_iff_eq.2 e1]
    by_cases e2 : m = n
    · subst e2; rw [if_pos rfl]; simp
    · rw [if_neg (by omega), beq_eq_false_iff_ne.2 e2]; rfl
  · rw [if_neg e1, beq_eq_false_iff_ne.2 e1]; rfl
theorem acc_len (k : Nat) (x : Ex) (ago : Nat) (acc : List Rf) : ∀ j, (accAt k x ago acc j).length ≤ acc.length + cntAt k x j
  | 0 => by
    show (ownRefs x ago acc).length ≤ acc.length + 1
    unfold ownRefs addR
    split
    · split
      · omega
      · simp
    · omega
  | j + 1 => by
    by_cases h : j < x.args.length
    · rw [accAt_succ h, cntAt_succ h]
      have h1 := gat_len k x.args[j] (nextAgo x ago) (accAt k x ago acc j)
      have h2 := acc_len k x ago acc j
      omega
    · have e1 : accAt k x ago acc (j + 1) = accAt k x ago acc j := by unfold accAt; rw [List.take_of_length_le (by omega), List.take_of_length_le (by omega)]
      have e2 : cntAt k x (j + 1) = cntAt k x j := by unfold cntAt; rw [List.take_of_length_le (by omega), List.take_of_length_le (by omega)]
      rw [e1, e2]
      exact acc_len k x ago acc j
theorem acc_all (k : Nat) (x : Ex) (ago : Nat) (acc : List Rf) : accAt k x ago acc x.args.length = gat (k + 1) x ago acc := by
  unfold accAt
  rw [List.take_length]
  rfl
def RG (k : Nat) : Prop := ∀ (x : Ex) (s : Value) (ago : Nat) (acc : List Rf) (v : Value) (w0 w : World), St w0 x s → NmOk k x → Below w0.heap.size w0 w → w.ownsRow w0.heap.size 29 2 v acc.length (refsV acc) → ago + k ≤ 1099511627776 → acc.length + cnt k x ≤ 1099511627776 →
  Calls Tryd.prog 55 #[v, exV x s, .int .i64 (ago : Int)] w fun e w' => ∃ v', e = .returned v' ∧ w'.ownsRow w0.heap.size 29 2 v' (gat k x ago acc).length (refsV (gat k x ago acc)) ∧ w.grownBy w' v.ownBlock ∧ ∀ b, v'.ownBlock = some b → v.ownBlock = some b ∨ w.heap.size ≤ b
theorem RL.fr' {w0 w wb W : World} {v l : Value} {acc : List Rf} (h : RL w0 wb v acc l W) (hw : w.heap.size ≤ wb.heap.size) : ∀ b, l.ownBlock = some b → v.ownBlock = some b ∨ w.heap.size ≤ b := fun b e => (h.fr b e).imp_right (Nat.le_trans hw)
theorem own_lo {w : World} {lo t c n : Nat} {v : Value} {xs : List Value} (h : w.ownsRow lo t c v n xs) : ∀ b, v.ownBlock = some b → lo ≤ b ∧ b < w.heap.size := fun b e => by
  rcases h.2 with ⟨h', _⟩ | ⟨g, cap, cur, h', h1, h2, _⟩
  · rw [h'] at e; cases e
  · rw [h'] at e
    have : g = b := by injection e
    subst this
    exact ⟨h1, (Array.getElem?_eq_some_iff.1 h2).1⟩
set_option maxRecDepth 100000 in
set_option maxHeartbeats 4000000 in
theorem rgather_of (k : Nat) (ih : RG k) : RG (k + 1) := by
  intro x s ago acc v w0 w hS hN hb hown hag hcn
  obtain ⟨ao, cap, sl, rfl, hop, hn, hnm, hlen, _, hc, hs⟩ := hS.out
  have VLT := hid (own_lo hown)
  have VLO := hid (fun b e => (VLT.out b e).1)
  have HB := hid hb
  have HOW := hid hown
  have HIH := hid ih
  have HS := hid hs
  have HC := hid hc
  have HNM := hid hN.2
  have HNS := hid hN.1
  have HCN : Hid (acc.length + cntAt k x x.args.length ≤ 1099511627776) := hid (by have : cnt (k + 1) x = cntAt k x x.args.length := by unfold cnt cntAt; rw [List.take_length]
                                                                                   omega)
  have hal : acc.length ≤ 1099511627776 := by omega
  clear ih hs hc hN hS hb hown hcn
  obtain ⟨i0, hi, hz0, hz1, hz2⟩ := info_parts i51
  by_cases h3 : x.op = 3
  · have h3' : ((x.op : Int) == 3) = true := by rw [beq_iff_eq]; omega
    have h19' : ((x.op : Int) == 19) = false := by rw [beq_eq_false_iff_ne]; omega
    have hna' : ((nextAgo x ago : Nat) : Int) = (ago : Int) := by unfold nextAgo; rw [if_neg (by omega)]
    have HOR : Hid (ownRefs x ago acc = addR acc (x.name, ago)) := hid (by unfold ownRefs; rw [if_pos h3])
    have BR := hid (show ((w.alloc (.cells #[.int .u8 (x.op : Int), .int .i64 x.n, .string x.name, .slice ao x.args.length cap] 53)).alloc (.cells #[.string x.name, .int .i64 (ago : Int)] 29)).heap[w.heap.size]? = some (.cells #[.int .u8 (x.op : Int), .int .i64 x.n, .string x.name, .slice ao x.args.length cap] 53 (0, 0)) from push_old (push_new _ _ _ rfl))
    have RR := hid (show ((w.alloc (.cells #[.int .u8 (x.op : Int), .int .i64 x.n, .string x.name, .slice ao x.args.length cap] 53)).alloc (.cells #[.string x.name, .int .i64 (ago : Int)] 29)).heap[w.heap.size + 1]? = some (.cells #[.string x.name, .int .i64 (ago : Int)] 29 (0, 0)) from push_new _ _ _ (by simp))
    have VNB : Hid (v.ownBlock ≠ some w.heap.size) := hid (fun e => by have := (VLT.out _ e).2; omega)
    have VNR : Hid (v.ownBlock ≠ some (w.heap.size + 1)) := hid (fun e => by have := (VLT.out _ e).2; omega)
    have WBW := hid (bstep ((Below.refl w.heap.size w).alloc (Nat.le_refl _) (.cells #[.int .u8 (x.op : Int), .int .i64 x.n, .string x.name, .slice ao x.args.length cap] 53)) ((Below.refl _ _).alloc (Nat.le_refl _) (.cells #[.string x.name, .int .i64 (ago : Int)] 29)))
    have HWB := hid (HB.out.trans (WBW.out.mono HB.out.size))
    have SWB := hid HWB.out.size
    have SW := hid WBW.out.size
    have R0 := hid (RL.start ((HOW.out.alloc (.cells #[.int .u8 (x.op : Int), .int .i64 x.n, .string x.name, .slice ao x.args.length cap] 53)).alloc (.cells #[.string x.name, .int .i64 (ago : Int)] 29)))
    clear h3
    obtain ⟨va, vc, rfl, _⟩ := RfAt.of_own HOW.out
    go_enter Tryd.func55, Tryd.ntmps55
    go_wp2_with (fail)
    generalize ((w.alloc (.cells #[.int .u8 (x.op : Int), .int .i64 x.n, .string x.name, .slice ao x.args.length cap] 53)).alloc (.cells #[.string x.name, .int .i64 (ago : Int)] 29)) = WB at *
    go_loopw [8, 9] (fun th i wr => ∃ t : Nat, t ≤ acc.length ∧ i = .int .i64 (t : Int) ∧ th = .bool (rIn (acc.take t) (x.name, ago)) ∧ Hid (RL w0 WB (.slice va acc.length vc) acc (.slice va acc.length vc) wr)) (fun _ i _ => acc.length - (intOf i).toNat)
    case atStart => exact ⟨0, Nat.zero_le _, rfl, rfl, R0⟩
    case round =>
      obtain ⟨t, ht, rfl, rfl, HR⟩ := hrel
      have RRr := hid (HR.out.keep RR.out VNR.out)
      have y2 := (cell_of_row wr (w.heap.size + 1) 0 _ 29 (0, 0) RRr.out).trans (show _ = some (.string x.name) from rfl)
      have y3 := (cell_of_row wr (w.heap.size + 1) 1 _ 29 (0, 0) RRr.out).trans (show _ = some (.int .i64 (ago : Int)) from rfl)
      by_cases hlt : t < acc.length
      · have hlt' : (t : Int) < (acc.length : Int) := by omega
        have ht0 : (0 : Int) ≤ (t : Int) := by omega
        obtain ⟨a2, c2, e2, hh⟩ := RfAt.of_own HR.out.own
        injection e2 with e2 _ e3
        subst e2 e3
        obtain ⟨g, rfl, hcc⟩ := hh.resolve_left (by omega)
        obtain ⟨y0, y1⟩ := hcc t hlt
        have HT : Hid (rIn (acc.take (t + 1)) (x.name, ago) = (rIn (acc.take t) (x.name, ago) || (acc[t].1.data.toList == x.name.data.toList && acc[t].2 == ago))) := hid (by unfold rIn; rw [List.take_succ_eq_append_getElem hlt, List.any_append]; simp)
        have RD := hid (HR.out.step (W' := wr.drew) HR.out.own.drew ⟨rfl, rfl, rfl, Nat.le_refl _, fun _ _ _ => rfl⟩ (fun b e => .inl e))
        clear hcc hh
        generalize acc[t] = q at *
        generalize rIn (acc.take t) (x.name, ago) = th at *
        generalize hbq : (q.1.data.toList == x.name.data.toList && q.2 == ago) = bq at HT
        have HBQ := hid hbq
        clear hbq
        cases th with
        | true =>
          go_wp2_with (fail)
          refine wp_region_held_drew (S := fun V => V.cell? ⟨g, t * 2, none⟩ = some (.string q.1) ∧ V.cell? ⟨g, t * 2 + 1, none⟩ = some (.int .i64 (q.2 : Int)) ∧ V.cell? ⟨w.heap.size + 1, 0, none⟩ = some (.string x.name) ∧ V.cell? ⟨w.heap.size + 1, 1, none⟩ = some (.int .i64 (ago : Int))) (by kernel_rfl) ?_ (fun hHeld => ?_)
          · exact ⟨y0, y1, y2, y3⟩
          refine wpAnyH_take (i := 0) (oi := { dst := some 24, op := Go.Op.move (Go.Operand.tmp 8), type := 4, pos := _, after := #[], guard := none }) (v := ?_) rfl (by kernel_rfl) (by kernel_rfl) (by kernel_rfl) (fun _ _ _ h => h) (Or.inl ⟨by rfl, ?_⟩) (by assumption) ?_
          rotate_left
          · intro w hSw; (try dsimp only at hSw); go_simp <;> first | with_reducible rfl | (rw [if_neg (by first | omega | (simp only [ByteArray.size_append] at *; omega))])
          simp only [Act.put, List.setIfInBounds_toArray, List.set_cons_zero, List.set_cons_succ]
          refine wpAnyH_take (i := 1) (oi := { dst := some 25, op := Go.Op.move (Go.Operand.tmp 24), type := 4, pos := _, after := #[{ on := 0, ground := Go.Ground.data }], guard := none }) (v := ?_) rfl (by kernel_rfl) (by kernel_rfl) (by kernel_rfl) (fun _ _ _ h => h) (Or.inl ⟨by rfl, ?_⟩) (by assumption) ?_
          rotate_left
          · intro w hSw; (try dsimp only at hSw); go_simp <;> first | with_reducible rfl | (rw [if_neg (by first | omega | (simp only [ByteArray.size_append] at *; omega))])
          simp only [Act.put, List.setIfInBounds_toArray, List.set_cons_zero, List.set_cons_succ]
          refine wpAnyH_take (i := 2) (oi := { dst := some 26, op := Go.Op.move (Go.Operand.tmp 0), type := 47, pos := _, after := #[{ on := 1, ground := Go.Ground.guard }], guard := some (1, false) }) (v := undef) rfl (by kernel_rfl) (by kernel_rfl) (by kernel_rfl) (fun _ _ _ h => h) (Or.inr ⟨by rfl, rfl⟩) (by assumption) ?_
          simp only [Act.put, List.setIfInBounds_toArray, List.set_cons_zero, List.set_cons_succ]
          refine wpAnyH_take (i := 3) (oi := { dst := some 27, op := Go.Op.move (Go.Operand.tmp 9), type := 3, pos := _, after := #[{ on := 1, ground := Go.Ground.guard }], guard := some (1, false) }) (v := undef) rfl (by kernel_rfl) (by kernel_rfl) (by kernel_rfl) (fun _ _ _ h => h) (Or.inr ⟨by rfl, rfl⟩) (by assumption) ?_
          simp only [Act.put, List.setIfInBounds_toArray, List.set_cons_zero, List.set_cons_succ]
          refine wpAnyH_take (i := 4) (oi := { dst := some 28, op := Go.Op.indexAddr 47 (Go.Operand.tmp 26) (Go.Operand.tmp 27), type := 0, pos := _, after := #[{ on := 2, ground := Go.Ground.data }, { on := 3, ground := Go.Ground.data }, { on := 1, ground := Go.Ground.guard }], guard := some (1, false) }) (v := undef) rfl (by kernel_rfl) (by kernel_rfl) (by kernel_rfl) (fun _ _ _ h => h) (Or.inr ⟨by rfl, rfl⟩) (by assumption) ?_
          simp only [Act.put, List.setIfInBounds_toArray, List.set_cons_zero, List.set_cons_succ]
          refine wpAnyH_take (i := 5) (oi := { dst := some 29, op := Go.Op.load 29 (Go.Operand.tmp 28), type := 29, pos := _, after := #[{ on := 4, ground := Go.Ground.data }, { on := 1, ground := Go.Ground.guard }], guard := some (1, false) }) (v := undef) rfl (by kernel_rfl) (by kernel_rfl) (by kernel_rfl) (fun _ _ _ h => h) (Or.inr ⟨by rfl, rfl⟩) (by assumption) ?_
          simp only [Act.put, List.setIfInBounds_toArray, List.set_cons_zero, List.set_cons_succ]
          refine wpAnyH_take (i := 6) (oi := { dst := some 30, op := Go.Op.load 29 (Go.Operand.tmp 7), type := 29, pos := _, after := #[{ on := 1, ground := Go.Ground.guard }], guard := some (1, false) }) (v := undef) rfl (by kernel_rfl) (by kernel_rfl) (by kernel_rfl) (fun _ _ _ h => h) (Or.inr ⟨by rfl, rfl⟩) (by assumption) ?_
          simp only [Act.put, List.setIfInBounds_toArray, List.set_cons_zero, List.set_cons_succ]
          refine wpAnyH_take (i := 7) (oi := { dst := some 31, op := Go.Op.binOp Go.BinOp.eql 29 (Go.Operand.tmp 29) (Go.Operand.tmp 30) 29, type := 4, pos := _, after := #[{ on := 5, ground := Go.Ground.data }, { on := 6, ground := Go.Ground.data }, { on := 1, ground := Go.Ground.guard }], guard := some (1, false) }) (v := undef) rfl (by kernel_rfl) (by kernel_rfl) (by kernel_rfl) (fun _ _ _ h => h) (Or.inr ⟨by rfl, rfl⟩) (by assumption) ?_
          simp only [Act.put, List.setIfInBounds_toArray, List.set_cons_zero, List.set_cons_succ]
          refine wpAnyH_take (i := 8) (oi := { dst := some 32, op := Go.Op.pick (Go.Operand.tmp 25) (Go.Operand.const (Go.Value.bool true)) (Go.Operand.tmp 31), type := 4, pos := _, after := #[{ on := 1, ground := Go.Ground.data }, { on := 7, ground := Go.Ground.data }], guard := none }) (v := ?_) rfl (by kernel_rfl) (by kernel_rfl) (by kernel_rfl) (fun _ _ _ h => h) (Or.inl ⟨by rfl, ?_⟩) (by assumption) ?_
          rotate_left
          · intro w hSw; (try dsimp only at hSw); go_simp <;> first | with_reducible rfl | (rw [if_neg (by first | omega | (simp only [ByteArray.size_append] at *; omega))])
          simp only [Act.put, List.setIfInBounds_toArray, List.set_cons_zero, List.set_cons_succ]
          refine wpAnyH_take (i := 9) (oi := { dst := some 8, op := Go.Op.assign (Go.Operand.tmp 32), type := 4, pos := _, after := #[{ on := 8, ground := Go.Ground.data }, { on := 1, ground := Go.Ground.chain }, { on := 0, ground := Go.Ground.phase }, { on := 1, ground := Go.Ground.phase }, { on := 2, ground := Go.Ground.phase }, { on := 3, ground := Go.Ground.phase }, { on := 4, ground := Go.Ground.phase }, { on := 5, ground := Go.Ground.phase }, { on := 6, ground := Go.Ground.phase }, { on := 7, ground := Go.Ground.phase }, { on := 8, ground := Go.Ground.phase }], guard := none }) (v := ?_) rfl (by kernel_rfl) (by kernel_rfl) (by kernel_rfl) (fun _ _ _ h => h) (Or.inl ⟨by rfl, ?_⟩) (by assumption) ?_
          rotate_left
          · intro w hSw; (try dsimp only at hSw); go_simp <;> first | with_reducible rfl | (rw [if_neg (by first | omega | (simp only [ByteArray.size_append] at *; omega))])
          simp only [Act.put, List.setIfInBounds_toArray, List.set_cons_zero, List.set_cons_succ]
          refine wpAnyH_done (by kernel_rfl) ?_ _
          go_wp2_with (fail)
          go_roundw
          case rel => exact ⟨t + 1, by omega, by go_num, by rw [HT.out]; rfl, RD⟩
          case measure => simp [intOf]; omega
        | false =>
          go_wp2_with (fail)
          refine wp_region_held_drew (S := fun V => V.cell? ⟨g, t * 2, none⟩ = some (.string q.1) ∧ V.cell? ⟨g, t * 2 + 1, none⟩ = some (.int .i64 (q.2 : Int)) ∧ V.cell? ⟨w.heap.size + 1, 0, none⟩ = some (.string x.name) ∧ V.cell? ⟨w.heap.size + 1, 1, none⟩ = some (.int .i64 (ago : Int))) (by kernel_rfl) ?_ (fun hHeld => ?_)
          · exact ⟨y0, y1, y2, y3⟩
          refine wpAnyH_take (i := 0) (oi := { dst := some 24, op := Go.Op.move (Go.Operand.tmp 8), type := 4, pos := _, after := #[], guard := none }) (v := ?_) rfl (by kernel_rfl) (by kernel_rfl) (by kernel_rfl) (fun _ _ _ h => h) (Or.inl ⟨by rfl, ?_⟩) (by assumption) ?_
          rotate_left
          · intro w hSw; (try dsimp only at hSw); go_simp <;> first | with_reducible rfl | (rw [if_neg (by first | omega | (simp only [ByteArray.size_append] at *; omega))])
          simp only [Act.put, List.setIfInBounds_toArray, List.set_cons_zero, List.set_cons_succ]
          refine wpAnyH_take (i := 1) (oi := { dst := some 25, op := Go.Op.move (Go.Operand.tmp 24), type := 4, pos := _, after := #[{ on := 0, ground := Go.Ground.data }], guard := none }) (v := ?_) rfl (by kernel_rfl) (by kernel_rfl) (by kernel_rfl) (fun _ _ _ h => h) (Or.inl ⟨by rfl, ?_⟩) (by assumption) ?_
          rotate_left
          · intro w hSw; (try dsimp only at hSw); go_simp <;> first | with_reducible rfl | (rw [if_neg (by first | omega | (simp only [ByteArray.size_append] at *; omega))])
          simp only [Act.put, List.setIfInBounds_toArray, List.set_cons_zero, List.set_cons_succ]
          refine wpAnyH_take (i := 2) (oi := { dst := some 26, op := Go.Op.move (Go.Operand.tmp 0), type := 47, pos := _, after := #[{ on := 1, ground := Go.Ground.guard }], guard := some (1, false) }) (v := ?_) rfl (by kernel_rfl) (by kernel_rfl) (by kernel_rfl) (fun _ _ _ h => h) (Or.inl ⟨by rfl, ?_⟩) (by assumption) ?_
          rotate_left
          · intro w hSw; (try dsimp only at hSw); go_simp <;> first | with_reducible rfl | (rw [if_neg (by first | omega | (simp only [ByteArray.size_append] at *; omega))])
          simp only [Act.put, List.setIfInBounds_toArray, List.set_cons_zero, List.set_cons_succ]
          refine wpAnyH_take (i := 3) (oi := { dst := some 27, op := Go.Op.move (Go.Operand.tmp 9), type := 3, pos := _, after := #[{ on := 1, ground := Go.Ground.guard }], guard := some (1, false) }) (v := ?_) rfl (by kernel_rfl) (by kernel_rfl) (by kernel_rfl) (fun _ _ _ h => h) (Or.inl ⟨by rfl, ?_⟩) (by assumption) ?_
          rotate_left
          · intro w hSw; (try dsimp only at hSw); go_simp <;> first | with_reducible rfl | (rw [if_neg (by first | omega | (simp only [ByteArray.size_append] at *; omega))])
          simp only [Act.put, List.setIfInBounds_toArray, List.set_cons_zero, List.set_cons_succ]
          refine wpAnyH_take (i := 4) (oi := { dst := some 28, op := Go.Op.indexAddr 47 (Go.Operand.tmp 26) (Go.Operand.tmp 27), type := 0, pos := _, after := #[{ on := 2, ground := Go.Ground.data }, { on := 3, ground := Go.Ground.data }, { on := 1, ground := Go.Ground.guard }], guard := some (1, false) }) (v := ?_) rfl (by kernel_rfl) (by kernel_rfl) (by kernel_rfl) (fun _ _ _ h => h) (Or.inl ⟨by rfl, ?_⟩) (by assumption) ?_
          rotate_left
          · intro w hSw; (try dsimp only at hSw); go_simp <;> first | with_reducible rfl | (rw [if_neg (by first | omega | (simp only [ByteArray.size_append] at *; omega))])
          simp only [Act.put, List.setIfInBounds_toArray, List.set_cons_zero, List.set_cons_succ]
          refine wpAnyH_take (i := 5) (oi := { dst := some 29, op := Go.Op.load 29 (Go.Operand.tmp 28), type := 29, pos := _, after := #[{ on := 4, ground := Go.Ground.data }, { on := 1, ground := Go.Ground.guard }], guard := some (1, false) }) (v := ?_) rfl (by kernel_rfl) (by kernel_rfl) (by kernel_rfl) (fun _ _ _ h => h) (Or.inl ⟨by rfl, ?_⟩) (by assumption) ?_
          rotate_left
          · intro w hSw; (try dsimp only at hSw); go_simp <;> first | with_reducible rfl | (rw [if_neg (by first | omega | (simp only [ByteArray.size_append] at *; omega))])
          simp only [Act.put, List.setIfInBounds_toArray, List.set_cons_zero, List.set_cons_succ]
          refine wpAnyH_take (i := 6) (oi := { dst := some 30, op := Go.Op.load 29 (Go.Operand.tmp 7), type := 29, pos := _, after := #[{ on := 1, ground := Go.Ground.guard }], guard := some (1, false) }) (v := ?_) rfl (by kernel_rfl) (by kernel_rfl) (by kernel_rfl) (fun _ _ _ h => h) (Or.inl ⟨by rfl, ?_⟩) (by assumption) ?_
          rotate_left
          · intro w hSw; (try dsimp only at hSw); go_simp <;> first | with_reducible rfl | (rw [if_neg (by first | omega | (simp only [ByteArray.size_append] at *; omega))])
          simp only [Act.put, List.setIfInBounds_toArray, List.set_cons_zero, List.set_cons_succ]
          refine wpAnyH_take (i := 7) (oi := { dst := some 31, op := Go.Op.binOp Go.BinOp.eql 29 (Go.Operand.tmp 29) (Go.Operand.tmp 30) 29, type := 4, pos := _, after := #[{ on := 5, ground := Go.Ground.data }, { on := 6, ground := Go.Ground.data }, { on := 1, ground := Go.Ground.guard }], guard := some (1, false) }) (v := .bool bq) rfl (by kernel_rfl) (by kernel_rfl) (by kernel_rfl) (fun _ _ _ h => h) (Or.inl ⟨by rfl, ?_⟩) (by assumption) ?_
          · intro w hSw; (try dsimp only at hSw); go_simp; rw [← HBQ.out]; exact ref_eq _ _ _ _ _
          simp only [Act.put, List.setIfInBounds_toArray, List.set_cons_zero, List.set_cons_succ]
          refine wpAnyH_take (i := 8) (oi := { dst := some 32, op := Go.Op.pick (Go.Operand.tmp 25) (Go.Operand.const (Go.Value.bool true)) (Go.Operand.tmp 31), type := 4, pos := _, after := #[{ on := 1, ground := Go.Ground.data }, { on := 7, ground := Go.Ground.data }], guard := none }) (v := ?_) rfl (by kernel_rfl) (by kernel_rfl) (by kernel_rfl) (fun _ _ _ h => h) (Or.inl ⟨by rfl, ?_⟩) (by assumption) ?_
          rotate_left
          · intro w hSw; (try dsimp only at hSw); go_simp <;> first | with_reducible rfl | (rw [if_neg (by first | omega | (simp only [ByteArray.size_append] at *; omega))])
          simp only [Act.put, List.setIfInBounds_toArray, List.set_cons_zero, List.set_cons_succ]
          refine wpAnyH_take (i := 9) (oi := { dst := some 8, op := Go.Op.assign (Go.Operand.tmp 32), type := 4, pos := _, after := #[{ on := 8, ground := Go.Ground.data }, { on := 1, ground := Go.Ground.chain }, { on := 0, ground := Go.Ground.phase }, { on := 1, ground := Go.Ground.phase }, { on := 2, ground := Go.Ground.phase }, { on := 3, ground := Go.Ground.phase }, { on := 4, ground := Go.Ground.phase }, { on := 5, ground := Go.Ground.phase }, { on := 6, ground := Go.Ground.phase }, { on := 7, ground := Go.Ground.phase }, { on := 8, ground := Go.Ground.phase }], guard := none }) (v := ?_) rfl (by kernel_rfl) (by kernel_rfl) (by kernel_rfl) (fun _ _ _ h => h) (Or.inl ⟨by rfl, ?_⟩) (by assumption) ?_
          rotate_left
          · intro w hSw; (try dsimp only at hSw); go_simp <;> first | with_reducible rfl | (rw [if_neg (by first | omega | (simp only [ByteArray.size_append] at *; omega))])
          simp only [Act.put, List.setIfInBounds_toArray, List.set_cons_zero, List.set_cons_succ]
          refine wpAnyH_done (by kernel_rfl) ?_ _
          go_wp2_with (fail)
          go_roundw
          case rel => exact ⟨t + 1, by omega, by go_num, by rw [HT.out, Bool.false_or], RD⟩
          case measure => simp [intOf]; omega
      · have hlt' : ¬ (t : Int) < (acc.length : Int) := by omega
        obtain rfl : t = acc.length := by omega
        rw [List.take_length]
        clear ht hlt
        cases hin : rIn acc (x.name, ago) with
        | true =>
          have R1 : Hid (RL w0 WB (.slice va acc.length vc) (accAt k x ago acc 0) (.slice va acc.length vc) wr) := hid (show RL w0 WB _ (ownRefs x ago acc) _ wr by rw [HOR.out]; unfold addR; rw [if_pos hin]; exact HR.out)
          have RB := hid (HR.out.keep BR.out VNB.out)
          have v0 := (cell_of_row wr w.heap.size 0 _ 53 (0, 0) RB.out).trans (show _ = some (.int .u8 (x.op : Int)) from rfl)
          clear HR hin
          go_wp2_with (fail)
          clear v0
          go_loopw [0, 10] (fun l i wr => ∃ j : Nat, j ≤ x.args.length ∧ i = .int .i64 (j : Int) ∧ Hid (RL w0 WB (.slice va acc.length vc) (accAt k x ago acc j) l wr)) (fun _ i _ => x.args.length - (intOf i).toNat)
          case atStart => exact ⟨0, Nat.zero_le _, rfl, R1⟩
          case round =>
            obtain ⟨j, hj, rfl, HR⟩ := hrel
            have RB := hid (HR.out.keep BR.out VNB.out)
            have v0 := (cell_of_row wr w.heap.size 0 _ 53 (0, 0) RB.out).trans (show _ = some (.int .u8 (x.op : Int)) from rfl)
            have v3 := (cell_of_row wr w.heap.size 3 _ 53 (0, 0) RB.out).trans (show _ = some (.slice ao x.args.length cap) from rfl)
            by_cases hlt : j < x.args.length
            · have hlt' : (j : Int) < (x.args.length : Int) := by omega
              have hj0 : (0 : Int) ≤ (j : Int) := by omega
              obtain ⟨bb, o, rfl, hc⟩ := HC.out.resolve_left (by omega)
              have HBW := hid (HR.out.below VLO.out HWB.out SWB.out)
              obtain ⟨h0, h1, h2, h3⟩ := hc j hlt
              have y0 := cell_kept h0 HBW.out
              have y1 := cell_kept h1 HBW.out
              have y2 := cell_kept h2 HBW.out
              have y3 := cell_kept h3 HBW.out
              obtain ⟨a4, c4, _, e4, _⟩ := (HS.out j hlt).out
              rw [e4] at y3
              have c50 := HIH.out x.args[j] _ (nextAgo x ago) (accAt k x ago acc j) _ w0 wr (e4 ▸ HS.out j hlt) (HNM.out _ (List.getElem_mem hlt)) HBW.out HR.out.own (by unfold nextAgo; split <;> omega) (by
                have h1 := acc_len k x ago acc j
                have h2 := cntAt_succ (k := k) hlt
                have h3 := cntAt_le k x (x.args.length - (j + 1)) (j + 1) (by omega)
                have h4 := HCN.out
                omega)
              rw [← accAt_succ hlt] at c50
              rw [hna'] at c50
              clear h0 h1 h2 h3 hc e4
              generalize x.args[j] = y at *
              go_wp2_with (fail)
              refine c50.mono ?_
              rintro e w2 ⟨l', rfl, hown, hgr, hfr⟩
              have HR2 := hid (HR.out.step hown hgr hfr)
              clear hown hgr hfr
              go_wp2_with (fail)
              go_roundw
              case rel => exact ⟨j + 1, by omega, by go_num, HR2⟩
              case measure => simp [intOf]; omega
            · have hlt' : ¬ (j : Int) < (x.args.length : Int) := by omega
              obtain rfl : j = x.args.length := by omega
              have hend := HR.out
              rw [acc_all] at hend
              have HE := hid hend
              clear hend
              go_wp2_with (fail)
              go_ret
              exact ⟨_, rfl, HE.out.own, HE.out.back SWB.out WBW.out, HE.out.fr' SW.out⟩
        | false =>
          have RB := hid (HR.out.keep BR.out VNB.out)
          have HAD : Hid (ownRefs x ago acc = acc ++ [(x.name, ago)]) := hid (by rw [HOR.out]; unfold addR; rw [hin]; rfl)
          have N2 := hid (two_new wr (.string x.name) (.int .i64 (ago : Int)))
          have O2 := hid (HR.out.own.alloc (.cells #[.string x.name, .int .i64 (ago : Int)] 29))
          have BA := hid ((Below.refl wr.heap.size wr).alloc (Nat.le_refl _) (.cells #[.string x.name, .int .i64 (ago : Int)] 29))
          have v0 := (cell_of_row wr w.heap.size 0 _ 53 (0, 0) RB.out).trans (show _ = some (.int .u8 (x.op : Int)) from rfl)
          have hmx : acc.length + 1 ≤ maxLen := by unfold maxLen; omega
          have hlo : w0.heap.size ≤ (wr.alloc (.cells #[.string x.name, .int .i64 (ago : Int)] 29)).heap.size := Nat.le_trans (Nat.le_trans SWB.out HR.out.grown.size) BA.out.size
          clear hin
          go_wp2_with (at_builtin; refine wpList_append_own_at _ rfl (.tmp 35) (.tmp 37) 47 rfl w0.heap.size 29 i0 _ 2 24 Tryd.underlying47 hi hz0 hz1 hz2 rfl (by decide) _ _ _ rfl O2.out ⟨wr.heap.size, 0, none⟩ 1 1 [.string x.name, .int .i64 (ago : Int)] rfl rfl N2.out (by simp [Value.oneCell']) hmx (by omega) hlo ?_; intro l2 w6 hown6 hg6 _ hat6; have R1 : Hid (RL w0 WB (.slice va acc.length vc) (accAt k x ago acc 0) l2 w6) := hid (RL.more HR.out BA.out (by rw [show accAt k x ago acc 0 = ownRefs x ago acc from rfl, HAD.out, List.length_append, refsV_app]; exact hown6) hg6 hat6); have v0' := (cell_of_row w6 w.heap.size 0 _ 53 (0, 0) (R1.out.keep BR.out VNB.out)).trans (show _ = some (.int .u8 (x.op : Int)) from rfl); clear hown6 hg6 hat6)
          clear v0 v0' HR
          go_loopw [0, 10] (fun l i wr => ∃ j : Nat, j ≤ x.args.length ∧ i = .int .i64 (j : Int) ∧ Hid (RL w0 WB (.slice va acc.length vc) (accAt k x ago acc j) l wr)) (fun _ i _ => x.args.length - (intOf i).toNat)
          case atStart => exact ⟨0, Nat.zero_le _, rfl, R1⟩
          case round =>
            obtain ⟨j, hj, rfl, HR⟩ := hrel
            have RB := hid (HR.out.keep BR.out VNB.out)
            have v0 := (cell_of_row wr w.heap.size 0 _ 53 (0, 0) RB.out).trans (show _ = some (.int .u8 (x.op : Int)) from rfl)
            have v3 := (cell_of_row wr w.heap.size 3 _ 53 (0, 0) RB.out).trans (show _ = some (.slice ao x.args.length cap) from rfl)
            by_cases hlt : j < x.args.length
            · have hlt' : (j : Int) < (x.args.length : Int) := by omega
              have hj0 : (0 : Int) ≤ (j : Int) := by omega
              obtain ⟨bb, o, rfl, hc⟩ := HC.out.resolve_left (by omega)
              have HBW := hid (HR.out.below VLO.out HWB.out SWB.out)
              obtain ⟨h0, h1, h2, h3⟩ := hc j hlt
              have y0 := cell_kept h0 HBW.out
              have y1 := cell_kept h1 HBW.out
              have y2 := cell_kept h2 HBW.out
              have y3 := cell_kept h3 HBW.out
              obtain ⟨a4, c4, _, e4, _⟩ := (HS.out j hlt).out
              rw [e4] at y3
              have c50 := HIH.out x.args[j] _ (nextAgo x ago) (accAt k x ago acc j) _ w0 wr (e4 ▸ HS.out j hlt) (HNM.out _ (List.getElem_mem hlt)) HBW.out HR.out.own (by unfold nextAgo; split <;> omega) (by
                have h1 := acc_len k x ago acc j
                have h2 := cntAt_succ (k := k) hlt
                have h3 := cntAt_le k x (x.args.length - (j + 1)) (j + 1) (by omega)
                have h4 := HCN.out
                omega)
              rw [← accAt_succ hlt] at c50
              rw [hna'] at c50
              clear h0 h1 h2 h3 hc e4
              generalize x.args[j] = y at *
              go_wp2_with (fail)
              refine c50.mono ?_
              rintro e w2 ⟨l', rfl, hown, hgr, hfr⟩
              have HR2 := hid (HR.out.step hown hgr hfr)
              clear hown hgr hfr
              go_wp2_with (fail)
              go_roundw
              case rel => exact ⟨j + 1, by omega, by go_num, HR2⟩
              case measure => simp [intOf]; omega
            · have hlt' : ¬ (j : Int) < (x.args.length : Int) := by omega
              obtain rfl : j = x.args.length := by omega
              have hend := HR.out
              rw [acc_all] at hend
              have HE := hid hend
              clear hend
              go_wp2_with (fail)
              go_ret
              exact ⟨_, rfl, HE.out.own, HE.out.back SWB.out WBW.out, HE.out.fr' SW.out⟩
  · have h3' : ((x.op : Int) == 3) = false := by rw [beq_eq_false_iff_ne]; omega
    have BR := hid (heap_alloc_new w (.cells #[.int .u8 (x.op : Int), .int .i64 x.n, .string x.name, .slice ao x.args.length cap] 53))
    have VNB : Hid (v.ownBlock ≠ some w.heap.size) := hid (fun e => by have := (VLT.out _ e).2; omega)
    have WBW := hid ((Below.refl w.heap.size w).alloc (Nat.le_refl _) (.cells #[.int .u8 (x.op : Int), .int .i64 x.n, .string x.name, .slice ao x.args.length cap] 53))
    have HWB := hid (HB.out.trans (WBW.out.mono HB.out.size))
    have SWB : Hid (w0.heap.size ≤ (w.alloc (.cells #[.int .u8 (x.op : Int), .int .i64 x.n, .string x.name, .slice ao x.args.length cap] 53)).heap.size) := hid HWB.out.size
    have SW : Hid (w.heap.size ≤ (w.alloc (.cells #[.int .u8 (x.op : Int), .int .i64 x.n, .string x.name, .slice ao x.args.length cap] 53)).heap.size) := hid (by simp)
    have R0 := hid (RL.start (HOW.out.alloc (.cells #[.int .u8 (x.op : Int), .int .i64 x.n, .string x.name, .slice ao x.args.length cap] 53)))
    have HOR : Hid (ownRefs x ago acc = acc) := hid (by unfold ownRefs; rw [if_neg h3])
    clear h3
    by_cases h19 : x.op = 19
    · have h19' : ((x.op : Int) == 19) = true := by rw [beq_iff_eq]; omega
      have hna : nextAgo x ago = ago + 1 := by unfold nextAgo; rw [if_pos h19]
      have hna' : ((nextAgo x ago : Nat) : Int) = (ago : Int) + 1 := by rw [hna]; omega
      have hwa : IntKind.i64.wrap ((ago : Int) + 1) = (ago : Int) + 1 := by rw [IntKind.wrap_i64]; omega
      clear h19 hna
      go_enter Tryd.func55, Tryd.ntmps55
      go_wp2_with (fail)
      generalize (w.alloc (.cells #[.int .u8 (x.op : Int), .int .i64 x.n, .string x.name, .slice ao x.args.length cap] 53)) = WB at *
      have R1 : Hid (RL w0 WB v (accAt k x ago acc 0) v WB) := hid (show RL w0 WB v (ownRefs x ago acc) v WB by rw [HOR.out]; exact R0.out)
      go_loopw [0, 10] (fun l i wr => ∃ j : Nat, j ≤ x.args.length ∧ i = .int .i64 (j : Int) ∧ Hid (RL w0 WB v (accAt k x ago acc j) l wr)) (fun _ i _ => x.args.length - (intOf i).toNat)
      case atStart => exact ⟨0, Nat.zero_le _, rfl, R1⟩
      case round =>
        obtain ⟨j, hj, rfl, HR⟩ := hrel
        have RB := hid (HR.out.keep BR.out VNB.out)
        have v0 := (cell_of_row wr w.heap.size 0 _ 53 (0, 0) RB.out).trans (show _ = some (.int .u8 (x.op : Int)) from rfl)
        have v3 := (cell_of_row wr w.heap.size 3 _ 53 (0, 0) RB.out).trans (show _ = some (.slice ao x.args.length cap) from rfl)
        by_cases hlt : j < x.args.length
        · have hlt' : (j : Int) < (x.args.length : Int) := by omega
          have hj0 : (0 : Int) ≤ (j : Int) := by omega
          obtain ⟨bb, o, rfl, hc⟩ := HC.out.resolve_left (by omega)
          have HBW := hid (HR.out.below VLO.out HWB.out SWB.out)
          obtain ⟨h0, h1, h2, h3⟩ := hc j hlt
          have y0 := cell_kept h0 HBW.out
          have y1 := cell_kept h1 HBW.out
          have y2 := cell_kept h2 HBW.out
          have y3 := cell_kept h3 HBW.out
          obtain ⟨a4, c4, _, e4, _⟩ := (HS.out j hlt).out
          rw [e4] at y3
          have c50 := HIH.out x.args[j] _ (nextAgo x ago) (accAt k x ago acc j) _ w0 wr (e4 ▸ HS.out j hlt) (HNM.out _ (List.getElem_mem hlt)) HBW.out HR.out.own (by unfold nextAgo; split <;> omega) (by
            have h1 := acc_len k x ago acc j
            have h2 := cntAt_succ (k := k) hlt
            have h3 := cntAt_le k x (x.args.length - (j + 1)) (j + 1) (by omega)
            have h4 := HCN.out
            omega)
          rw [← accAt_succ hlt] at c50
          rw [hna'] at c50
          clear h0 h1 h2 h3 hc e4
          generalize x.args[j] = y at *
          go_wp2_with (fail)
          refine c50.mono ?_
          rintro e w2 ⟨l', rfl, hown, hgr, hfr⟩
          have HR2 := hid (HR.out.step hown hgr hfr)
          clear hown hgr hfr
          go_wp2_with (fail)
          go_roundw
          case rel => exact ⟨j + 1, by omega, by go_num, HR2⟩
          case measure => simp [intOf]; omega
        · have hlt' : ¬ (j : Int) < (x.args.length : Int) := by omega
          obtain rfl : j = x.args.length := by omega
          have hend := HR.out
          rw [acc_all] at hend
          have HE := hid hend
          clear hend
          go_wp2_with (fail)
          go_ret
          exact ⟨_, rfl, HE.out.own, HE.out.back SWB.out WBW.out, HE.out.fr' SW.out⟩
    · have h19' : ((x.op : Int) == 19) = false := by rw [beq_eq_false_iff_ne]; omega
      have hna' : ((nextAgo x ago : Nat) : Int) = (ago : Int) := by unfold nextAgo; rw [if_neg h19]
      clear h19
      go_enter Tryd.func55, Tryd.ntmps55
      go_wp2_with (fail)
      generalize (w.alloc (.cells #[.int .u8 (x.op : Int), .int .i64 x.n, .string x.name, .slice ao x.args.length cap] 53)) = WB at *
      have R1 : Hid (RL w0 WB v (accAt k x ago acc 0) v WB) := hid (show RL w0 WB v (ownRefs x ago acc) v WB by rw [HOR.out]; exact R0.out)
      go_loopw [0, 10] (fun l i wr => ∃ j : Nat, j ≤ x.args.length ∧ i = .int .i64 (j : Int) ∧ Hid (RL w0 WB v (accAt k x ago acc j) l wr)) (fun _ i _ => x.args.length - (intOf i).toNat)
      case atStart => exact ⟨0, Nat.zero_le _, rfl, R1⟩
      case round =>
        obtain ⟨j, hj, rfl, HR⟩ := hrel
        have RB := hid (HR.out.keep BR.out VNB.out)
        have v0 := (cell_of_row wr w.heap.size 0 _ 53 (0, 0) RB.out).trans (show _ = some (.int .u8 (x.op : Int)) from rfl)
        have v3 := (cell_of_row wr w.heap.size 3 _ 53 (0, 0) RB.out).trans (show _ = some (.slice ao x.args.length cap) from rfl)
        by_cases hlt : j < x.args.length
        · have hlt' : (j : Int) < (x.args.length : Int) := by omega
          have hj0 : (0 : Int) ≤ (j : Int) := by omega
          obtain ⟨bb, o, rfl, hc⟩ := HC.out.resolve_left (by omega)
          have HBW := hid (HR.out.below VLO.out HWB.out SWB.out)
          obtain ⟨h0, h1, h2, h3⟩ := hc j hlt
          have y0 := cell_kept h0 HBW.out
          have y1 := cell_kept h1 HBW.out
          have y2 := cell_kept h2 HBW.out
          have y3 := cell_kept h3 HBW.out
          obtain ⟨a4, c4, _, e4, _⟩ := (HS.out j hlt).out
          rw [e4] at y3
          have c50 := HIH.out x.args[j] _ (nextAgo x ago) (accAt k x ago acc j) _ w0 wr (e4 ▸ HS.out j hlt) (HNM.out _ (List.getElem_mem hlt)) HBW.out HR.out.own (by unfold nextAgo; split <;> omega) (by
            have h1 := acc_len k x ago acc j
            have h2 := cntAt_succ (k := k) hlt
            have h3 := cntAt_le k x (x.args.length - (j + 1)) (j + 1) (by omega)
            have h4 := HCN.out
            omega)
          rw [← accAt_succ hlt] at c50
          rw [hna'] at c50
          clear h0 h1 h2 h3 hc e4
          generalize x.args[j] = y at *
          go_wp2_with (fail)
          refine c50.mono ?_
          rintro e w2 ⟨l', rfl, hown, hgr, hfr⟩
          have HR2 := hid (HR.out.step hown hgr hfr)
          clear hown hgr hfr
          go_wp2_with (fail)
          go_roundw
          case rel => exact ⟨j + 1, by omega, by go_num, HR2⟩
          case measure => simp [intOf]; omega
        · have hlt' : ¬ (j : Int) < (x.args.length : Int) := by omega
          obtain rfl : j = x.args.length := by omega
          have hend := HR.out
          rw [acc_all] at hend
          have HE := hid hend
          clear hend
          go_wp2_with (fail)
          go_ret
          exact ⟨_, rfl, HE.out.own, HE.out.back SWB.out WBW.out, HE.out.fr' SW.out⟩
theorem rgather_any : ∀ k, RG k
  | 0 => fun x _ _ _ _ _ _ _ hN _ _ _ _ => by exact hN.elim
  | k + 1 => rgather_of k (rgather_any k)
set_option maxRecDepth 100000 in
theorem rrefs (k : Nat) (x : Ex) (s : Value) (w : World) (hS : St w x s) (hNm : NmOk k x) (hk : k ≤ 1099511627776) (hc : cnt k x ≤ 1099511627776) : Calls Tryd.prog 29 #[exV x s] w fun e w' => ∃ v, e = .returned v ∧ w'.ownsRow w.heap.size 29 2 v (gat k x 0 []).length (refsV (gat k x 0 [])) ∧ Below w.heap.size w w' := by
  obtain ⟨ao, cap, sl, rfl, _⟩ := hS.out
  have B0 := hid ((Below.refl w.heap.size w).alloc (Nat.le_refl _) (.cells #[.int .u8 (x.op : Int), .int .i64 x.n, .string x.name, .slice ao x.args.length cap] 53))
  have c50 := rgather_any k x (.slice ao x.args.length cap) 0 [] (.slice none 0 0) w (w.alloc (.cells #[.int .u8 (x.op : Int), .int .i64 x.n, .string x.name, .slice ao x.args.length cap] 53)) hS hNm B0.out ⟨rfl, .inl ⟨rfl, rfl⟩⟩ (by omega) (by simpa using hc)
  clear hS
  go_enter Tryd.func29, Tryd.ntmps29
  go_wp2_with (fail)
  refine c50.mono ?_
  rintro e w2 ⟨v', rfl, hown, hgr, _⟩
  have HO := hid hown
  have HB := hid (B0.out.grown hgr B0.out.size (fun j hj => by cases hj))
  clear hown hgr
  go_wp2_with (fail)
  go_ret
  exact ⟨_, rfl, HO.out, HB.out⟩
end Go.Proofs.YtmlapodhpinhmaaDoor.Lex
namespace Go.Proofs.YtmlapodhpinhmaaDoor.Lex
/-- The t-th one's bytes. -/
def by_ (l : List ByteArray) (t : Nat) : List UInt8 := ((l[t]?).getD ByteArray.empty).data.toList
theorem by_eq {l : List ByteArray} {t : Nat} (h : t < l.length) : by_ l t = l[t].data.toList := by unfold by_; rw [List.getElem?_eq_getElem h]; rfl
/-- Of the first ones no two are alike. -/
def nd (l : List ByteArray) (t : Nat) : Prop := ∀ j, j < t → ∀ k, k < j → by_ l k ≠ by_ l j
theorem nd_succ {l : List ByteArray} {t : Nat} (h : nd l t) (hk : ∀ k, k < t → by_ l k ≠ by_ l t) : nd l (t + 1) := fun j hj k hkj => by
  by_cases e : j = t
  · subst e; exact hk k hkj
  · exact h j (by omega) k hkj
theorem cntN_zero {l : List ByteArray} {u : List UInt8} : cntN l u = 0 ↔ ∀ s ∈ l, u ≠ s.data.toList := by
  unfold cntN
  rw [List.length_eq_zero_iff, List.filter_eq_nil_iff]
  simp
theorem nd_cnt {l : List ByteArray} : ∀ t, t ≤ l.length → nd l t → ∀ u, cntN (l.take t) u ≤ 1
  | 0, _, _, u => by simp [cntN]
  | t + 1, ht, h, u => by
    have hlt : t < l.length := by omega
    rw [List.take_succ_eq_append_getElem hlt, cntN_app, cntN_cons]
    have h0 : cntN [] u = 0 := rfl
    rw [h0]
    have ih := nd_cnt t (by omega) (fun j hj k hk => h j (by omega) k hk) u
    by_cases e : u = l[t].data.toList
    · have hz : cntN (l.take t) u = 0 := cntN_zero.2 (fun s hs hu => by
        obtain ⟨k, hk, rfl⟩ := List.mem_iff_getElem.1 hs
        have hk' : k < t := by simp at hk; omega
        have := h t (by omega) k hk'
        rw [by_eq (by omega), by_eq hlt] at this
        apply this
        rw [← e, hu]
        simp)
      rw [if_pos e, hz]
      omega
    · rw [if_neg e]; omega
theorem nd_all {l : List ByteArray} (h : nd l l.length) (u : List UInt8) : ¬ 1 < cntN l u := by
  have := nd_cnt l.length (Nat.le_refl _) h u
  rw [List.take_length] at this
  omega
theorem two_cnt {l : List ByteArray} {k t : Nat} (hk : k < t) (ht : t < l.length) (h : by_ l k = by_ l t) : 1 < cntN l l[t].data.toList := by
  have e : l = l.take t ++ l[t] :: l.drop (t + 1) := by
    conv => lhs; rw [← List.take_append_drop t l, List.drop_eq_getElem_cons ht]
  rw [by_eq (by omega), by_eq ht] at h
  have h1 : cntN (l.take t) l[t].data.toList ≠ 0 := fun hz => by
    refine cntN_zero.1 hz l[k] ?_ h.symm
    rw [List.mem_take_iff_getElem]
    exact ⟨k, by omega, rfl⟩
  have key : ∀ u, cntN l u = cntN (l.take t) u + ((if u = l[t].data.toList then 1 else 0) + cntN (l.drop (t + 1)) u) := fun u => by
    rw [← cntN_cons, ← cntN_app, ← e]
  have h2 := key l[t].data.toList
  rw [if_pos rfl] at h2
  omega
theorem find_isSome (p : Pg) (s : ByteArray) : (findT (thingsL p) s).isSome = decide (cntN (namesOf p) s.data.toList ≠ 0) := by
  rw [Bool.eq_iff_iff, decide_eq_true_eq, ← cntT_names]
  unfold findT cntT
  rw [List.find?_isSome]
  constructor
  · rintro ⟨x, hx, he⟩ h0
    rw [List.length_eq_zero_iff, List.filter_eq_nil_iff] at h0
    rw [name_eq] at he
    exact h0 x hx he
  · intro h0
    obtain ⟨x, hx⟩ := List.exists_mem_of_length_pos (Nat.pos_of_ne_zero h0)
    rw [List.mem_filter] at hx
    exact ⟨x, hx.1, by rw [name_eq]; exact hx.2⟩
theorem foV_some (o : Option (Int × Hd)) : ∃ (v1 v2 v3 : Int), foV o = #[.int .i64 v1, .int .u8 v2, .int .i64 v3, .bool o.isSome] := by
  cases o with
  | none => exact ⟨0, 0, 0, rfl⟩
  | some x => exact ⟨x.2.st, (x.2.ty : Int), x.1, rfl⟩
theorem bad_twice {p : Pg} (hp : pgOk p = true) {k t : Nat} (hk : k < t) (ht : t < (namesOf p).length) (h : by_ (namesOf p) k = by_ (namesOf p) t) : nmErr p = 6 := by
  have hn : nmOk p = false := by
    cases e : nmOk p with
    | false => rfl
    | true => exact ((nmOk_parts.1 e).1 _ (List.getElem_mem ht) (two_cnt hk ht h)).elim
  unfold nmErr; rw [hp, hn]; rfl
theorem bad_ask {p : Pg} (hp : pgOk p = true) {s : ByteArray} (hs : s ∈ askedL p) (h : cntN (namesOf p) s.data.toList = 0) : nmErr p = 6 := by
  have hn : nmOk p = false := by
    cases e : nmOk p with
    | false => rfl
    | true => exact ((nmOk_parts.1 e).2.1 s hs h).elim
  unfold nmErr; rw [hp, hn]; rfl
theorem bad_out {p : Pg} (hp : pgOk p = true) {s : ByteArray} (hs : s ∈ p.outs) (h : cntN (namesOf p) s.data.toList = 0) : nmErr p = 6 := by
  have hn : nmOk p = false := by
    cases e : nmOk p with
    | false => rfl
    | true => exact (((nmOk_parts.1 e).2.2 s hs).1 h).elim
  unfold nmErr; rw [hp, hn]; rfl
theorem bad_told {p : Pg} (hp : pgOk p = true) {k t : Nat} (hk : k < t) (ht : t < p.outs.length) (h : by_ p.outs k = by_ p.outs t) : nmErr p = 6 := by
  have hn : nmOk p = false := by
    cases e : nmOk p with
    | false => rfl
    | true => exact (((nmOk_parts.1 e).2.2 _ (List.getElem_mem ht)).2 (two_cnt hk ht h)).elim
  unfold nmErr; rw [hp, hn]; rfl
theorem all_good {p : Pg} (hp : pgOk p = true) (h1 : nd (namesOf p) (namesOf p).length) (h2 : ∀ s ∈ askedL p, cntN (namesOf p) s.data.toList ≠ 0) (h3 : ∀ s ∈ p.outs, cntN (namesOf p) s.data.toList ≠ 0) (h4 : nd p.outs p.outs.length) : nmErr p = 0 := by
  have hn : nmOk p = true := nmOk_parts.2 ⟨fun s _ => nd_all h1 _, h2, fun s hs => ⟨h3 s hs, nd_all h4 _⟩⟩
  unfold nmErr; rw [hp, hn]; rfl
end Go.Proofs.YtmlapodhpinhmaaDoor.Lex
namespace Go.Proofs.YtmlapodhpinhmaaDoor.Lex
open Go.ChangeShapes Go.WideShapes Go.ChangeAt Go.RowKit Go.Joins
/-- Of how many parts; below 0: none. -/
def manyI (op : Nat) : Int := if op = 1 ∨ op = 2 ∨ op = 3 then 0 else if 0 < parts op then (parts op : Int) else -1
theorem many_1 (w : World) : Calls Tryd.prog 91 #[.int .u8 (1 : Int)] w fun e w' => e = .returned (.int .i64 (manyI 1)) ∧ w' = w := by
  have h : manyI 1 = 0 := by decide
  rw [h]
  go_enter Tryd.func91, Tryd.ntmps91
  go_wp2
  go_ret
  exact ⟨rfl, rfl⟩
theorem many_2 (w : World) : Calls Tryd.prog 91 #[.int .u8 (2 : Int)] w fun e w' => e = .returned (.int .i64 (manyI 2)) ∧ w' = w := by
  have h : manyI 2 = 0 := by decide
  rw [h]
  go_enter Tryd.func91, Tryd.ntmps91
  go_wp2
  go_ret
  exact ⟨rfl, rfl⟩
theorem many_3 (w : World) : Calls Tryd.prog 91 #[.int .u8 (3 : Int)] w fun e w' => e = .returned (.int .i64 (manyI 3)) ∧ w' = w := by
  have h : manyI 3 = 0 := by decide
  rw [h]
  go_enter Tryd.func91, Tryd.ntmps91
  go_wp2
  go_ret
  exact ⟨rfl, rfl⟩
theorem many_4 (w : World) : Calls Tryd.prog 91 #[.int .u8 (4 : Int)] w fun e w' => e = .returned (.int .i64 (manyI 4)) ∧ w' = w := by
  have h : manyI 4 = 1 := by decide
  rw [h]
  go_enter Tryd.func91, Tryd.ntmps91
  go_wp2
  go_ret
  exact ⟨rfl, rfl⟩
theorem many_5 (w : World) : Calls Tryd.prog 91 #[.int .u8 (5 : Int)] w fun e w' => e = .returned (.int .i64 (manyI 5)) ∧ w' = w := by
  have h : manyI 5 = 1 := by decide
  rw [h]
  go_enter Tryd.func91, Tryd.ntmps91
  go_wp2
  go_ret
  exact ⟨rfl, rfl⟩
theorem many_6 (w : World) : Calls Tryd.prog 91 #[.int .u8 (6 : Int)] w fun e w' => e = .returned (.int .i64 (manyI 6)) ∧ w' = w := by
  have h : manyI 6 = 2 := by decide
  rw [h]
  go_enter Tryd.func91, Tryd.ntmps91
  go_wp2
  go_ret
  exact ⟨rfl, rfl⟩
theorem many_7 (w : World) : Calls Tryd.prog 91 #[.int .u8 (7 : Int)] w fun e w' => e = .returned (.int .i64 (manyI 7)) ∧ w' = w := by
  have h : manyI 7 = 2 := by decide
  rw [h]
  go_enter Tryd.func91, Tryd.ntmps91
  go_wp2
  go_ret
  exact ⟨rfl, rfl⟩
theorem many_8 (w : World) : Calls Tryd.prog 91 #[.int .u8 (8 : Int)] w fun e w' => e = .returned (.int .i64 (manyI 8)) ∧ w' = w := by
  have h : manyI 8 = 2 := by decide
  rw [h]
  go_enter Tryd.func91, Tryd.ntmps91
  go_wp2
  go_ret
  exact ⟨rfl, rfl⟩
theorem many_9 (w : World) : Calls Tryd.prog 91 #[.int .u8 (9 : Int)] w fun e w' => e = .returned (.int .i64 (manyI 9)) ∧ w' = w := by
  have h : manyI 9 = 2 := by decide
  rw [h]
  go_enter Tryd.func91, Tryd.ntmps91
  go_wp2
  go_ret
  exact ⟨rfl, rfl⟩
theorem many_10 (w : World) : Calls Tryd.prog 91 #[.int .u8 (10 : Int)] w fun e w' => e = .returned (.int .i64 (manyI 10)) ∧ w' = w := by
  have h : manyI 10 = 2 := by decide
  rw [h]
  go_enter Tryd.func91, Tryd.ntmps91
  go_wp2
  go_ret
  exact ⟨rfl, rfl⟩
theorem many_11 (w : World) : Calls Tryd.prog 91 #[.int .u8 (11 : Int)] w fun e w' => e = .returned (.int .i64 (manyI 11)) ∧ w' = w := by
  have h : manyI 11 = 2 := by decide
  rw [h]
  go_enter Tryd.func91, Tryd.ntmps91
  go_wp2
  go_ret
  exact ⟨rfl, rfl⟩
theorem many_12 (w : World) : Calls Tryd.prog 91 #[.int .u8 (12 : Int)] w fun e w' => e = .returned (.int .i64 (manyI 12)) ∧ w' = w := by
  have h : manyI 12 = 2 := by decide
  rw [h]
  go_enter Tryd.func91, Tryd.ntmps91
  go_wp2
  go_ret
  exact ⟨rfl, rfl⟩
theorem many_13 (w : World) : Calls Tryd.prog 91 #[.int .u8 (13 : Int)] w fun e w' => e = .returned (.int .i64 (manyI 13)) ∧ w' = w := by
  have h : manyI 13 = 2 := by decide
  rw [h]
  go_enter Tryd.func91, Tryd.ntmps91
  go_wp2
  go_ret
  exact ⟨rfl, rfl⟩
theorem many_14 (w : World) : Calls Tryd.prog 91 #[.int .u8 (14 : Int)] w fun e w' => e = .returned (.int .i64 (manyI 14)) ∧ w' = w := by
  have h : manyI 14 = 2 := by decide
  rw [h]
  go_enter Tryd.func91, Tryd.ntmps91
  go_wp2
  go_ret
  exact ⟨rfl, rfl⟩
theorem many_15 (w : World) : Calls Tryd.prog 91 #[.int .u8 (15 : Int)] w fun e w' => e = .returned (.int .i64 (manyI 15)) ∧ w' = w := by
  have h : manyI 15 = 2 := by decide
  rw [h]
  go_enter Tryd.func91, Tryd.ntmps91
  go_wp2
  go_ret
  exact ⟨rfl, rfl⟩
theorem many_16 (w : World) : Calls Tryd.prog 91 #[.int .u8 (16 : Int)] w fun e w' => e = .returned (.int .i64 (manyI 16)) ∧ w' = w := by
  have h : manyI 16 = 2 := by decide
  rw [h]
  go_enter Tryd.func91, Tryd.ntmps91
  go_wp2
  go_ret
  exact ⟨rfl, rfl⟩
theorem many_17 (w : World) : Calls Tryd.prog 91 #[.int .u8 (17 : Int)] w fun e w' => e = .returned (.int .i64 (manyI 17)) ∧ w' = w := by
  have h : manyI 17 = 3 := by decide
  rw [h]
  go_enter Tryd.func91, Tryd.ntmps91
  go_wp2
  go_ret
  exact ⟨rfl, rfl⟩
theorem many_18 (w : World) : Calls Tryd.prog 91 #[.int .u8 (18 : Int)] w fun e w' => e = .returned (.int .i64 (manyI 18)) ∧ w' = w := by
  have h : manyI 18 = 2 := by decide
  rw [h]
  go_enter Tryd.func91, Tryd.ntmps91
  go_wp2
  go_ret
  exact ⟨rfl, rfl⟩
theorem many_19 (w : World) : Calls Tryd.prog 91 #[.int .u8 (19 : Int)] w fun e w' => e = .returned (.int .i64 (manyI 19)) ∧ w' = w := by
  have h : manyI 19 = 1 := by decide
  rw [h]
  go_enter Tryd.func91, Tryd.ntmps91
  go_wp2
  go_ret
  exact ⟨rfl, rfl⟩
theorem jOf_far {op : Nat} (h : 20 ≤ op) : jOf op = none := by
  unfold jOf JT
  rw [List.find?_eq_none]
  intro r hr
  simp only [List.mem_cons, List.not_mem_nil, or_false] at hr
  rcases hr with rfl | rfl | rfl | rfl | rfl | rfl | rfl | rfl | rfl | rfl | rfl | rfl <;> simp <;> omega
theorem many_far {op : Nat} (h : op = 0 ∨ 20 ≤ op) : manyI op = -1 := by
  rcases h with rfl | h
  · decide
  · have hp : parts op = 0 := by unfold parts; rw [if_neg (by omega), if_neg (by omega), jOf_far h]; rfl
    unfold manyI
    rw [if_neg (by omega), hp]
    rfl
theorem many_any (op : Nat) (w : World) : Calls Tryd.prog 91 #[.int .u8 (op : Int)] w fun e w' => e = .returned (.int .i64 (manyI op)) ∧ w' = w := by
  by_cases hop : op = 0 ∨ 20 ≤ op
  · rw [many_far hop]
    have e1 := neN (a := op) (b := 1) (by omega)
    have e2 := neN (a := op) (b := 2) (by omega)
    have e3 := neN (a := op) (b := 3) (by omega)
    have e4 := neN (a := op) (b := 4) (by omega)
    have e5 := neN (a := op) (b := 5) (by omega)
    have e6 := neN (a := op) (b := 6) (by omega)
    have e7 := neN (a := op) (b := 7) (by omega)
    have e8 := neN (a := op) (b := 8) (by omega)
    have e9 := neN (a := op) (b := 9) (by omega)
    have e10 := neN (a := op) (b := 10) (by omega)
    have e11 := neN (a := op) (b := 11) (by omega)
    have e12 := neN (a := op) (b := 12) (by omega)
    have e13 := neN (a := op) (b := 13) (by omega)
    have e14 := neN (a := op) (b := 14) (by omega)
    have e15 := neN (a := op) (b := 15) (by omega)
    have e16 := neN (a := op) (b := 16) (by omega)
    have e17 := neN (a := op) (b := 17) (by omega)
    have e18 := neN (a := op) (b := 18) (by omega)
    have e19 := neN (a := op) (b := 19) (by omega)
    clear hop
    go_enter Tryd.func91, Tryd.ntmps91
    go_wp2
    go_ret
    exact ⟨rfl, rfl⟩
  · have h : op = 1 ∨ op = 2 ∨ op = 3 ∨ op = 4 ∨ op = 5 ∨ op = 6 ∨ op = 7 ∨ op = 8 ∨ op = 9 ∨ op = 10 ∨ op = 11 ∨ op = 12 ∨ op = 13 ∨ op = 14 ∨ op = 15 ∨ op = 16 ∨ op = 17 ∨ op = 18 ∨ op = 19 := by omega
    clear hop
    rcases h with rfl | rfl | rfl | rfl | rfl | rfl | rfl | rfl | rfl | rfl | rfl | rfl | rfl | rfl | rfl | rfl | rfl | rfl | rfl
    · exact many_1 w
    · exact many_2 w
    · exact many_3 w
    · exact many_4 w
    · exact many_5 w
    · exact many_6 w
    · exact many_7 w
    · exact many_8 w
    · exact many_9 w
    · exact many_10 w
    · exact many_11 w
    · exact many_12 w
    · exact many_13 w
    · exact many_14 w
    · exact many_15 w
    · exact many_16 w
    · exact many_17 w
    · exact many_18 w
    · exact many_19 w
/-- The fields but for the parts. -/
def fldOk (op : Nat) (n : Int) (nm : ByteArray) : Bool :=
  if op = 1 then decide (0 ≤ n) && decide (nm.size = 0)
  else if op = 2 then (decide (n = 0) || decide (n = 1)) && decide (nm.size = 0)
  else if op = 3 then decide (n = 0) && isName nm
  else decide (n = 0) && decide (nm.size = 0)
theorem fields_split (op : Nat) (n : Int) (nm : ByteArray) (len : Nat) : fieldsOk op n nm len = (decide (manyI op = (len : Int)) && fldOk op n nm) := by
  have hz : decide ((0 : Int) = (len : Int)) = decide (len = 0) := by
    by_cases h : len = 0
    · rw [decide_eq_true h, decide_eq_true (by omega)]
    · rw [decide_eq_false h, decide_eq_false (by omega)]
  unfold fieldsOk fldOk
  by_cases h1 : op = 1
  · rw [if_pos h1, if_pos h1, manyI, if_pos (.inl h1), hz]
    cases decide (0 ≤ n) <;> cases decide (nm.size = 0) <;> cases decide (len = 0) <;> rfl
  · rw [if_neg h1, if_neg h1]
    by_cases h2 : op = 2
    · rw [if_pos h2, if_pos h2, manyI, if_pos (.inr (.inl h2)), hz]
      cases (decide (n = 0) || decide (n = 1)) <;> cases decide (nm.size = 0) <;> cases decide (len = 0) <;> rfl
    · rw [if_neg h2, if_neg h2]
      by_cases h3 : op = 3
      · rw [if_pos h3, if_pos h3, manyI, if_pos (.inr (.inr h3)), hz]
        cases decide (n = 0) <;> cases isName nm <;> cases decide (len = 0) <;> rfl
      · rw [if_neg h3, if_neg h3, manyI, if_neg (by omega)]
        by_cases hp : 0 < parts op
        · rw [if_pos hp, decide_eq_true hp]
          have : decide ((parts op : Int) = (len : Int)) = decide (len = parts op) := by
            by_cases h : len = parts op
            · rw [decide_eq_true h, decide_eq_true (by omega)]
            · rw [decide_eq_false h, decide_eq_false (by omega)]
          rw [this]
          cases decide (n = 0) <;> cases decide (nm.size = 0) <;> cases decide (len = parts op) <;> rfl
        · have hl : decide ((-1 : Int) = (len : Int)) = false := decide_eq_false (by omega)
          rw [if_neg hp, decide_eq_false hp, hl]
          rfl
end Go.Proofs.YtmlapodhpinhmaaDoor.Lex
