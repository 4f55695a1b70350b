/-
  The contract of TwinProg.
  A program's twin whose flows are exchanged one by one: what stands while that is done.
  A program with other bodies: plain mathematics, and its memory.
  The document's own: of how many parts an operator is, how great it is, whether it may be.
  The document's own size, and Check.
  The document's own size and Check, whatever it is.
  Whether the twin of a program's rows is as it was: the contracts of LeftIns, LeftTexts, LeftFlow, LeftFlows and LeftProg.
  The document's own Find.
  A program without its outs, with a flow twice, without a flow: what stands while that is made.
-/
import Derived.Test.YtejacmgppnafcaaDoorG8
import Derived.Test.YtejacmgppnafcaaDoorG5
import Derived.Deep.MidRow
import Derived.Test.YtejacmgppnafcaaDoorG2
import Derived.BigQuiet
import Derived.Test.YtejacmgppnafcaaDoorG4
import Derived.Test.YtejacmgppnafcaaDoorG1
import Derived.Deep.QuietTactic
import Derived.Test.YtejacmgppnafcaaDoorG3
import Derived.Deep.AppendLies
import Derived.Deep.RegionLaw
namespace Go.Proofs.YtejacmgppnafcaaDoor.Lex
open Go.ChangeShapes Go.WideShapes Go.ChangeAt Go.RowKit Go.Joins
theorem info26 : (Tryd.prog.info? 26).map (·.size) = some 4 := by kernel_rfl
/-- The first row lies ahead of the second one. -/
def Ord2 (a b : Value) : Prop := ∀ i n c j m d, a = .slice (some ⟨i, 0, none⟩) n c → b = .slice (some ⟨j, 0, none⟩) m d → i < j
set_option maxRecDepth 100000 in
set_option maxHeartbeats 1000000 in
theorem twin_prog2 (p : Pg) (w : World) (a b c : Value) (hP : PgAt w p a b c) :
    Calls Tryd.prog 11 #[pgV p a b c] w fun e w' => ∃ a' b' c', e = .returned (pgV p a' b' c') ∧ TwPg w' w.heap.size p a' b' c' ∧ Below w.heap.size w w' ∧ Ord2 a' b' := by
  obtain ⟨a0, a1, rfl, _⟩ := hP.ins
  obtain ⟨b0, b1, _, rfl, _⟩ := hP.flows
  obtain ⟨c0, c1, rfl, _⟩ := hP.outs
  have P0 := hid hP
  have H2 := hid (bstep ((Below.refl w.heap.size w).alloc (Nat.le_refl _) (.cells (pgC p (.slice a0 p.ins.length a1) (.slice b0 p.flows.length b1) (.slice c0 p.outs.length c1)) 26)) ((Below.refl _ _).alloc (Nat.le_refl _) (.cells #[.int .i64 0, .slice none 0 0, .slice none 0 0, .slice none 0 0] 26)))
  have B0 := box_first w (pgC p (.slice a0 p.ins.length a1) (.slice b0 p.flows.length b1) (.slice c0 p.outs.length c1)) #[.int .i64 0, .slice none 0 0, .slice none 0 0, .slice none 0 0] 26
  clear hP
  go_enter Tryd.func11, Tryd.ntmps11
  go_wp2
  refine wp_region_held_drew (S := fun W => W.cell? ⟨w.heap.size, 0, none⟩ = some (.int .i64 p.st) ∧ W.cell? ⟨w.heap.size, 1, none⟩ = some (.slice a0 p.ins.length a1) ∧ W.cell? ⟨w.heap.size, 2, none⟩ = some (.slice b0 p.flows.length b1) ∧ W.cell? ⟨w.heap.size, 3, none⟩ = some (.slice c0 p.outs.length c1)) (by kernel_rfl) ?_ (fun hHeld => ?_)
  · exact ⟨B0 0 _ rfl, B0 1 _ rfl, B0 2 _ rfl, B0 3 _ rfl⟩
  refine wpAnyH_take (i := 0) (oi := { dst := some 3, op := Go.Op.fieldAddr 26 (Go.Operand.tmp 1) 0, type := 0, pos := _, after := #[], guard := none }) (v := ?_) rfl (by kernel_rfl) (by kernel_rfl) (by kernel_rfl) (fun _ _ _ h => h) (Or.inl ⟨by rfl, ?_⟩) (by assumption) ?_
  rotate_left
  · intro w hSw; (try dsimp only at hSw); go_simp <;> first | with_reducible rfl | (rw [if_neg (by first | omega | (simp only [ByteArray.size_append] at *; omega))])
  simp only [Act.put, List.setIfInBounds_toArray, List.set_cons_zero, List.set_cons_succ]
  refine wpAnyH_take (i := 1) (oi := { dst := some 4, op := Go.Op.load 3 (Go.Operand.tmp 3), type := 3, pos := _, after := #[{ on := 0, ground := Go.Ground.data }], guard := none }) (v := ?_) rfl (by kernel_rfl) (by kernel_rfl) (by kernel_rfl) (fun _ _ _ h => h) (Or.inl ⟨by rfl, ?_⟩) (by assumption) ?_
  rotate_left
  · intro w hSw; (try dsimp only at hSw); go_simp <;> first | with_reducible rfl | (rw [if_neg (by first | omega | (simp only [ByteArray.size_append] at *; omega))])
  simp only [Act.put, List.setIfInBounds_toArray, List.set_cons_zero, List.set_cons_succ]
  refine wpAnyH_take (i := 2) (oi := { dst := some 5, op := Go.Op.fieldAddr 26 (Go.Operand.tmp 1) 1, type := 0, pos := _, after := #[], guard := none }) (v := ?_) rfl (by kernel_rfl) (by kernel_rfl) (by kernel_rfl) (fun _ _ _ h => h) (Or.inl ⟨by rfl, ?_⟩) (by assumption) ?_
  rotate_left
  · intro w hSw; (try dsimp only at hSw); go_simp <;> first | with_reducible rfl | (rw [if_neg (by first | omega | (simp only [ByteArray.size_append] at *; omega))])
  simp only [Act.put, List.setIfInBounds_toArray, List.set_cons_zero, List.set_cons_succ]
  refine wpAnyH_take (i := 3) (oi := { dst := some 6, op := Go.Op.load 22 (Go.Operand.tmp 5), type := 22, pos := _, after := #[{ on := 2, ground := Go.Ground.data }], guard := none }) (v := ?_) rfl (by kernel_rfl) (by kernel_rfl) (by kernel_rfl) (fun _ _ _ h => h) (Or.inl ⟨by rfl, ?_⟩) (by assumption) ?_
  rotate_left
  · intro w hSw; (try dsimp only at hSw); go_simp <;> first | with_reducible rfl | (rw [if_neg (by first | omega | (simp only [ByteArray.size_append] at *; omega))])
  simp only [Act.put, List.setIfInBounds_toArray, List.set_cons_zero, List.set_cons_succ]
  refine wpAnyH_take (i := 5) (oi := { dst := some 8, op := Go.Op.fieldAddr 26 (Go.Operand.tmp 1) 2, type := 0, pos := _, after := #[], guard := none }) (v := ?_) rfl (by kernel_rfl) (by kernel_rfl) (by kernel_rfl) (fun _ _ _ h => h) (Or.inl ⟨by rfl, ?_⟩) (by assumption) ?_
  rotate_left
  · intro w hSw; (try dsimp only at hSw); go_simp <;> first | with_reducible rfl | (rw [if_neg (by first | omega | (simp only [ByteArray.size_append] at *; omega))])
  simp only [Act.put, List.setIfInBounds_toArray, List.set_cons_zero, List.set_cons_succ]
  refine wpAnyH_take (i := 6) (oi := { dst := some 9, op := Go.Op.load 23 (Go.Operand.tmp 8), type := 23, pos := _, after := #[{ on := 5, ground := Go.Ground.data }], guard := none }) (v := ?_) rfl (by kernel_rfl) (by kernel_rfl) (by kernel_rfl) (fun _ _ _ h => h) (Or.inl ⟨by rfl, ?_⟩) (by assumption) ?_
  rotate_left
  · intro w hSw; (try dsimp only at hSw); go_simp <;> first | with_reducible rfl | (rw [if_neg (by first | omega | (simp only [ByteArray.size_append] at *; omega))])
  simp only [Act.put, List.setIfInBounds_toArray, List.set_cons_zero, List.set_cons_succ]
  refine wpAnyH_take (i := 8) (oi := { dst := some 11, op := Go.Op.fieldAddr 26 (Go.Operand.tmp 1) 3, type := 0, pos := _, after := #[], guard := none }) (v := ?_) rfl (by kernel_rfl) (by kernel_rfl) (by kernel_rfl) (fun _ _ _ h => h) (Or.inl ⟨by rfl, ?_⟩) (by assumption) ?_
  rotate_left
  · intro w hSw; (try dsimp only at hSw); go_simp <;> first | with_reducible rfl | (rw [if_neg (by first | omega | (simp only [ByteArray.size_append] at *; omega))])
  simp only [Act.put, List.setIfInBounds_toArray, List.set_cons_zero, List.set_cons_succ]
  refine wpAnyH_take (i := 9) (oi := { dst := some 12, op := Go.Op.load 24 (Go.Operand.tmp 11), type := 24, pos := _, after := #[{ on := 8, ground := Go.Ground.data }], guard := none }) (v := ?_) rfl (by kernel_rfl) (by kernel_rfl) (by kernel_rfl) (fun _ _ _ h => h) (Or.inl ⟨by rfl, ?_⟩) (by assumption) ?_
  rotate_left
  · intro w hSw; (try dsimp only at hSw); go_simp <;> first | with_reducible rfl | (rw [if_neg (by first | omega | (simp only [ByteArray.size_append] at *; omega))])
  simp only [Act.put, List.setIfInBounds_toArray, List.set_cons_zero, List.set_cons_succ]
  refine wpAnyH_ready (rs := [4]) (by kernel_rfl) (by simp) ?_
  refine AllReadyH.cons (o := { dst := some 7, op := Go.Op.call { callee := Go.Callee.value (Go.Operand.func 29), args := #[Go.Operand.tmp 6], argTypes := #[22] }, type := 22, pos := _, after := #[{ on := 3, ground := Go.Ground.data }], guard := none }) rfl (fun K hK => ?_) AllReadyH.nil
  go_simp
  refine (twin_ins _ _ _ (P0.out.keep H2.out.drew).ins).mono ?_
  rintro e w3 ⟨s3, rfl, ht3, hb3⟩
  obtain ⟨g3, k3, rfl, _⟩ := id ht3
  have HB3 := hid (bstep H2.out.drew hb3)
  have HT3 := hid ht3
  have G3 := hid hb3
  obtain ⟨p1, p2, p3⟩ := two_boxes w w3 _ _ 26 hb3
  clear ht3 hb3
  go_wp2_with fail
  refine hK.out _ _ ?_ (fun hHeld1 => ?_)
  · exact ⟨p1 0 _ rfl, p1 1 _ rfl, p1 2 _ rfl, p1 3 _ rfl⟩
  clear hK K
  refine wpAnyH_ready (rs := [7]) (by kernel_rfl) (by simp) ?_
  refine AllReadyH.cons (o := { dst := some 10, op := Go.Op.call { callee := Go.Callee.value (Go.Operand.func 30), args := #[Go.Operand.tmp 9], argTypes := #[23] }, type := 23, pos := _, after := #[{ on := 6, ground := Go.Ground.data }, { on := 4, ground := Go.Ground.chain }], guard := none }) rfl (fun K hK => ?_) AllReadyH.nil
  go_simp
  refine (twin_flows _ _ _ (P0.out.keep HB3.out).flows).mono ?_
  rintro e w4 ⟨s4, rfl, ht4, hb4⟩
  obtain ⟨g4, k4, _, rfl, _⟩ := id ht4
  have HB4 := hid (bstep HB3.out hb4)
  have HT4 := hid ht4
  have G4 := hid (bstep G3.out hb4)
  have F4 := hid hb4
  obtain ⟨q1, q2, q3⟩ := two_boxes w w4 _ _ 26 G4.out
  clear ht4 hb4
  go_wp2_with fail
  refine hK.out _ _ ?_ (fun hHeld2 => ?_)
  · exact ⟨q1 0 _ rfl, q1 1 _ rfl, q1 2 _ rfl, q1 3 _ rfl⟩
  clear hK K
  refine wpAnyH_ready (rs := [10]) (by kernel_rfl) (by simp) ?_
  refine AllReadyH.cons (o := { dst := some 13, op := Go.Op.call { callee := Go.Callee.value (Go.Operand.func 31), args := #[Go.Operand.tmp 12], argTypes := #[24] }, type := 24, pos := _, after := #[{ on := 9, ground := Go.Ground.data }, { on := 7, ground := Go.Ground.chain }], guard := none }) rfl (fun K hK => ?_) AllReadyH.nil
  go_simp
  refine (twin_texts _ _ _ (P0.out.keep HB4.out).outs).mono ?_
  rintro e w5 ⟨s5, rfl, ht5, hb5⟩
  obtain ⟨g5, k5, rfl, _⟩ := id ht5
  have HB5 := hid (bstep HB4.out hb5)
  have HT5 := hid ht5
  have G5 := hid (bstep G4.out hb5)
  have F5 := hid hb5
  obtain ⟨r1, r2, r3⟩ := two_boxes w w5 _ _ 26 G5.out
  clear ht5 hb5
  go_wp2_with fail
  refine hK.out _ _ ?_ (fun hHeld3 => ?_)
  · exact ⟨r1 0 _ rfl, r1 1 _ rfl, r1 2 _ rfl, r1 3 _ rfl⟩
  clear hK K
  refine wpAnyH_take (i := 11) (oi := { dst := some 14, op := Go.Op.build 26 #[(0, Go.Operand.tmp 4), (1, Go.Operand.tmp 7), (2, Go.Operand.tmp 10), (3, Go.Operand.tmp 13)], type := 26, pos := _, after := #[{ on := 1, ground := Go.Ground.data }, { on := 4, ground := Go.Ground.data }, { on := 7, ground := Go.Ground.data }, { on := 10, ground := Go.Ground.data }], guard := none }) (v := ?_) rfl (by kernel_rfl) (by kernel_rfl) (by kernel_rfl) (fun _ _ _ h => h) (Or.inl ⟨by rfl, ?_⟩) (by assumption) ?_
  rotate_left
  · intro w hSw; (try dsimp only at hSw); go_simp <;> first | with_reducible rfl | (rw [if_neg (by first | omega | (simp only [ByteArray.size_append] at *; omega))])
  simp only [Act.put, List.setIfInBounds_toArray, List.set_cons_zero, List.set_cons_succ]
  refine wpAnyH_ready (rs := [12]) (by kernel_rfl) (by simp) ?_
  refine AllReadyH.cons (o := { dst := none, op := Go.Op.store 26 (Go.Operand.tmp 2) (Go.Operand.tmp 14), type := 0, pos := _, after := #[{ on := 11, ground := Go.Ground.data }, { on := 10, ground := Go.Ground.chain }, { on := 0, ground := Go.Ground.phase }, { on := 1, ground := Go.Ground.phase }, { on := 2, ground := Go.Ground.phase }, { on := 3, ground := Go.Ground.phase }, { on := 4, ground := Go.Ground.phase }, { on := 5, ground := Go.Ground.phase }, { on := 6, ground := Go.Ground.phase }, { on := 7, ground := Go.Ground.phase }, { on := 8, ground := Go.Ground.phase }, { on := 9, ground := Go.Ground.phase }, { on := 10, ground := Go.Ground.phase }, { on := 11, ground := Go.Ground.phase }], guard := none }) rfl (fun K hK => ?_) AllReadyH.nil
  refine if_take (by rfl) ?_
  refine wp_store_row 26 _ _ rfl (w.heap.size + 1) (pgC p (.slice (some ⟨g3, 0, none⟩) p.ins.length k3) (.slice (some ⟨g4, 0, none⟩) p.flows.length k4) (.slice (some ⟨g5, 0, none⟩) p.outs.length k5)) rfl rfl 26 _ r3 info26 rfl (by simp [Value.oneCell']) ?_
  refine hK.out _ _ ?_ (fun _ => ?_)
  · have hne : w.heap.size ≠ w.heap.size + 1 := by omega
    have kk : ∀ j v, w5.cell? ⟨w.heap.size, j, none⟩ = some v → (w5.setRow (w.heap.size + 1) (pgC p (.slice (some ⟨g3, 0, none⟩) p.ins.length k3) (.slice (some ⟨g4, 0, none⟩) p.flows.length k4) (.slice (some ⟨g5, 0, none⟩) p.outs.length k5))).cell? ⟨w.heap.size, j, none⟩ = some v := fun j v h => by
      rw [World.cell?_of_block (w := w5) (a := ⟨w.heap.size, j, none⟩) (setRow_other w5 _ _ _ hne)]
      exact h
    exact ⟨kk _ _ (r1 0 _ rfl), kk _ _ (r1 1 _ rfl), kk _ _ (r1 2 _ rfl), kk _ _ (r1 3 _ rfl)⟩
  clear hK K
  refine wpAnyH_done (by kernel_rfl) ?_ _
  go_wp2
  refine bodyPost_ret (results_cell_row rfl _ _ (w.heap.size + 1) 26 (pgC p (.slice (some ⟨g3, 0, none⟩) p.ins.length k3) (.slice (some ⟨g4, 0, none⟩) p.flows.length k4) (.slice (some ⟨g5, 0, none⟩) p.outs.length k5)) (0, 0) _ rfl (setRow_heap _ _ _ _ _ _ r3) Tryd.underlying26 rfl info26) rfl ⟨_, _, _, rfl, ?_, ?_, ?_⟩
  · have hlo : w.heap.size + 2 ≤ (((w.alloc (.cells (pgC p (.slice a0 p.ins.length a1) (.slice b0 p.flows.length b1) (.slice c0 p.outs.length c1)) 26)).alloc (.cells #[.int .i64 0, .slice none 0 0, .slice none 0 0, .slice none 0 0] 26)).drew).heap.size := by simp
    have h3 : w.heap.size + 2 ≤ w3.heap.size := Nat.le_trans hlo G3.out.size
    have h4 : w.heap.size + 2 ≤ w4.heap.size := Nat.le_trans h3 F4.out.size
    have T : TwPg w5 (w.heap.size + 2) p (.slice (some ⟨g3, 0, none⟩) p.ins.length k3) (.slice (some ⟨g4, 0, none⟩) p.flows.length k4) (.slice (some ⟨g5, 0, none⟩) p.outs.length k5) := ⟨P0.out.st, HT3.out.carry (fun b _ hb => (bstep F4.out F5.out).block b hb) hlo, HT4.out.carry (fun b _ hb => F5.out.block b hb) h3, HT5.out.carry (fun _ _ _ => rfl) h4⟩
    exact T.carry (fun b hb _ => setRow_other w5 _ _ _ (by omega)) (by omega)
  · exact below_row HB5.out HB5.out.size (by omega) _
  · intro i n c j m d e1 e2
    injection e1 with e1 _ _
    injection e1 with e1
    injection e1 with e1 _ _
    injection e2 with e2 _ _
    injection e2 with e2
    injection e2 with e2 _ _
    subst e1 e2
    obtain ⟨b, _, e, _, _, _, _, _, _, cur, hk, _⟩ := HT3.out
    injection e with e _ _
    injection e with e
    injection e with e _ _
    subst e
    have l3 := (Array.getElem?_eq_some_iff.1 hk).1
    obtain ⟨b, _, _, e, hlo, _⟩ := HT4.out
    injection e with e _ _
    injection e with e
    injection e with e _ _
    subst e
    omega
theorem twin_prog (p : Pg) (w : World) (a b c : Value) (hP : PgAt w p a b c) :
    Calls Tryd.prog 11 #[pgV p a b c] w fun e w' => ∃ a' b' c', e = .returned (pgV p a' b' c') ∧ TwPg w' w.heap.size p a' b' c' ∧ Below w.heap.size w w' :=
  (twin_prog2 p w a b c hP).mono fun _ _ ⟨a', b', c', h1, h2, h3, _⟩ => ⟨a', b', c', h1, h2, h3⟩
end Go.Proofs.YtejacmgppnafcaaDoor.Lex
namespace Go.Proofs.YtejacmgppnafcaaDoor.Lex
open Go.ChangeShapes Go.WideShapes Go.ChangeAt Go.RowKit Go.Shelf
theorem heap_setCells_other {b j : Nat} (hj : j ≠ b) : ∀ (vs : List Value) (o : Nat) (w : World), (w.setCells b o vs).heap[j]? = w.heap[j]?
  | [], _, _ => rfl
  | v :: r, o, w => by
    rw [World.setCells, heap_setCells_other hj r (o + 1)]
    exact Below.heap_setCell _ _ _ _ hj
theorem grown_setCells (b : Nat) : ∀ (vs : List Value) (o : Nat) (w : World), w.grownBy (w.setCells b o vs) (some b)
  | [], _, w => ⟨rfl, rfl, rfl, Nat.le_refl _, fun _ _ _ => rfl⟩
  | v :: r, o, w => by
    have h := grown_setCells b r (o + 1) (w.setCell ⟨b, o, none⟩ v)
    have g : w.grownBy (w.setCell ⟨b, o, none⟩ v) (some b) := ⟨rfl, rfl, rfl, by simp, fun k _ h => Below.heap_setCell _ _ _ _ (fun e => h (by rw [e]))⟩
    exact ⟨h.os.trans g.os, h.tape.trans g.tape, h.output.trans g.output, Nat.le_trans g.size h.size, fun k hk hn => (h.block k (Nat.lt_of_lt_of_le hk g.size) hn).trans (g.block k hk hn)⟩
theorem Blk.set {b t c cap : Nat} : ∀ (vs : List Value) (o : Nat) (w : World), Blk w b t c cap → Blk (w.setCells b o vs) b t c cap
  | [], _, _, h => h
  | v :: r, o, w, h => by
    obtain ⟨cur, h1, h2, h3⟩ := h
    rw [World.setCells]
    exact Blk.set r (o + 1) _ ⟨_, set_same h1 o v, by simpa using h2, h3⟩
theorem Blk.keep {w w' : World} {b t c cap : Nat} (h : Blk w b t c cap) (hb : Below w.heap.size w w') : Blk w' b t c cap := h.carry (lo := 0) (fun b _ hlt => hb.block b hlt) (Nat.zero_le _)
theorem Blk.there {w : World} {b t c cap o n : Nat} (h : Blk w b t c cap) (ho : o + n ≤ cap * c) : w.there b o n := by
  obtain ⟨cur, h1, h2, _⟩ := h
  intro j hj
  refine ⟨?_, ?_⟩
  · rw [cell_of_row w b (o + j) cur t (0, 0) h1]
    have : o + j < cur.size := by omega
    simp [this]
  · unfold World.frozen?
    rw [h1]
    simp
theorem InsAt.apart {w W : World} {l : List Hd} {b0 n c fb : Nat} (h : InsAt w l (.slice (some ⟨b0, 0, none⟩) n c)) (hne : b0 ≠ fb) (hk : ∀ b, b < w.heap.size → b ≠ fb → W.heap[b]? = w.heap[b]?) : InsAt W l (.slice (some ⟨b0, 0, none⟩) n c) := by
  obtain ⟨ao, cap, e, h1, h2, h3, h4⟩ := h
  refine ⟨ao, cap, e, h1, h2, h3, h4.imp_right ?_⟩
  rintro ⟨b, o, ha, hc⟩
  refine ⟨b, o, ha, fun i hi => ?_⟩
  subst ha
  injection e with e1 _ _
  injection e1 with e1
  injection e1 with e1 _ _
  subst e1
  have k : ∀ {o v}, w.cell? ⟨b0, o, none⟩ = some v → W.cell? ⟨b0, o, none⟩ = some v := fun {o v} h => by
    rw [World.cell?_of_block (w := w) (a := ⟨b0, o, none⟩) (hk b0 (World.block_lt_of_cell? w _ h) hne)]
    exact h
  exact ⟨k (hc i hi).1, k (hc i hi).2.1, k (hc i hi).2.2⟩
theorem TextsAt.apart {w W : World} {l : List ByteArray} {b0 n c fb : Nat} (h : TextsAt w l (.slice (some ⟨b0, 0, none⟩) n c)) (hne : b0 ≠ fb) (hk : ∀ b, b < w.heap.size → b ≠ fb → W.heap[b]? = w.heap[b]?) : TextsAt W l (.slice (some ⟨b0, 0, none⟩) n c) := by
  obtain ⟨ao, cap, e, h1, h2, h3, h4⟩ := h
  refine ⟨ao, cap, e, h1, h2, h3, h4.imp_right ?_⟩
  rintro ⟨b, o, ha, hc⟩
  refine ⟨b, o, ha, fun i hi => ?_⟩
  subst ha
  injection e with e1 _ _
  injection e1 with e1
  injection e1 with e1 _ _
  subst e1
  rw [World.cell?_of_block (w := w) (a := ⟨b0, o + i, none⟩) (hk b0 (World.block_lt_of_cell? w _ (hc i hi)) hne)]
  exact hc i hi
theorem Blk.ne {w : World} {b b' t t' c c' cap cap' : Nat} (h : Blk w b t c cap) (h' : Blk w b' t' c' cap') (ht : t ≠ t') : b ≠ b' := by
  rintro rfl
  obtain ⟨cur, h1, _⟩ := h
  obtain ⟨cur', h1', _⟩ := h'
  rw [h1] at h1'
  injection h1' with h1'
  injection h1' with _ e _
  exact ht e
/-- While the flows are turned. -/
structure TQ (w w9 : World) (p : Pg) (A B C a' c' : Value) (fb cap : Nat) (sl : Nat → Value) (k : Nat) (W : World) : Prop where
  below : Below w.heap.size w W
  row : W.heap[w.heap.size]? = some (.cells (pgC p A B C) 26 (0, 0))
  qrow : W.heap[w9.heap.size]? = some (.cells (pgC p a' (.slice (some ⟨fb, 0, none⟩) p.flows.length cap) c') 26 (0, 0))
  same : ∀ b, b < w9.heap.size → b ≠ fb → W.heap[b]? = w9.heap[b]?
  blk : Blk W fb 53 8 cap
  done : ∀ i (h : i < p.flows.length), i < k → FlCells W fb (i * 8) (p.flows[p.flows.length - 1 - i]) (sl (p.flows.length - 1 - i))
theorem TQ.start {w w9 : World} {p : Pg} {A B C a' c' : Value} {fb cap : Nat} {sl : Nat → Value} (h : FV w p A B C w9) (hb : Blk w9 fb 53 8 cap) :
    TQ w w9 p A B C a' c' fb cap sl 0 (w9.alloc (.cells #[.int .i64 p.st, a', .slice (some ⟨fb, 0, none⟩) p.flows.length cap, c'] 26)) where
  below := h.below.alloc h.below.size _
  row := push_old h.row
  qrow := push_new _ _ _ rfl
  same := fun b hb _ => Below.heap_alloc _ _ _ hb
  blk := hb.keep ((Below.refl _ _).alloc (Nat.le_refl _) _)
  done := fun i _ h => by omega
theorem TQ.keep {w w9 : World} {p : Pg} {A B C a' c' : Value} {fb cap : Nat} {sl : Nat → Value} {k : Nat} {W W' : World} (h : TQ w w9 p A B C a' c' fb cap sl k W) (hb : Below W.heap.size W W') : TQ w w9 p A B C a' c' fb cap sl k W' where
  below := h.below.trans (hb.mono h.below.size)
  row := keep_row h.row hb
  qrow := keep_row h.qrow hb
  same := fun b h1 h2 => (hb.block b (Nat.lt_of_lt_of_le (Nat.lt_of_lt_of_le h1 (Nat.le_of_lt (Array.getElem?_eq_some_iff.1 h.qrow).1)) (Nat.le_refl _))).trans (h.same b h1 h2)
  blk := h.blk.keep hb
  done := fun i h1 h2 => (h.done i h1 h2).keep hb
theorem TQ.store {w w9 : World} {p : Pg} {A B C a' c' : Value} {fb cap : Nat} {sl : Nat → Value} {k m : Nat} {W : World} (h : TQ w w9 p A B C a' c' fb cap sl k W) (h1 : w.heap.size < fb) (h2 : fb < w9.heap.size) (hc : p.flows.length < cap) (hm : p.flows.length = k + 1 + m) (y : Fl) (hy : p.flows[m]'(by omega) = y) (s : Value) (hs : sl m = s) : TQ w w9 p A B C a' c' fb cap sl (k + 1) (W.setCells fb (k * 8) (flL y s)) where
  below := h.below.grown (grown_setCells _ _ _ _) h.below.size (fun j hj => by cases hj; omega)
  row := by rw [heap_setCells_other (by omega)]; exact h.row
  qrow := by rw [heap_setCells_other (by omega)]; exact h.qrow
  same := fun b hb hn => by rw [heap_setCells_other hn]; exact h.same b hb hn
  blk := h.blk.set _ _ _
  done := fun i hi hik => by
    have ht := h.blk.there (o := k * 8) (n := 8) (by omega)
    by_cases e : i = k
    · subst e
      have C := World.rangeAt_setCells_same W fb (i * 8) (flL y s) ht
      have e1 : p.flows.length - 1 - i = m := by omega
      subst hy hs
      simp only [e1]
      exact ⟨C 0 _ rfl, C 1 _ rfl, C 2 _ rfl, C 3 _ rfl, C 4 _ rfl, C 5 _ rfl, C 6 _ rfl, C 7 _ rfl⟩
    · obtain ⟨d0, d1, d2, d3, d4, d5, d6, d7⟩ := h.done i hi (by omega)
      have k' : ∀ {o v}, o < k * 8 → W.cell? ⟨fb, o, none⟩ = some v → (W.setCells fb (k * 8) (flL y s)).cell? ⟨fb, o, none⟩ = some v := fun {o v} ho hv => by
        rw [World.cell?_setCells_out fb _ _ _ _ (fun _ _ => Or.inl ho)]; exact hv
      exact ⟨k' (by omega) d0, k' (by omega) d1, k' (by omega) d2, k' (by omega) d3, k' (by omega) d4, k' (by omega) d5, k' (by omega) d6, k' (by omega) d7⟩
/-- The program with its flows turned. -/
abbrev revP (p : Pg) : Pg := { p with flows := p.flows.reverse }
theorem TQ.pg {w w9 : World} {p : Pg} {A B C a' c' : Value} {fb cap : Nat} {sl : Nat → Value} {W : World} {lo : Nat} (h : TQ w w9 p A B C a' c' fb cap sl p.flows.length W)
    (hT : TwPg w9 lo p a' (.slice (some ⟨fb, 0, none⟩) p.flows.length cap) c') (hS : ∀ i (h : i < p.flows.length), St w p.flows[i].body (sl i)) :
    PgAt W (revP p) a' (.slice (some ⟨fb, 0, none⟩) p.flows.length cap) c' := by
  obtain ⟨b1, c1, e1, _, _, _, _, _, _, k1⟩ := id hT.ins
  obtain ⟨b3, c3, e3, _, _, _, _, _, _, k3⟩ := id hT.outs
  obtain ⟨b2, c2, sl2, e2, _, g1, g2, g3, _, _, _, k2⟩ := id hT.flows
  injection e2 with e2 _ e4
  injection e2 with e2
  injection e2 with e2 _ _
  subst e2 e4
  have hi := hT.ins.at
  have ho := hT.outs.at
  rw [e1] at hi ⊢
  rw [e3] at ho ⊢
  refine ⟨hT.st, hi.apart (k1.ne k2 (by decide)) h.same, ?_, ho.apart (k3.ne k2 (by decide)) h.same⟩
  refine ⟨some ⟨fb, 0, none⟩, cap, fun i => sl (p.flows.length - 1 - i), by simp, by simpa using g1, by simp; omega, fun x hx => g3 x (by simpa using hx), .inr ⟨fb, 0, rfl, fun i hi => ?_⟩, fun i hi => ?_⟩
  · have hi' : i < p.flows.length := by simpa using hi
    have := h.done i hi' hi'
    simpa using this
  · have hi' : i < p.flows.length := by simpa using hi
    have := (hS (p.flows.length - 1 - i) (by omega)).keep h.below
    simpa using this
end Go.Proofs.YtejacmgppnafcaaDoor.Lex
namespace Go.Proofs.YtejacmgppnafcaaDoor.Lex
open Go.ChangeShapes Go.WideShapes Go.ChangeAt Go.RowKit Go.Joins
/-- With other bodies. -/
def bod (g : Nat → Fl → Ex) (l : List Fl) : List Fl := l.mapIdx fun i f => ⟨f.name, f.ty, f.st, f.df, g i f⟩
theorem bod_len (g : Nat → Fl → Ex) (l : List Fl) : (bod g l).length = l.length := by simp [bod]
theorem bod_get (g : Nat → Fl → Ex) (l : List Fl) (i : Nat) (h : i < l.length) : (bod g l)[i]'(by rw [bod_len]; exact h) = ⟨l[i].name, l[i].ty, l[i].st, l[i].df, g i l[i]⟩ := by simp [bod]
theorem bod_names (g : Nat → Fl → Ex) (l : List Fl) : (bod g l).map (·.name) = l.map (·.name) := by
  apply List.ext_getElem
  · simp [bod_len]
  · intro i h1 h2
    simp [bod]
theorem bod_same (g : Nat → Fl → Ex) (l : List Fl) (h : ∀ i (hi : i < l.length), g i l[i] = l[i].body) : bod g l = l := by
  apply List.ext_getElem
  · exact bod_len g l
  · intro i h1 h2
    rw [bod_get g l i h2, h i h2]
theorem bod_set (g g' : Nat → Fl → Ex) (l : List Fl) (k : Nat) (hk : k < l.length) (h : ∀ i (hi : i < l.length), i ≠ k → g' i l[i] = g i l[i]) : (bod g l).set k ⟨l[k].name, l[k].ty, l[k].st, l[k].df, g' k l[k]⟩ = bod g' l := by
  apply List.ext_getElem
  · simp [bod_len]
  · intro i h1 h2
    have hi : i < l.length := by rw [bod_len] at h2; exact h2
    rw [bod_get g' l i hi, List.getElem_set]
    by_cases e : k = i
    · subst e; rw [if_pos rfl]
    · rw [if_neg e, bod_get g l i hi, h i hi (Ne.symm e)]
/-- The program with them. -/
abbrev bodP (g : Nat → Fl → Ex) (p : Pg) : Pg := ⟨p.st, p.ins, bod g p.flows, p.outs⟩
theorem bod_mem {g : Nat → Fl → Ex} {l : List Fl} {f : Fl} (h : f ∈ bod g l) : ∃ i, ∃ hi : i < l.length, f = ⟨l[i].name, l[i].ty, l[i].st, l[i].df, g i l[i]⟩ := by
  obtain ⟨i, hi, rfl⟩ := List.getElem_of_mem h
  have hi' : i < l.length := by rw [bod_len] at hi; exact hi
  exact ⟨i, hi', bod_get g l i hi'⟩
theorem cnt_mem {l : List ByteArray} {s : ByteArray} (h : s ∈ l) : cntN l s.data.toList ≠ 0 := by
  unfold cntN
  have := List.length_pos_of_mem (List.mem_filter (p := fun s' : ByteArray => decide (s.data.toList = s'.data.toList)).2 ⟨h, by simp⟩)
  omega
theorem nm_bodies {p : Pg} {g : Nat → Fl → Ex} (h : nmErr p = 0) (hh : ∀ i (hi : i < p.flows.length), chk (g i p.flows[i]) = true ∧ ∀ s ∈ nmz 32 (g i p.flows[i]), s ∈ p.flows.map (·.name)) : nmErr (bodP g p) = 0 := by
  obtain ⟨h1, h2⟩ := nmErr_zero h
  have k1 : pgOk (bodP g p) = true := by
    unfold pgOk roomOk at h1 ⊢
    simp only [Bool.and_eq_true, List.all_eq_true, bod_len] at h1 ⊢
    refine ⟨h1.1, h1.2.1, fun f hf => ?_, h1.2.2.2⟩
    obtain ⟨i, hi, rfl⟩ := bod_mem hf
    have := h1.2.2.1 _ (List.getElem_mem hi)
    unfold flOk at this ⊢
    simp only [Bool.and_eq_true] at this ⊢
    exact ⟨this.1, this.2.1, (hh i hi).1⟩
  have hn : namesOf (bodP g p) = namesOf p := by
    unfold namesOf
    show _ ++ (bod g p.flows).map (·.name) = _
    rw [bod_names]
  have k2 : nmOk (bodP g p) = true := by
    rw [nmOk_parts] at h2 ⊢
    rw [hn]
    refine ⟨h2.1, fun s hs => ?_, h2.2.2⟩
    unfold askedL at hs
    obtain ⟨f, hf, hs⟩ := List.mem_flatMap.1 hs
    obtain ⟨i, hi, rfl⟩ := bod_mem (show f ∈ bod g p.flows from hf)
    unfold asksOf at hs
    obtain ⟨r, hr, rfl⟩ := List.mem_map.1 hs
    have hm := (gat_mem 32 _ 0 r).1 hr
    have := (hh i hi).2 r.1 (by rw [← pl_nmz 32 _ 0]; exact List.mem_map.2 ⟨r, hm, rfl⟩)
    exact cnt_mem (List.mem_append.2 (.inr this))
  unfold nmErr
  rw [if_pos k1, if_pos k2]
/-- Behind a beginning, an instant ago; without one. -/
abbrev preB (nm : ByteArray) : Ex := ⟨19, 0, ⟨#[]⟩, [⟨3, 0, nm, []⟩]⟩
abbrev begB (nm : ByteArray) : Ex := ⟨18, 0, ⟨#[]⟩, [exO, preB nm]⟩
theorem chk_beg {nm : ByteArray} (h : isName nm = true) : chk (preB nm) = true ∧ chk (begB nm) = true := by
  have f3 : fieldsOk 3 0 nm 0 = true := by simp [fieldsOk, h]
  have f19 : fieldsOk 19 0 ⟨#[]⟩ 1 = true := by decide +kernel
  have f18 : fieldsOk 18 0 ⟨#[]⟩ 2 = true := by decide +kernel
  have f1 : fieldsOk 1 0 ⟨#[]⟩ 0 = true := by decide +kernel
  constructor
  · simp [chk, sz, szL, f3, f19]
  · simp [chk, sz, szL, f3, f19, f18, f1]
theorem nmz_pre (nm : ByteArray) : nmz 32 (preB nm) = [nm] ∧ nmz 32 (begB nm) = [nm] := by
  constructor <;> rfl
theorem st_pre (nm : ByteArray) : stE (preB nm) = 1 := by
  have h : stE ⟨3, 0, nm, []⟩ = 0 := by rw [stE_eq]; rfl
  rw [stE_eq]; simp [ruleS, lat, h]
theorem st_beg (nm : ByteArray) : stE (begB nm) = 0 := by
  have h : stE exO = 0 := by rw [stE_eq]; rfl
  rw [stE_eq]; simp [ruleS, beg, h, st_pre]
theorem flow_name {p : Pg} (h : nmErr p = 0) {f : Fl} (hf : f ∈ p.flows) : isName f.name = true := by
  obtain ⟨h1, _⟩ := nmErr_zero h
  unfold pgOk at h1
  simp only [Bool.and_eq_true, List.all_eq_true] at h1
  have := h1.2.2.1 f hf
  unfold flOk hdOk at this
  simp only [Bool.and_eq_true] at this
  exact this.1.1
theorem ck_beg {p : Pg} (h : nmErr p = 0) : ckV (bodP (fun _ f => begB f.name) p) = 0 := by
  have hn := nm_bodies (g := fun _ f => begB f.name) h (fun i hi => ⟨(chk_beg (flow_name h (List.getElem_mem hi))).2, fun s hs => by
    rw [(nmz_pre _).2, List.mem_singleton] at hs
    rw [hs]
    exact List.mem_map.2 ⟨_, List.getElem_mem hi, rfl⟩⟩)
  unfold ckV
  rw [if_pos hn, if_pos]
  refine List.all_eq_true.2 fun f hf => ?_
  obtain ⟨i, hi, rfl⟩ := bod_mem (show f ∈ bod _ p.flows from hf)
  unfold flS
  simp [st_beg]
theorem ck_pre {p : Pg} (h : nmErr p = 0) {k : Nat} (hk : k < p.flows.length) {nm : ByteArray} (hm : ∃ f ∈ p.flows, f.name = nm) : ckV (bodP (fun i f => if i = k then preB nm else begB f.name) p) = 9 := by
  obtain ⟨f0, hf0, rfl⟩ := hm
  have hn := nm_bodies (g := fun i f => if i = k then preB f0.name else begB f.name) h (fun i hi => by
    by_cases e : i = k
    · simp only [e, if_true]
      refine ⟨(chk_beg (flow_name h hf0)).1, fun s hs => ?_⟩
      rw [(nmz_pre _).1, List.mem_singleton] at hs
      rw [hs]
      exact List.mem_map.2 ⟨_, hf0, rfl⟩
    · simp only [e, if_false]
      refine ⟨(chk_beg (flow_name h (List.getElem_mem hi))).2, fun s hs => ?_⟩
      rw [(nmz_pre _).2, List.mem_singleton] at hs
      rw [hs]
      exact List.mem_map.2 ⟨_, List.getElem_mem hi, rfl⟩)
  unfold ckV
  rw [if_pos hn, if_neg]
  intro ha
  have hx := List.all_eq_true.1 ha ((bod (fun i f => if i = k then preB f0.name else begB f.name) p.flows)[k]'(by rw [bod_len]; exact hk)) (List.getElem_mem _)
  rw [bod_get _ _ _ hk] at hx
  unfold flS at hx
  simp [st_pre] at hx
/-- A twin of a program, whose flows have bodies that lie behind their row. -/
structure PQ (W : World) (fb cap : Nat) (p : Pg) (l : List Fl) (a c : Value) : Prop where
  st : -9223372036854775808 ≤ p.st ∧ p.st ≤ 9223372036854775807
  ins : ∃ ib ic, a = .slice (some ⟨ib, 0, none⟩) p.ins.length ic ∧ ib ≠ fb
  insAt : InsAt W p.ins a
  outs : ∃ ob oc, c = .slice (some ⟨ob, 0, none⟩) p.outs.length oc ∧ ob ≠ fb
  outsAt : TextsAt W p.outs c
  len : l.length ≤ 1466015503658 ∧ l.length < cap
  ok : ∀ x ∈ l, x.ok
  flows : ∀ i (h : i < l.length), ∃ s, FlCells W fb (i * 8) l[i] s ∧ Hi (fb + 1) W l[i].body s
  blk : Blk W fb 53 8 cap
theorem Tw.hi {W : World} {lo : Nat} {x : Ex} {s : Value} (h : Tw W lo x s) : Hi lo W x s := fun V hV => (h.carry (w' := V) hV).st
theorem PQ.ofTw {W : World} {lo : Nat} {p : Pg} {a c : Value} {fb n cap : Nat} (h : TwPg W lo p a (.slice (some ⟨fb, 0, none⟩) n cap) c) : PQ W fb cap p p.flows a c := by
  obtain ⟨b1, c1, e1, _, _, _, _, _, _, k1⟩ := id h.ins
  obtain ⟨b3, c3, e3, _, _, _, _, _, _, k3⟩ := id h.outs
  obtain ⟨b2, c2, sl2, e2, _, g1, g2, g3, g4, _, g5, k2⟩ := id h.flows
  injection e2 with e2 _ e4
  injection e2 with e2
  injection e2 with e2 _ _
  subst e2 e4
  exact ⟨h.st, ⟨b1, c1, e1, k1.ne k2 (by decide)⟩, h.ins.at, ⟨b3, c3, e3, k3.ne k2 (by decide)⟩, h.outs.at, ⟨g1, g2⟩, g3, fun i hi => ⟨sl2 i, g4 i hi, (g5 i hi).hi⟩, k2⟩
theorem PQ.lt {W : World} {fb cap : Nat} {p : Pg} {l : List Fl} {a c : Value} (h : PQ W fb cap p l a c) : fb + 1 ≤ W.heap.size := by
  obtain ⟨cur, h1, _⟩ := h.blk
  exact (Array.getElem?_eq_some_iff.1 h1).1
theorem PQ.keep {W W' : World} {fb cap : Nat} {p : Pg} {l : List Fl} {a c : Value} (h : PQ W fb cap p l a c) (hb : Below W.heap.size W W') : PQ W' fb cap p l a c :=
  ⟨h.st, h.ins, h.insAt.keep hb, h.outs, h.outsAt.keep hb, h.len, h.ok, fun i hi => by obtain ⟨s, h1, h2⟩ := h.flows i hi; exact ⟨s, h1.keep hb, h2.keep hb h.lt⟩, h.blk.keep hb⟩
abbrev exL (x : Ex) (s : Value) : List Value := [.int .u8 (x.op : Int), .int .i64 x.n, .string x.name, s]
theorem Hi.cells {lo : Nat} {W : World} {x : Ex} {s : Value} (h : Hi lo W x s) {b : Nat} (hb : b < lo) (o : Nat) (vs : List Value) : Hi lo (W.setCells b o vs) x s := fun V hV => h V (fun c h1 h2 => (hV c h1 (by
  have := (grown_setCells b vs o W).size
  omega)).trans (heap_setCells_other (by omega) vs o W))
theorem PQ.put {W : World} {fb cap : Nat} {p : Pg} {l : List Fl} {a c : Value} (h : PQ W fb cap p l a c) {k : Nat} (hk : k < l.length) {x : Ex} {s : Value} (hx : Hi (fb + 1) W x s) : PQ (W.setCells fb (k * 8 + 4) (exL x s)) fb cap p (l.set k ⟨l[k].name, l[k].ty, l[k].st, l[k].df, x⟩) a c := by
  have hsame : ∀ b, b < W.heap.size → b ≠ fb → (W.setCells fb (k * 8 + 4) (exL x s)).heap[b]? = W.heap[b]? := fun b _ hb => heap_setCells_other hb _ _ _
  have hl := h.len
  have ht := h.blk.there (o := k * 8 + 4) (n := 4) (by omega)
  obtain ⟨ib, ic, ei, ni⟩ := h.ins
  obtain ⟨ob, oc, eo, no⟩ := h.outs
  refine ⟨h.st, h.ins, by have := h.insAt; rw [ei] at this ⊢; exact this.apart ni hsame, h.outs, by have := h.outsAt; rw [eo] at this ⊢; exact this.apart no hsame, by simpa using hl, ?_, ?_, h.blk.set _ _ _⟩
  · intro y hy
    rcases List.mem_or_eq_of_mem_set hy with hy | hy
    · exact h.ok y hy
    · rw [hy]; have := h.ok _ (List.getElem_mem hk); exact ⟨this.1, this.2.1, this.2.2.1, this.2.2.2⟩
  · intro i hi
    have hi' : i < l.length := by simpa using hi
    have far : ∀ {o : Nat} {v : Value}, (o < k * 8 + 4 ∨ k * 8 + 8 ≤ o) → W.cell? ⟨fb, o, none⟩ = some v → (W.setCells fb (k * 8 + 4) (exL x s)).cell? ⟨fb, o, none⟩ = some v := fun {o v} ho hv => by
      rw [World.cell?_setCells_out fb _ _ _ _ (fun _ _ => by simp; omega)]; exact hv
    obtain ⟨si, hc, hs⟩ := h.flows i hi'
    by_cases e : i = k
    · subst e
      have C := World.rangeAt_setCells_same W fb (i * 8 + 4) (exL x s) ht
      rw [List.getElem_set_self]
      exact ⟨s, ⟨far (by omega) hc.1, far (by omega) hc.2.1, far (by omega) hc.2.2.1, far (by omega) hc.2.2.2.1, C 0 _ rfl, C 1 _ rfl, C 2 _ rfl, C 3 _ rfl⟩, hx.cells (by omega) _ _⟩
    · rw [List.getElem_set_ne (Ne.symm e)]
      exact ⟨si, ⟨far (by omega) hc.1, far (by omega) hc.2.1, far (by omega) hc.2.2.1, far (by omega) hc.2.2.2.1, far (by omega) hc.2.2.2.2.1, far (by omega) hc.2.2.2.2.2.1, far (by omega) hc.2.2.2.2.2.2.1, far (by omega) hc.2.2.2.2.2.2.2⟩, hs.cells (by omega) _ _⟩
theorem PQ.at {W : World} {fb cap : Nat} {p : Pg} {l : List Fl} {a c : Value} (h : PQ W fb cap p l a c) : PgAt W ⟨p.st, p.ins, l, p.outs⟩ a (.slice (some ⟨fb, 0, none⟩) l.length cap) c := by
  have hc : ∀ i, ∃ s, ∀ hi : i < l.length, FlCells W fb (i * 8) l[i] s ∧ Hi (fb + 1) W l[i].body s := fun i => by
    by_cases hi : i < l.length
    · obtain ⟨s, hs⟩ := h.flows i hi
      exact ⟨s, fun _ => hs⟩
    · exact ⟨N0, fun h => (hi h).elim⟩
  obtain ⟨sl, hsl⟩ := Classical.axiomOfChoice hc
  have hl := h.len
  exact ⟨h.st, h.insAt, ⟨some ⟨fb, 0, none⟩, cap, sl, rfl, hl.1, by show l.length ≤ cap; omega, h.ok, .inr ⟨fb, 0, rfl, fun i hi => by have := (hsl i hi).1; simpa using this⟩, fun i hi => (hsl i hi).2.st⟩, h.outsAt⟩
end Go.Proofs.YtejacmgppnafcaaDoor.Lex
namespace Go.Proofs.YtejacmgppnafcaaDoor.Lex
open Go.ChangeShapes Go.WideShapes Go.ChangeAt Go.RowKit Go.Joins
/-- Of how many parts; below 0: none. -/
def manyI (op : Nat) : Int := if op = 1 ∨ op = 2 ∨ op = 3 then 0 else if 0 < parts op then (parts op : Int) else -1
theorem many_1 (w : World) : Calls Tryd.prog 75 #[.int .u8 (1 : Int)] w fun e w' => e = .returned (.int .i64 (manyI 1)) ∧ w' = w := by
  have h : manyI 1 = 0 := by decide
  rw [h]
  go_enter Tryd.func75, Tryd.ntmps75
  go_wp2
  go_ret
  exact ⟨rfl, rfl⟩
theorem many_2 (w : World) : Calls Tryd.prog 75 #[.int .u8 (2 : Int)] w fun e w' => e = .returned (.int .i64 (manyI 2)) ∧ w' = w := by
  have h : manyI 2 = 0 := by decide
  rw [h]
  go_enter Tryd.func75, Tryd.ntmps75
  go_wp2
  go_ret
  exact ⟨rfl, rfl⟩
theorem many_3 (w : World) : Calls Tryd.prog 75 #[.int .u8 (3 : Int)] w fun e w' => e = .returned (.int .i64 (manyI 3)) ∧ w' = w := by
  have h : manyI 3 = 0 := by decide
  rw [h]
  go_enter Tryd.func75, Tryd.ntmps75
  go_wp2
  go_ret
  exact ⟨rfl, rfl⟩
theorem many_4 (w : World) : Calls Tryd.prog 75 #[.int .u8 (4 : Int)] w fun e w' => e = .returned (.int .i64 (manyI 4)) ∧ w' = w := by
  have h : manyI 4 = 1 := by decide
  rw [h]
  go_enter Tryd.func75, Tryd.ntmps75
  go_wp2
  go_ret
  exact ⟨rfl, rfl⟩
theorem many_5 (w : World) : Calls Tryd.prog 75 #[.int .u8 (5 : Int)] w fun e w' => e = .returned (.int .i64 (manyI 5)) ∧ w' = w := by
  have h : manyI 5 = 1 := by decide
  rw [h]
  go_enter Tryd.func75, Tryd.ntmps75
  go_wp2
  go_ret
  exact ⟨rfl, rfl⟩
theorem many_6 (w : World) : Calls Tryd.prog 75 #[.int .u8 (6 : Int)] w fun e w' => e = .returned (.int .i64 (manyI 6)) ∧ w' = w := by
  have h : manyI 6 = 2 := by decide
  rw [h]
  go_enter Tryd.func75, Tryd.ntmps75
  go_wp2
  go_ret
  exact ⟨rfl, rfl⟩
theorem many_7 (w : World) : Calls Tryd.prog 75 #[.int .u8 (7 : Int)] w fun e w' => e = .returned (.int .i64 (manyI 7)) ∧ w' = w := by
  have h : manyI 7 = 2 := by decide
  rw [h]
  go_enter Tryd.func75, Tryd.ntmps75
  go_wp2
  go_ret
  exact ⟨rfl, rfl⟩
theorem many_8 (w : World) : Calls Tryd.prog 75 #[.int .u8 (8 : Int)] w fun e w' => e = .returned (.int .i64 (manyI 8)) ∧ w' = w := by
  have h : manyI 8 = 2 := by decide
  rw [h]
  go_enter Tryd.func75, Tryd.ntmps75
  go_wp2
  go_ret
  exact ⟨rfl, rfl⟩
theorem many_9 (w : World) : Calls Tryd.prog 75 #[.int .u8 (9 : Int)] w fun e w' => e = .returned (.int .i64 (manyI 9)) ∧ w' = w := by
  have h : manyI 9 = 2 := by decide
  rw [h]
  go_enter Tryd.func75, Tryd.ntmps75
  go_wp2
  go_ret
  exact ⟨rfl, rfl⟩
theorem many_10 (w : World) : Calls Tryd.prog 75 #[.int .u8 (10 : Int)] w fun e w' => e = .returned (.int .i64 (manyI 10)) ∧ w' = w := by
  have h : manyI 10 = 2 := by decide
  rw [h]
  go_enter Tryd.func75, Tryd.ntmps75
  go_wp2
  go_ret
  exact ⟨rfl, rfl⟩
theorem many_11 (w : World) : Calls Tryd.prog 75 #[.int .u8 (11 : Int)] w fun e w' => e = .returned (.int .i64 (manyI 11)) ∧ w' = w := by
  have h : manyI 11 = 2 := by decide
  rw [h]
  go_enter Tryd.func75, Tryd.ntmps75
  go_wp2
  go_ret
  exact ⟨rfl, rfl⟩
theorem many_12 (w : World) : Calls Tryd.prog 75 #[.int .u8 (12 : Int)] w fun e w' => e = .returned (.int .i64 (manyI 12)) ∧ w' = w := by
  have h : manyI 12 = 2 := by decide
  rw [h]
  go_enter Tryd.func75, Tryd.ntmps75
  go_wp2
  go_ret
  exact ⟨rfl, rfl⟩
theorem many_13 (w : World) : Calls Tryd.prog 75 #[.int .u8 (13 : Int)] w fun e w' => e = .returned (.int .i64 (manyI 13)) ∧ w' = w := by
  have h : manyI 13 = 2 := by decide
  rw [h]
  go_enter Tryd.func75, Tryd.ntmps75
  go_wp2
  go_ret
  exact ⟨rfl, rfl⟩
theorem many_14 (w : World) : Calls Tryd.prog 75 #[.int .u8 (14 : Int)] w fun e w' => e = .returned (.int .i64 (manyI 14)) ∧ w' = w := by
  have h : manyI 14 = 2 := by decide
  rw [h]
  go_enter Tryd.func75, Tryd.ntmps75
  go_wp2
  go_ret
  exact ⟨rfl, rfl⟩
theorem many_15 (w : World) : Calls Tryd.prog 75 #[.int .u8 (15 : Int)] w fun e w' => e = .returned (.int .i64 (manyI 15)) ∧ w' = w := by
  have h : manyI 15 = 2 := by decide
  rw [h]
  go_enter Tryd.func75, Tryd.ntmps75
  go_wp2
  go_ret
  exact ⟨rfl, rfl⟩
theorem many_16 (w : World) : Calls Tryd.prog 75 #[.int .u8 (16 : Int)] w fun e w' => e = .returned (.int .i64 (manyI 16)) ∧ w' = w := by
  have h : manyI 16 = 2 := by decide
  rw [h]
  go_enter Tryd.func75, Tryd.ntmps75
  go_wp2
  go_ret
  exact ⟨rfl, rfl⟩
theorem many_17 (w : World) : Calls Tryd.prog 75 #[.int .u8 (17 : Int)] w fun e w' => e = .returned (.int .i64 (manyI 17)) ∧ w' = w := by
  have h : manyI 17 = 3 := by decide
  rw [h]
  go_enter Tryd.func75, Tryd.ntmps75
  go_wp2
  go_ret
  exact ⟨rfl, rfl⟩
theorem many_18 (w : World) : Calls Tryd.prog 75 #[.int .u8 (18 : Int)] w fun e w' => e = .returned (.int .i64 (manyI 18)) ∧ w' = w := by
  have h : manyI 18 = 2 := by decide
  rw [h]
  go_enter Tryd.func75, Tryd.ntmps75
  go_wp2
  go_ret
  exact ⟨rfl, rfl⟩
theorem many_19 (w : World) : Calls Tryd.prog 75 #[.int .u8 (19 : Int)] w fun e w' => e = .returned (.int .i64 (manyI 19)) ∧ w' = w := by
  have h : manyI 19 = 1 := by decide
  rw [h]
  go_enter Tryd.func75, Tryd.ntmps75
  go_wp2
  go_ret
  exact ⟨rfl, rfl⟩
theorem jOf_far {op : Nat} (h : 20 ≤ op) : jOf op = none := by
  unfold jOf JT
  rw [List.find?_eq_none]
  intro r hr
  simp only [List.mem_cons, List.not_mem_nil, or_false] at hr
  rcases hr with rfl | rfl | rfl | rfl | rfl | rfl | rfl | rfl | rfl | rfl | rfl | rfl <;> simp <;> omega
theorem many_far {op : Nat} (h : op = 0 ∨ 20 ≤ op) : manyI op = -1 := by
  rcases h with rfl | h
  · decide
  · have hp : parts op = 0 := by unfold parts; rw [if_neg (by omega), if_neg (by omega), jOf_far h]; rfl
    unfold manyI
    rw [if_neg (by omega), hp]
    rfl
theorem many_any (op : Nat) (w : World) : Calls Tryd.prog 75 #[.int .u8 (op : Int)] w fun e w' => e = .returned (.int .i64 (manyI op)) ∧ w' = w := by
  by_cases hop : op = 0 ∨ 20 ≤ op
  · rw [many_far hop]
    have e1 := neN (a := op) (b := 1) (by omega)
    have e2 := neN (a := op) (b := 2) (by omega)
    have e3 := neN (a := op) (b := 3) (by omega)
    have e4 := neN (a := op) (b := 4) (by omega)
    have e5 := neN (a := op) (b := 5) (by omega)
    have e6 := neN (a := op) (b := 6) (by omega)
    have e7 := neN (a := op) (b := 7) (by omega)
    have e8 := neN (a := op) (b := 8) (by omega)
    have e9 := neN (a := op) (b := 9) (by omega)
    have e10 := neN (a := op) (b := 10) (by omega)
    have e11 := neN (a := op) (b := 11) (by omega)
    have e12 := neN (a := op) (b := 12) (by omega)
    have e13 := neN (a := op) (b := 13) (by omega)
    have e14 := neN (a := op) (b := 14) (by omega)
    have e15 := neN (a := op) (b := 15) (by omega)
    have e16 := neN (a := op) (b := 16) (by omega)
    have e17 := neN (a := op) (b := 17) (by omega)
    have e18 := neN (a := op) (b := 18) (by omega)
    have e19 := neN (a := op) (b := 19) (by omega)
    clear hop
    go_enter Tryd.func75, Tryd.ntmps75
    go_wp2
    go_ret
    exact ⟨rfl, rfl⟩
  · have h : op = 1 ∨ op = 2 ∨ op = 3 ∨ op = 4 ∨ op = 5 ∨ op = 6 ∨ op = 7 ∨ op = 8 ∨ op = 9 ∨ op = 10 ∨ op = 11 ∨ op = 12 ∨ op = 13 ∨ op = 14 ∨ op = 15 ∨ op = 16 ∨ op = 17 ∨ op = 18 ∨ op = 19 := by omega
    clear hop
    rcases h with rfl | rfl | rfl | rfl | rfl | rfl | rfl | rfl | rfl | rfl | rfl | rfl | rfl | rfl | rfl | rfl | rfl | rfl | rfl
    · exact many_1 w
    · exact many_2 w
    · exact many_3 w
    · exact many_4 w
    · exact many_5 w
    · exact many_6 w
    · exact many_7 w
    · exact many_8 w
    · exact many_9 w
    · exact many_10 w
    · exact many_11 w
    · exact many_12 w
    · exact many_13 w
    · exact many_14 w
    · exact many_15 w
    · exact many_16 w
    · exact many_17 w
    · exact many_18 w
    · exact many_19 w
/-- The fields but for the parts. -/
def fldOk (op : Nat) (n : Int) (nm : ByteArray) : Bool :=
  if op = 1 then decide (0 ≤ n) && decide (nm.size = 0)
  else if op = 2 then (decide (n = 0) || decide (n = 1)) && decide (nm.size = 0)
  else if op = 3 then decide (n = 0) && isName nm
  else decide (n = 0) && decide (nm.size = 0)
theorem fields_split (op : Nat) (n : Int) (nm : ByteArray) (len : Nat) : fieldsOk op n nm len = (decide (manyI op = (len : Int)) && fldOk op n nm) := by
  have hz : decide ((0 : Int) = (len : Int)) = decide (len = 0) := by
    by_cases h : len = 0
    · rw [decide_eq_true h, decide_eq_true (by omega)]
    · rw [decide_eq_false h, decide_eq_false (by omega)]
  unfold fieldsOk fldOk
  by_cases h1 : op = 1
  · rw [if_pos h1, if_pos h1, manyI, if_pos (.inl h1), hz]
    cases decide (0 ≤ n) <;> cases decide (nm.size = 0) <;> cases decide (len = 0) <;> rfl
  · rw [if_neg h1, if_neg h1]
    by_cases h2 : op = 2
    · rw [if_pos h2, if_pos h2, manyI, if_pos (.inr (.inl h2)), hz]
      cases (decide (n = 0) || decide (n = 1)) <;> cases decide (nm.size = 0) <;> cases decide (len = 0) <;> rfl
    · rw [if_neg h2, if_neg h2]
      by_cases h3 : op = 3
      · rw [if_pos h3, if_pos h3, manyI, if_pos (.inr (.inr h3)), hz]
        cases decide (n = 0) <;> cases isName nm <;> cases decide (len = 0) <;> rfl
      · rw [if_neg h3, if_neg h3, manyI, if_neg (by omega)]
        by_cases hp : 0 < parts op
        · rw [if_pos hp, decide_eq_true hp]
          have : decide ((parts op : Int) = (len : Int)) = decide (len = parts op) := by
            by_cases h : len = parts op
            · rw [decide_eq_true h, decide_eq_true (by omega)]
            · rw [decide_eq_false h, decide_eq_false (by omega)]
          rw [this]
          cases decide (n = 0) <;> cases decide (nm.size = 0) <;> cases decide (len = parts op) <;> rfl
        · have hl : decide ((-1 : Int) = (len : Int)) = false := decide_eq_false (by omega)
          rw [if_neg hp, decide_eq_false hp, hl]
          rfl
end Go.Proofs.YtejacmgppnafcaaDoor.Lex
namespace Go.Proofs.YtejacmgppnafcaaDoor.Lex
open Go.ChangeShapes Go.WideShapes Go.ChangeAt Go.RowKit Go.Joins
set_option linter.unusedVariables false
/-- A size, below 0 if there is none. -/
def szI : Option Nat → Int
  | none => -1
  | some k => (k : Int)
def RSzC (d : Nat) : Prop := ∀ (x : Ex) (w : World) (s : Value) (M : Nat), M ≤ 200 → St w x s → Calls Tryd.prog 61 #[exV x s, .int .i64 (d : Int), .int .i64 (M : Int)] w fun e w' => e = .returned (.int .i64 (szI (sz d M x))) ∧ Below w.heap.size w w'
theorem inn {a b : Int} (h : a = b) : (a != b) = false := by simp [h]
theorem inq {a b : Int} (h : ¬ a = b) : (a != b) = true := by simp [h]
theorem drewN_zero (w : World) : w.drewN 0 = w := rfl
set_option maxRecDepth 100000 in
set_option maxHeartbeats 1000000 in
theorem rs_d0 (x : Ex) (ao : Option Addr) (cap : Nat) (D M : Int) (w : World) (hD : (D == 0) = true) : Calls Tryd.prog 61 #[exV x (.slice ao x.args.length cap), .int .i64 D, .int .i64 M] w fun e w' => e = .returned (.int .i64 (-1)) ∧ Below w.heap.size w w' := by
  go_enter Tryd.func61, Tryd.ntmps61
  go_wp2
  go_quiet ((go_at_call 75; exact Calls.quiet_of_same (many_any _ _)))
  go_wp2
  go_ret
  exact ⟨rfl, below_drewN ((Below.refl _ _).alloc (Nat.le_refl _) _) _⟩
set_option maxRecDepth 100000 in
set_option maxHeartbeats 1000000 in
theorem rs_m0 (x : Ex) (ao : Option Addr) (cap : Nat) (D M : Int) (w : World) (hD : (D == 0) = false) (hM : (M == 0) = true) : Calls Tryd.prog 61 #[exV x (.slice ao x.args.length cap), .int .i64 D, .int .i64 M] w fun e w' => e = .returned (.int .i64 (-1)) ∧ Below w.heap.size w w' := by
  go_enter Tryd.func61, Tryd.ntmps61
  go_wp2
  go_quiet ((go_at_call 75; exact Calls.quiet_of_same (many_any _ _)))
  go_wp2
  go_ret
  exact ⟨rfl, below_drewN ((Below.refl _ _).alloc (Nat.le_refl _) _) _⟩
set_option maxRecDepth 100000 in
set_option maxHeartbeats 1000000 in
theorem rs_mn (x : Ex) (ao : Option Addr) (cap : Nat) (D M : Int) (w : World) (hD : (D == 0) = false) (hM : (M == 0) = false) (hm : (manyI x.op != (x.args.length : Int)) = true) : Calls Tryd.prog 61 #[exV x (.slice ao x.args.length cap), .int .i64 D, .int .i64 M] w fun e w' => e = .returned (.int .i64 (-1)) ∧ Below w.heap.size w w' := by
  go_enter Tryd.func61, Tryd.ntmps61
  go_wp2
  go_quiet ((go_at_call 75; exact Calls.quiet_of_same (many_any _ _)))
  go_wp2
  go_ret
  exact ⟨rfl, below_drewN ((Below.refl _ _).alloc (Nat.le_refl _) _) _⟩
set_option maxRecDepth 100000 in
set_option maxHeartbeats 1000000 in
theorem rs_1a (x : Ex) (ao : Option Addr) (cap : Nat) (D M : Int) (w : World) (hD : (D == 0) = false) (hM : (M == 0) = false) (hm : (manyI x.op != (x.args.length : Int)) = false) (e1 : ((x.op : Int) == 1) = true) (h0 : x.n < 0) : Calls Tryd.prog 61 #[exV x (.slice ao x.args.length cap), .int .i64 D, .int .i64 M] w fun e w' => e = .returned (.int .i64 (-1)) ∧ Below w.heap.size w w' := by
  go_enter Tryd.func61, Tryd.ntmps61
  go_wp2
  go_quiet ((go_at_call 75; exact Calls.quiet_of_same (many_any _ _)))
  go_wp2
  go_ret
  exact ⟨rfl, below_drewN ((Below.refl _ _).alloc (Nat.le_refl _) _) _⟩
set_option maxRecDepth 100000 in
set_option maxHeartbeats 1000000 in
theorem rs_1b (x : Ex) (ao : Option Addr) (cap : Nat) (D M : Int) (w : World) (hD : (D == 0) = false) (hM : (M == 0) = false) (hm : (manyI x.op != (x.args.length : Int)) = false) (e1 : ((x.op : Int) == 1) = true) (h0 : ¬ x.n < 0) (he : x.name.toList.isEmpty = false) : Calls Tryd.prog 61 #[exV x (.slice ao x.args.length cap), .int .i64 D, .int .i64 M] w fun e w' => e = .returned (.int .i64 (-1)) ∧ Below w.heap.size w w' := by
  go_enter Tryd.func61, Tryd.ntmps61
  go_wp2
  go_quiet ((go_at_call 75; exact Calls.quiet_of_same (many_any _ _)))
  go_wp2
  go_ret
  exact ⟨rfl, below_drewN ((Below.refl _ _).alloc (Nat.le_refl _) _) _⟩
set_option maxRecDepth 100000 in
set_option maxHeartbeats 1000000 in
theorem rs_2a (x : Ex) (ao : Option Addr) (cap : Nat) (D M : Int) (w : World) (hD : (D == 0) = false) (hM : (M == 0) = false) (hm : (manyI x.op != (x.args.length : Int)) = false) (e1 : ((x.op : Int) == 1) = false) (e2 : ((x.op : Int) == 2) = true) (h0 : (x.n != 0) = true) (h1 : (x.n != 1) = true) : Calls Tryd.prog 61 #[exV x (.slice ao x.args.length cap), .int .i64 D, .int .i64 M] w fun e w' => e = .returned (.int .i64 (-1)) ∧ Below w.heap.size w w' := by
  go_enter Tryd.func61, Tryd.ntmps61
  go_wp2
  go_quiet ((go_at_call 75; exact Calls.quiet_of_same (many_any _ _)))
  go_wp2
  go_ret
  exact ⟨rfl, below_drewN ((Below.refl _ _).alloc (Nat.le_refl _) _) _⟩
set_option maxRecDepth 100000 in
set_option maxHeartbeats 1000000 in
theorem rs_2b (x : Ex) (ao : Option Addr) (cap : Nat) (D M : Int) (w : World) (hD : (D == 0) = false) (hM : (M == 0) = false) (hm : (manyI x.op != (x.args.length : Int)) = false) (e1 : ((x.op : Int) == 1) = false) (e2 : ((x.op : Int) == 2) = true) (h0 : (x.n != 0) = false) (he : x.name.toList.isEmpty = false) : Calls Tryd.prog 61 #[exV x (.slice ao x.args.length cap), .int .i64 D, .int .i64 M] w fun e w' => e = .returned (.int .i64 (-1)) ∧ Below w.heap.size w w' := by
  go_enter Tryd.func61, Tryd.ntmps61
  go_wp2
  go_quiet ((go_at_call 75; exact Calls.quiet_of_same (many_any _ _)))
  go_wp2
  go_ret
  exact ⟨rfl, below_drewN ((Below.refl _ _).alloc (Nat.le_refl _) _) _⟩
set_option maxRecDepth 100000 in
set_option maxHeartbeats 1000000 in
theorem rs_2c (x : Ex) (ao : Option Addr) (cap : Nat) (D M : Int) (w : World) (hD : (D == 0) = false) (hM : (M == 0) = false) (hm : (manyI x.op != (x.args.length : Int)) = false) (e1 : ((x.op : Int) == 1) = false) (e2 : ((x.op : Int) == 2) = true) (h0 : (x.n != 0) = true) (h1 : (x.n != 1) = false) (he : x.name.toList.isEmpty = false) : Calls Tryd.prog 61 #[exV x (.slice ao x.args.length cap), .int .i64 D, .int .i64 M] w fun e w' => e = .returned (.int .i64 (-1)) ∧ Below w.heap.size w w' := by
  go_enter Tryd.func61, Tryd.ntmps61
  go_wp2
  go_quiet ((go_at_call 75; exact Calls.quiet_of_same (many_any _ _)))
  go_wp2
  go_ret
  exact ⟨rfl, below_drewN ((Below.refl _ _).alloc (Nat.le_refl _) _) _⟩
set_option maxRecDepth 100000 in
set_option maxHeartbeats 1000000 in
theorem rs_3a (x : Ex) (ao : Option Addr) (cap : Nat) (D M : Int) (w : World) (hD : (D == 0) = false) (hM : (M == 0) = false) (hm : (manyI x.op != (x.args.length : Int)) = false) (e1 : ((x.op : Int) == 1) = false) (e2 : ((x.op : Int) == 2) = false) (e3 : ((x.op : Int) == 3) = true) (h0 : (x.n != 0) = true) : Calls Tryd.prog 61 #[exV x (.slice ao x.args.length cap), .int .i64 D, .int .i64 M] w fun e w' => e = .returned (.int .i64 (-1)) ∧ Below w.heap.size w w' := by
  go_enter Tryd.func61, Tryd.ntmps61
  go_wp2
  go_quiet ((go_at_call 75; exact Calls.quiet_of_same (many_any _ _)))
  go_wp2
  go_ret
  exact ⟨rfl, below_drewN ((Below.refl _ _).alloc (Nat.le_refl _) _) _⟩
set_option maxRecDepth 100000 in
set_option maxHeartbeats 1000000 in
theorem rs_3b (x : Ex) (ao : Option Addr) (cap : Nat) (D M : Int) (w : World) (hD : (D == 0) = false) (hM : (M == 0) = false) (hm : (manyI x.op != (x.args.length : Int)) = false) (e1 : ((x.op : Int) == 1) = false) (e2 : ((x.op : Int) == 2) = false) (e3 : ((x.op : Int) == 3) = true) (h0 : (x.n != 0) = false) (hnm : x.name.size ≤ 140737488355328) (hb : isName x.name = false) : Calls Tryd.prog 61 #[exV x (.slice ao x.args.length cap), .int .i64 D, .int .i64 M] w fun e w' => e = .returned (.int .i64 (-1)) ∧ Below w.heap.size w w' := by
  have c := fun W => refName x.name W hnm
  rw [hb] at c
  clear hb
  go_enter Tryd.func61, Tryd.ntmps61
  go_wp2
  go_quiet ((go_at_call 75; exact Calls.quiet_of_same (many_any _ _)))
  go_wp2_with (go_at_call 76; refine (c _).mono ?_; rintro e w2 ⟨rfl, hb2⟩)
  go_ret
  exact ⟨rfl, bstep (below_drewN ((Below.refl _ _).alloc (Nat.le_refl _) _) _) hb2⟩
set_option maxRecDepth 100000 in
set_option maxHeartbeats 1000000 in
theorem rs_4a (x : Ex) (ao : Option Addr) (cap : Nat) (D M : Int) (w : World) (hD : (D == 0) = false) (hM : (M == 0) = false) (hm : (manyI x.op != (x.args.length : Int)) = false) (e1 : ((x.op : Int) == 1) = false) (e2 : ((x.op : Int) == 2) = false) (e3 : ((x.op : Int) == 3) = false) (h0 : (x.n != 0) = true) : Calls Tryd.prog 61 #[exV x (.slice ao x.args.length cap), .int .i64 D, .int .i64 M] w fun e w' => e = .returned (.int .i64 (-1)) ∧ Below w.heap.size w w' := by
  go_enter Tryd.func61, Tryd.ntmps61
  go_wp2
  go_quiet ((go_at_call 75; exact Calls.quiet_of_same (many_any _ _)))
  go_wp2
  go_ret
  exact ⟨rfl, below_drewN ((Below.refl _ _).alloc (Nat.le_refl _) _) _⟩
set_option maxRecDepth 100000 in
set_option maxHeartbeats 1000000 in
theorem rs_4b (x : Ex) (ao : Option Addr) (cap : Nat) (D M : Int) (w : World) (hD : (D == 0) = false) (hM : (M == 0) = false) (hm : (manyI x.op != (x.args.length : Int)) = false) (e1 : ((x.op : Int) == 1) = false) (e2 : ((x.op : Int) == 2) = false) (e3 : ((x.op : Int) == 3) = false) (h0 : (x.n != 0) = false) (he : x.name.toList.isEmpty = false) : Calls Tryd.prog 61 #[exV x (.slice ao x.args.length cap), .int .i64 D, .int .i64 M] w fun e w' => e = .returned (.int .i64 (-1)) ∧ Below w.heap.size w w' := by
  go_enter Tryd.func61, Tryd.ntmps61
  go_wp2
  go_quiet ((go_at_call 75; exact Calls.quiet_of_same (many_any _ _)))
  go_wp2
  go_ret
  exact ⟨rfl, below_drewN ((Below.refl _ _).alloc (Nat.le_refl _) _) _⟩
set_option maxRecDepth 100000 in
set_option maxHeartbeats 1000000 in
theorem rs_1c (x : Ex) (ao : Option Addr) (cap : Nat) (D M : Int) (w : World) (hD : (D == 0) = false) (hM : (M == 0) = false) (hm : (manyI x.op != (x.args.length : Int)) = false) (e1 : ((x.op : Int) == 1) = true) (h0 : ¬ x.n < 0) (he : x.name.toList.isEmpty = true) (hl : Hid (x.args.length = 0)) : Calls Tryd.prog 61 #[exV x (.slice ao x.args.length cap), .int .i64 D, .int .i64 M] w fun e w' => e = .returned (.int .i64 1) ∧ Below w.heap.size w w' := by
  go_enter Tryd.func61, Tryd.ntmps61
  go_wp2
  go_quiet ((go_at_call 75; exact Calls.quiet_of_same (many_any _ _)))
  go_wp2
  go_loopw [7, 8] (fun n i wr => n = .int .i64 1 ∧ i = .int .i64 0 ∧ Hid (Below w.heap.size w wr) ∧ wr.cell? ⟨w.heap.size, 3, none⟩ = some (.slice ao x.args.length cap)) (fun _ _ _ => 0)
  case atStart => exact ⟨rfl, rfl, below_drewN ((Below.refl _ _).alloc (Nat.le_refl _) _) _, box_at w _ 30 3 _ rfl⟩
  case round =>
    obtain ⟨rfl, rfl, hB, hx3⟩ := hrel
    have hlt' : ¬ (0 : Int) < (x.args.length : Int) := by have := hl.out; omega
    go_wp2
    go_ret
    exact ⟨rfl, hB.out⟩
set_option maxRecDepth 100000 in
set_option maxHeartbeats 1000000 in
theorem rs_2d (x : Ex) (ao : Option Addr) (cap : Nat) (D M : Int) (w : World) (hD : (D == 0) = false) (hM : (M == 0) = false) (hm : (manyI x.op != (x.args.length : Int)) = false) (e1 : ((x.op : Int) == 1) = false) (e2 : ((x.op : Int) == 2) = true) (h0 : (x.n != 0) = false) (he : x.name.toList.isEmpty = true) (hl : Hid (x.args.length = 0)) : Calls Tryd.prog 61 #[exV x (.slice ao x.args.length cap), .int .i64 D, .int .i64 M] w fun e w' => e = .returned (.int .i64 1) ∧ Below w.heap.size w w' := by
  go_enter Tryd.func61, Tryd.ntmps61
  go_wp2
  go_quiet ((go_at_call 75; exact Calls.quiet_of_same (many_any _ _)))
  go_wp2
  go_loopw [7, 8] (fun n i wr => n = .int .i64 1 ∧ i = .int .i64 0 ∧ Hid (Below w.heap.size w wr) ∧ wr.cell? ⟨w.heap.size, 3, none⟩ = some (.slice ao x.args.length cap)) (fun _ _ _ => 0)
  case atStart => exact ⟨rfl, rfl, below_drewN ((Below.refl _ _).alloc (Nat.le_refl _) _) _, box_at w _ 30 3 _ rfl⟩
  case round =>
    obtain ⟨rfl, rfl, hB, hx3⟩ := hrel
    have hlt' : ¬ (0 : Int) < (x.args.length : Int) := by have := hl.out; omega
    go_wp2
    go_ret
    exact ⟨rfl, hB.out⟩
set_option maxRecDepth 100000 in
set_option maxHeartbeats 1000000 in
theorem rs_2e (x : Ex) (ao : Option Addr) (cap : Nat) (D M : Int) (w : World) (hD : (D == 0) = false) (hM : (M == 0) = false) (hm : (manyI x.op != (x.args.length : Int)) = false) (e1 : ((x.op : Int) == 1) = false) (e2 : ((x.op : Int) == 2) = true) (h0 : (x.n != 0) = true) (h1 : (x.n != 1) = false) (he : x.name.toList.isEmpty = true) (hl : Hid (x.args.length = 0)) : Calls Tryd.prog 61 #[exV x (.slice ao x.args.length cap), .int .i64 D, .int .i64 M] w fun e w' => e = .returned (.int .i64 1) ∧ Below w.heap.size w w' := by
  go_enter Tryd.func61, Tryd.ntmps61
  go_wp2
  go_quiet ((go_at_call 75; exact Calls.quiet_of_same (many_any _ _)))
  go_wp2
  go_loopw [7, 8] (fun n i wr => n = .int .i64 1 ∧ i = .int .i64 0 ∧ Hid (Below w.heap.size w wr) ∧ wr.cell? ⟨w.heap.size, 3, none⟩ = some (.slice ao x.args.length cap)) (fun _ _ _ => 0)
  case atStart => exact ⟨rfl, rfl, below_drewN ((Below.refl _ _).alloc (Nat.le_refl _) _) _, box_at w _ 30 3 _ rfl⟩
  case round =>
    obtain ⟨rfl, rfl, hB, hx3⟩ := hrel
    have hlt' : ¬ (0 : Int) < (x.args.length : Int) := by have := hl.out; omega
    go_wp2
    go_ret
    exact ⟨rfl, hB.out⟩
set_option maxRecDepth 100000 in
set_option maxHeartbeats 1000000 in
theorem rs_3c (x : Ex) (ao : Option Addr) (cap : Nat) (D M : Int) (w : World) (hD : (D == 0) = false) (hM : (M == 0) = false) (hm : (manyI x.op != (x.args.length : Int)) = false) (e1 : ((x.op : Int) == 1) = false) (e2 : ((x.op : Int) == 2) = false) (e3 : ((x.op : Int) == 3) = true) (h0 : (x.n != 0) = false) (hnm : x.name.size ≤ 140737488355328) (hb : isName x.name = true) (hl : Hid (x.args.length = 0)) : Calls Tryd.prog 61 #[exV x (.slice ao x.args.length cap), .int .i64 D, .int .i64 M] w fun e w' => e = .returned (.int .i64 1) ∧ Below w.heap.size w w' := by
  have c := fun W => refName x.name W hnm
  rw [hb] at c
  clear hb
  go_enter Tryd.func61, Tryd.ntmps61
  go_wp2
  go_quiet ((go_at_call 75; exact Calls.quiet_of_same (many_any _ _)))
  go_wp2_with (go_at_call 76; refine (c _).mono ?_; rintro e w2 ⟨rfl, hb2⟩)
  go_loopw [7, 8] (fun n i wr => n = .int .i64 1 ∧ i = .int .i64 0 ∧ Hid (Below w.heap.size w wr) ∧ wr.cell? ⟨w.heap.size, 3, none⟩ = some (.slice ao x.args.length cap)) (fun _ _ _ => 0)
  case atStart => exact ⟨rfl, rfl, bstep (below_drewN ((Below.refl _ _).alloc (Nat.le_refl _) _) _) hb2, cell_kept (w := (w.alloc (.cells #[.int .u8 (x.op : Int), .int .i64 x.n, .string x.name, .slice ao x.args.length cap] 30)).drewN _) (by exact box_at w _ 30 3 _ rfl) hb2⟩
  case round =>
    obtain ⟨rfl, rfl, hB, hx3⟩ := hrel
    have hlt' : ¬ (0 : Int) < (x.args.length : Int) := by have := hl.out; omega
    go_wp2
    go_ret
    exact ⟨rfl, hB.out⟩
set_option maxRecDepth 100000 in
set_option maxHeartbeats 1000000 in
theorem rs_4c (x : Ex) (ao : Option Addr) (cap : Nat) (D M : Int) (w : World) (d : Nat) (ih : RSzC d) (hd : d + 1 ≤ 32) (hDd : D = ((d + 1 : Nat) : Int)) (m : Nat) (hMm : M = (m : Int)) (hm1 : 1 ≤ m) (hm2 : m ≤ 200) (hD : (D == 0) = false) (hM : (M == 0) = false) (hm : (manyI x.op != (x.args.length : Int)) = false) (e1 : ((x.op : Int) == 1) = false) (e2 : ((x.op : Int) == 2) = false) (e3 : ((x.op : Int) == 3) = false) (h0 : (x.n != 0) = false) (he : x.name.toList.isEmpty = true) (hS : St w x (.slice ao x.args.length cap)) : Calls Tryd.prog 61 #[exV x (.slice ao x.args.length cap), .int .i64 D, .int .i64 M] w fun e w' => e = .returned (.int .i64 (szI (szL (sz d) m 1 x.args))) ∧ Below w.heap.size w w' := by
  obtain ⟨ao', cap', sl, hv, _, _, _, hlen, _, hcs, hss⟩ := hS.out
  injection hv with ea _ ec
  subst ea
  subst ec
  have HS := hid hss
  have HC := hid hcs
  have HI := hid ih
  have hD1 : D - 1 = (d : Int) := by omega
  have hD3 : D ≤ 32 := by omega
  have hD4 : 0 ≤ D := by omega
  have HM := hid hMm
  have hM1 : 1 ≤ M := by omega
  have hM2 : M ≤ 200 := by omega
  clear hss hcs ih hS hDd hMm
  go_enter Tryd.func61, Tryd.ntmps61
  go_wp2
  go_quiet ((go_at_call 75; exact Calls.quiet_of_same (many_any _ _)))
  go_wp2
  go_loopw [7, 8] (fun n i wr => ∃ (k z : Nat), k ≤ x.args.length ∧ 1 ≤ z ∧ z ≤ m ∧ n = .int .i64 (z : Int) ∧ i = .int .i64 (k : Int) ∧ Hid (szL (sz d) m 1 x.args = szL (sz d) m z (x.args.drop k)) ∧ Hid (Below w.heap.size w wr) ∧ wr.cell? ⟨w.heap.size, 3, none⟩ = some (.slice ao x.args.length cap)) (fun _ i _ => x.args.length - (intOf i).toNat)
  case atStart => exact ⟨0, 1, Nat.zero_le _, Nat.le_refl _, hm1, rfl, rfl, by simp [Hid], below_drewN ((Below.refl _ _).alloc (Nat.le_refl _) _) _, box_at w _ 30 3 _ rfl⟩
  case round =>
    obtain ⟨k, z, hk, hz1, hz2, rfl, rfl, hE, hB, hx3⟩ := hrel
    by_cases hlt : k < x.args.length
    · have hlt' : (k : Int) < (x.args.length : Int) := by omega
      have hk0 : (0 : Int) ≤ (k : Int) := by omega
      obtain ⟨bb, o, rfl, hcc⟩ := HC.out.resolve_left (by omega)
      obtain ⟨a0, a1, a2, a3⟩ := hcc k hlt
      have v0 := cell_kept a0 hB.out
      have v1 := cell_kept a1 hB.out
      have v2 := cell_kept a2 hB.out
      have v3 := cell_kept a3 hB.out
      have hdr : x.args.drop k = x.args[k] :: x.args.drop (k + 1) := List.drop_eq_getElem_cons hlt
      have hE' := hE.out
      rw [hdr, szL] at hE'
      have HE := hid hE'
      have hst := (HS.out k hlt).keep hB.out
      clear a0 a1 a2 a3 hcc hdr hE' hE
      generalize x.args[k] = y at *
      obtain ⟨sv, hsv⟩ : ∃ sv, sl k = sv := ⟨_, rfl⟩
      rw [hsv] at v3 hst
      obtain ⟨ak, ck, _, rfl, _⟩ := hst.out
      clear hsv
      have hMz : M - (z : Int) = ((m - z : Nat) : Int) := by have := HM.out; omega
      have cc := HI.out y wr _ (m - z) (by omega) hst
      clear hst
      cases hz : sz d (m - z) y with
      | none =>
        rw [hz] at cc HE
        have hnone : Hid (szL (sz d) m 1 x.args = none) := HE.out
        simp only [szI] at cc
        go_wp2_with (go_at_call 61; refine cc.mono ?_; rintro e w4 ⟨rfl, hb4⟩)
        go_ret
        exact ⟨by rw [hnone.out]; rfl, bstep hB.out hb4⟩
      | some j =>
        rw [hz] at cc HE
        have hj := sz_le _ _ _ _ hz
        simp only [szI] at cc
        have hj0 : ¬ (j : Int) < 0 := by omega
        go_wp2_with (go_at_call 61; refine cc.mono ?_; rintro e w4 ⟨rfl, hb4⟩; have hx4 := cell_kept hx3 hb4; have B4 := hid (bstep hB.out hb4))
        go_roundw
        case rel => exact ⟨k + 1, z + j, by omega, by omega, by omega, by go_num, by go_num, HE.out, B4, hx4⟩
        case measure => simp [intOf]; omega
    · have hlt' : ¬ (k : Int) < (x.args.length : Int) := by omega
      have hdr : x.args.drop k = [] := List.drop_eq_nil_of_le (by omega)
      have hE' := hE.out
      rw [hdr, szL] at hE'
      have HE := hid hE'
      clear hE' hdr hE
      go_wp2
      go_ret
      exact ⟨by rw [HE.out]; rfl, hB.out⟩
end Go.Proofs.YtejacmgppnafcaaDoor.Lex
namespace Go.Proofs.YtejacmgppnafcaaDoor.Lex
open Go.ChangeShapes Go.WideShapes Go.ChangeAt Go.RowKit Go.Joins
theorem many_ne {op len : Nat} (h : ¬ manyI op = (len : Int)) : (manyI op != (len : Int)) = true := by simp [h]
theorem many_eq {op len : Nat} (h : manyI op = (len : Int)) : (manyI op != (len : Int)) = false := by simp [h]
theorem sz_none {d M : Nat} {x : Ex} (h : M = 0 ∨ fieldsOk x.op x.n x.name x.args.length = false) : sz (d + 1) M x = none := by rw [sz, if_pos h]
theorem rsize_any : ∀ (d : Nat), d ≤ 32 → RSzC d
  | 0, _ => by
    intro x w s M hM hS
    obtain ⟨ao, cap, _, rfl, _⟩ := hS.out
    have e : sz 0 M x = none := by simp [sz]
    rw [e]
    exact rs_d0 x ao cap ((0 : Nat) : Int) (M : Int) w rfl
  | d + 1, hd => by
    intro x w s M hM hS
    have ih := rsize_any d (by omega)
    obtain ⟨ao, cap, sl, rfl, hop, hn, hnm, _⟩ := hS.out
    have hD : ((((d + 1 : Nat) : Int)) == 0) = false := by simp; omega
    by_cases hM0 : M = 0
    · rw [sz_none (.inl hM0)]
      exact rs_m0 x ao cap _ _ w hD (by simp [hM0])
    · have hM1 : ((M : Int) == 0) = false := by simp; omega
      have hsplit := fields_split x.op x.n x.name x.args.length
      by_cases hm : manyI x.op = (x.args.length : Int)
      · rw [decide_eq_true hm, Bool.true_and] at hsplit
        have hm' := many_eq hm
        have bad : fldOk x.op x.n x.name = false → sz (d + 1) M x = none := fun h => sz_none (.inr (hsplit.trans h))
        have good : fldOk x.op x.n x.name = true → sz (d + 1) M x = szL (sz d) M 1 x.args := fun h => by rw [sz, if_neg (by rw [hsplit, h]; simp [hM0])]
        have leaf : x.args.length = 0 → szL (sz d) M 1 x.args = some 1 := fun h => by rw [List.eq_nil_of_length_eq_zero h]; rfl
        unfold fldOk at bad good
        by_cases h1 : x.op = 1
        · rw [if_pos h1] at bad good
          have e1 := eqN (b := 1) h1
          have hl : x.args.length = 0 := by rw [h1] at hm; have : manyI 1 = 0 := by decide
                                            omega
          by_cases h0 : x.n < 0
          · rw [bad (by rw [decide_eq_false (by omega)]; rfl)]
            exact rs_1a x ao cap _ _ w hD hM1 hm' e1 h0
          · rw [decide_eq_true (by omega)] at bad good
            by_cases he : x.name.size = 0
            · rw [good (by rw [decide_eq_true he]; rfl), leaf hl]
              exact rs_1c x ao cap _ _ w hD hM1 hm' e1 h0 (empty_yes he) hl
            · rw [bad (by rw [decide_eq_false he]; rfl)]
              exact rs_1b x ao cap _ _ w hD hM1 hm' e1 h0 (empty_no he)
        · rw [if_neg h1] at bad good
          have e1 := neN (b := 1) h1
          by_cases h2 : x.op = 2
          · rw [if_pos h2] at bad good
            have e2 := eqN (b := 2) h2
            have hl : x.args.length = 0 := by rw [h2] at hm; have : manyI 2 = 0 := by decide
                                              omega
            by_cases h0 : x.n = 0
            · rw [decide_eq_true h0] at bad good
              by_cases he : x.name.size = 0
              · rw [good (by rw [decide_eq_true he]; rfl), leaf hl]
                exact rs_2d x ao cap _ _ w hD hM1 hm' e1 e2 (inn h0) (empty_yes he) hl
              · rw [bad (by rw [decide_eq_false he]; rfl)]
                exact rs_2b x ao cap _ _ w hD hM1 hm' e1 e2 (inn h0) (empty_no he)
            · rw [decide_eq_false h0] at bad good
              by_cases h01 : x.n = 1
              · rw [decide_eq_true h01] at bad good
                by_cases he : x.name.size = 0
                · rw [good (by rw [decide_eq_true he]; rfl), leaf hl]
                  exact rs_2e x ao cap _ _ w hD hM1 hm' e1 e2 (inq h0) (inn h01) (empty_yes he) hl
                · rw [bad (by rw [decide_eq_false he]; rfl)]
                  exact rs_2c x ao cap _ _ w hD hM1 hm' e1 e2 (inq h0) (inn h01) (empty_no he)
              · rw [decide_eq_false h01] at bad
                rw [bad rfl]
                exact rs_2a x ao cap _ _ w hD hM1 hm' e1 e2 (inq h0) (inq h01)
          · rw [if_neg h2] at bad good
            have e2 := neN (b := 2) h2
            by_cases h3 : x.op = 3
            · rw [if_pos h3] at bad good
              have e3 := eqN (b := 3) h3
              have hl : x.args.length = 0 := by rw [h3] at hm; have : manyI 3 = 0 := by decide
                                                omega
              by_cases h0 : x.n = 0
              · rw [decide_eq_true h0] at bad good
                cases hb : isName x.name with
                | false =>
                  rw [bad (by rw [hb]; rfl)]
                  exact rs_3b x ao cap _ _ w hD hM1 hm' e1 e2 e3 (inn h0) hnm hb
                | true =>
                  rw [good (by rw [hb]; rfl), leaf hl]
                  exact rs_3c x ao cap _ _ w hD hM1 hm' e1 e2 e3 (inn h0) hnm hb hl
              · rw [decide_eq_false h0] at bad
                rw [bad rfl]
                exact rs_3a x ao cap _ _ w hD hM1 hm' e1 e2 e3 (inq h0)
            · rw [if_neg h3] at bad good
              have e3 := neN (b := 3) h3
              by_cases h0 : x.n = 0
              · rw [decide_eq_true h0] at bad good
                by_cases he : x.name.size = 0
                · rw [good (by rw [decide_eq_true he]; rfl)]
                  exact rs_4c x ao cap _ _ w d ih hd rfl M rfl (by omega) hM hD hM1 hm' e1 e2 e3 (inn h0) (empty_yes he) hS
                · rw [bad (by rw [decide_eq_false he]; rfl)]
                  exact rs_4b x ao cap _ _ w hD hM1 hm' e1 e2 e3 (inn h0) (empty_no he)
              · rw [decide_eq_false h0] at bad
                rw [bad rfl]
                exact rs_4a x ao cap _ _ w hD hM1 hm' e1 e2 e3 (inq h0)
      · rw [decide_eq_false hm, Bool.false_and] at hsplit
        rw [sz_none (.inr hsplit)]
        exact rs_mn x ao cap _ _ w hD hM1 (many_ne hm)
set_option maxRecDepth 100000 in
/-- The document's own Check. -/
theorem rcheck (x : Ex) (w : World) (s : Value) (hS : St w x s) : Calls Tryd.prog 37 #[exV x s] w fun e w' => e = .returned (.bool (chk x)) ∧ Below w.heap.size w w' := by
  obtain ⟨ao, cap, sl, rfl, _⟩ := hS.out
  have b1 := (Below.refl w.heap.size w).alloc (Nat.le_refl _) (.cells #[.int .u8 (x.op : Int), .int .i64 x.n, .string x.name, .slice ao x.args.length cap] 30)
  have c := rsize_any 32 (Nat.le_refl _) x _ _ 200 (Nat.le_refl _) (hS.keep b1)
  have H1 := hid b1
  unfold chk
  cases hz : sz 32 200 x with
  | none =>
    rw [hz] at c
    simp only [szI] at c
    clear hS b1
    go_enter Tryd.func37, Tryd.ntmps37
    go_wp2_with (go_at_call 61; refine c.mono ?_; rintro e w3 ⟨rfl, hb3⟩)
    go_ret
    exact ⟨rfl, bstep H1.out hb3⟩
  | some k =>
    have hk := sz_le _ _ _ _ hz
    have hk' : (0 : Int) < (k : Int) := by omega
    rw [hz] at c
    simp only [szI] at c
    clear hS b1 hz
    go_enter Tryd.func37, Tryd.ntmps37
    go_wp2_with (go_at_call 61; refine c.mono ?_; rintro e w3 ⟨rfl, hb3⟩)
    go_ret
    exact ⟨by first | rfl | (simp; omega), bstep H1.out hb3⟩
end Go.Proofs.YtejacmgppnafcaaDoor.Lex
namespace Go.Proofs.YtejacmgppnafcaaDoor.Lex
open Go.ChangeShapes Go.WideShapes Go.ChangeAt Go.RowKit Go.Joins
set_option maxRecDepth 100000 in
set_option maxHeartbeats 2000000 in
theorem left_ins (l : List Hd) (w : World) (lo : Nat) (st s : Value) (hT : TwIns w lo l st) (hS : InsAt w l s) :
    Calls Tryd.prog 41 #[st, s] w fun e w' => e = .returned (.bool true) ∧ Below w.heap.size w w' := by
  obtain ⟨ao, cap, rfl, hlen, _, _, hc⟩ := hS
  obtain ⟨b, cp, rfl, _, _, hcp, _, htc, hsp, _⟩ := hT
  have HC := hid hc
  have HT := hid htc
  have HP := hid hsp
  have hne : ((l.length : Int) != (l.length : Int)) = false := by simp
  have hcp' : ¬ (cp : Int) ≤ (l.length : Int) := by omega
  clear hc htc hsp
  go_enter Tryd.func41, Tryd.ntmps41
  go_wp2
  go_loopw [5] (fun i wr => ∃ k : Nat, k ≤ l.length ∧ i = .int .i64 (k : Int) ∧ Hid (Below w.heap.size w wr)) (fun i _ => l.length - (intOf i).toNat)
  case atStart => exact ⟨0, Nat.zero_le _, rfl, Below.refl _ _⟩
  case round =>
    obtain ⟨k, hk, rfl, hB⟩ := hrel
    by_cases hlt : k < l.length
    · have hlt' : (k : Int) < (l.length : Int) := by omega
      have hk0 : (0 : Int) ≤ (k : Int) := by omega
      obtain ⟨bb, o, rfl, hcc⟩ := HC.out.resolve_left (by omega)
      obtain ⟨v0, v1, v2⟩ := (hcc k hlt).keep hB.out
      obtain ⟨u0, u1, u2⟩ := (HT.out k hlt).keep hB.out
      clear hcc
      generalize l[k] = y at *
      generalize y.name = N at *
      generalize y.ty = Y at *
      generalize y.st = Z at *
      go_wp2
      go_quiet (fail)
      go_wp2
      go_roundw
      case rel => exact ⟨k + 1, by omega, by go_num, below_drewN hB.out _⟩
      case measure => simp [intOf]; omega
    · have hlt' : ¬ (k : Int) < (l.length : Int) := by omega
      obtain ⟨q0, q1, q2⟩ := HP.out.keep hB.out
      unfold spare at q0
      have hle1 : (l.length : Int) + 1 ≤ (cp : Int) := by omega
      have hle2 : (l.length : Int) < (l.length : Int) + 1 := by omega
      have hle3 : (0 : Int) ≤ (l.length : Int) := by omega
      go_wp2
      go_ret
      exact ⟨rfl, bstep hB.out ((Below.refl _ _).alloc (Nat.le_refl _) _)⟩
set_option maxRecDepth 100000 in
set_option maxHeartbeats 2000000 in
theorem left_texts (l : List ByteArray) (w : World) (lo : Nat) (st s : Value) (hT : TwTexts w lo l st) (hS : TextsAt w l s) :
    Calls Tryd.prog 43 #[st, s] w fun e w' => e = .returned (.bool true) ∧ Below w.heap.size w w' := by
  obtain ⟨ao, cap, rfl, hlen, _, _, hc⟩ := hS
  obtain ⟨b, cp, rfl, _, _, hcp, _, htc, hsp, _⟩ := hT
  have HC := hid hc
  have HT := hid htc
  have HP := hid hsp
  have hne : ((l.length : Int) != (l.length : Int)) = false := by simp
  have hcp' : ¬ (cp : Int) ≤ (l.length : Int) := by omega
  clear hc htc hsp
  go_enter Tryd.func43, Tryd.ntmps43
  go_wp2
  go_loopw [5] (fun i wr => ∃ k : Nat, k ≤ l.length ∧ i = .int .i64 (k : Int) ∧ Hid (Below w.heap.size w wr)) (fun i _ => l.length - (intOf i).toNat)
  case atStart => exact ⟨0, Nat.zero_le _, rfl, Below.refl _ _⟩
  case round =>
    obtain ⟨k, hk, rfl, hB⟩ := hrel
    by_cases hlt : k < l.length
    · have hlt' : (k : Int) < (l.length : Int) := by omega
      have hk0 : (0 : Int) ≤ (k : Int) := by omega
      obtain ⟨bb, o, rfl, hcc⟩ := HC.out.resolve_left (by omega)
      have v0 := cell_kept (hcc k hlt) hB.out
      have u0 := cell_kept (HT.out k hlt) hB.out
      clear hcc
      generalize l[k] = N at *
      go_wp2
      go_quiet (fail)
      go_wp2
      go_roundw
      case rel => exact ⟨k + 1, by omega, by go_num, below_drewN hB.out _⟩
      case measure => simp [intOf]; omega
    · have hlt' : ¬ (k : Int) < (l.length : Int) := by omega
      have q0 := cell_kept HP.out hB.out
      unfold spare at q0
      have hle1 : (l.length : Int) + 1 ≤ (cp : Int) := by omega
      have hle2 : (l.length : Int) < (l.length : Int) + 1 := by omega
      have hle3 : (0 : Int) ≤ (l.length : Int) := by omega
      go_wp2
      go_ret
      exact ⟨rfl, hB.out⟩
set_option maxRecDepth 100000 in
set_option maxHeartbeats 1000000 in
theorem left_flow (x : Fl) (w : World) (lo : Nat) (st s : Value) (hT : Tw w lo x.body st) (hS : St w x.body s) :
    Calls Tryd.prog 63 #[flV x st, flV x s] w fun e w' => e = .returned (.bool true) ∧ Below w.heap.size w w' := by
  have hs := fun W hT hS => left_any _ x.body (Nat.le_refl _) W lo st s hT hS
  obtain ⟨ao, cap, sl, rfl, _⟩ := hS.out
  obtain ⟨b, cp, tl, rfl, _⟩ := hT.out
  have e0 : (x.name.toList == x.name.toList) = true := by simp
  have e1 : ((x.ty : Int) == (x.ty : Int)) = true := by simp
  have e2 : (x.st == x.st) = true := by simp
  have e3 : (x.df == x.df) = true := by simp
  have b1 := (Below.refl w.heap.size w).alloc (Nat.le_refl _) (.cells #[.string x.name, .int .u8 (x.ty : Int), .int .i64 x.st, .int .i64 x.df, .int .u8 (x.body.op : Int), .int .i64 x.body.n, .string x.body.name, .slice (some ⟨b, 0, none⟩) x.body.args.length cp] 53)
  have b2 := bstep b1 ((Below.refl _ _).alloc (Nat.le_refl _) (.cells #[.string x.name, .int .u8 (x.ty : Int), .int .i64 x.st, .int .i64 x.df, .int .u8 (x.body.op : Int), .int .i64 x.body.n, .string x.body.name, .slice ao x.body.args.length cap] 53))
  have HT := hid (hT.keep b2)
  have HS := hid (hS.keep b2)
  have HB := hid b2
  clear hT hS b1 b2
  go_enter Tryd.func63, Tryd.ntmps63
  go_wp2_with (go_at_call 16; refine (hs _ HT.out HS.out).mono ?_; rintro e w2 ⟨rfl, hb2⟩)
  go_ret
  exact ⟨rfl, bstep HB.out hb2⟩
set_option maxRecDepth 100000 in
set_option maxHeartbeats 2000000 in
theorem left_flows (l : List Fl) (w : World) (lo : Nat) (st s : Value) (hT : TwFlows w lo l st) (hS : FlowsAt w l s) :
    Calls Tryd.prog 42 #[st, s] w fun e w' => e = .returned (.bool true) ∧ Below w.heap.size w w' := by
  obtain ⟨ao, cap, sl, rfl, hlen, _, _, hc, hs⟩ := hS
  obtain ⟨b, cp, tl, rfl, _, _, hcp, _, htc, hsp, hts, _⟩ := hT
  have HC := hid hc
  have HT := hid htc
  have HP := hid hsp
  have HS := hid hs
  have HTS := hid hts
  have hne : ((l.length : Int) != (l.length : Int)) = false := by simp
  have hcp' : ¬ (cp : Int) ≤ (l.length : Int) := by omega
  clear hc htc hsp hs hts
  go_enter Tryd.func42, Tryd.ntmps42
  go_wp2
  go_loopw [5] (fun i wr => ∃ k : Nat, k ≤ l.length ∧ i = .int .i64 (k : Int) ∧ Hid (Below w.heap.size w wr)) (fun i _ => l.length - (intOf i).toNat)
  case atStart => exact ⟨0, Nat.zero_le _, rfl, Below.refl _ _⟩
  case round =>
    obtain ⟨k, hk, rfl, hB⟩ := hrel
    by_cases hlt : k < l.length
    · have hlt' : (k : Int) < (l.length : Int) := by omega
      have hk0 : (0 : Int) ≤ (k : Int) := by omega
      obtain ⟨bb, o, rfl, hcc⟩ := HC.out.resolve_left (by omega)
      have X := (hcc k hlt).keep hB.out
      have Y := (HT.out k hlt).keep hB.out
      have hst := HS.out k hlt
      have htw := HTS.out k hlt
      clear hcc
      generalize l[k] = y at *
      generalize sl k = sv at *
      generalize tl k = tv at *
      obtain ⟨a3, c3, _, rfl, _⟩ := hst.out
      obtain ⟨b2, c2, _, rfl, _⟩ := htw.out
      obtain ⟨v0, v1, v2, v3, v4, v5, v6, v7⟩ := X
      obtain ⟨u0, u1, u2, u3, u4, u5, u6, u7⟩ := Y
      have c := fun W (hb : Below w.heap.size w W) => left_flow y W _ _ _ (htw.keep hb) (hst.keep hb)
      clear hst htw
      go_wp2
      refine wp_region_held_drew (S := fun W => (W.cell? ⟨b, k * 8, none⟩ = some (.string y.name) ∧ W.cell? ⟨b, k * 8 + 1, none⟩ = some (.int .u8 (y.ty : Int)) ∧ W.cell? ⟨b, k * 8 + 2, none⟩ = some (.int .i64 y.st) ∧ W.cell? ⟨b, k * 8 + 3, none⟩ = some (.int .i64 y.df) ∧ W.cell? ⟨b, k * 8 + 4, none⟩ = some (.int .u8 (y.body.op : Int)) ∧ W.cell? ⟨b, k * 8 + 5, none⟩ = some (.int .i64 y.body.n) ∧ W.cell? ⟨b, k * 8 + 6, none⟩ = some (.string y.body.name) ∧ W.cell? ⟨b, k * 8 + 7, none⟩ = some (.slice (some ⟨b2, 0, none⟩) y.body.args.length c2)) ∧ W.cell? ⟨bb, o + k * 8, none⟩ = some (.string y.name) ∧ W.cell? ⟨bb, o + k * 8 + 1, none⟩ = some (.int .u8 (y.ty : Int)) ∧ W.cell? ⟨bb, o + k * 8 + 2, none⟩ = some (.int .i64 y.st) ∧ W.cell? ⟨bb, o + k * 8 + 3, none⟩ = some (.int .i64 y.df) ∧ W.cell? ⟨bb, o + k * 8 + 4, none⟩ = some (.int .u8 (y.body.op : Int)) ∧ W.cell? ⟨bb, o + k * 8 + 5, none⟩ = some (.int .i64 y.body.n) ∧ W.cell? ⟨bb, o + k * 8 + 6, none⟩ = some (.string y.body.name) ∧ W.cell? ⟨bb, o + k * 8 + 7, none⟩ = some (.slice a3 y.body.args.length c3)) (by kernel_rfl) ?_ (fun hHeld => ?_)
      · exact ⟨⟨u0, u1, u2, u3, u4, u5, u6, u7⟩, v0, v1, v2, v3, v4, v5, v6, v7⟩
      refine wpAnyH_take (i := 0) (oi := { dst := some 25, op := Go.Op.move (Go.Operand.tmp 0), type := 23, pos := _, after := #[], guard := none }) (v := ?_) rfl (by kernel_rfl) (by kernel_rfl) (by kernel_rfl) (fun _ _ _ h => h) (Or.inl ⟨by rfl, ?_⟩) (by assumption) ?_
      rotate_left
      · intro w hSw; (try dsimp only at hSw); go_simp <;> first | with_reducible rfl | (rw [if_neg (by first | omega | (simp only [ByteArray.size_append] at *; omega))])
      simp only [Act.put, List.setIfInBounds_toArray, List.set_cons_zero, List.set_cons_succ]
      refine wpAnyH_take (i := 1) (oi := { dst := some 26, op := Go.Op.move (Go.Operand.tmp 5), type := 3, pos := _, after := #[], guard := none }) (v := ?_) rfl (by kernel_rfl) (by kernel_rfl) (by kernel_rfl) (fun _ _ _ h => h) (Or.inl ⟨by rfl, ?_⟩) (by assumption) ?_
      rotate_left
      · intro w hSw; (try dsimp only at hSw); go_simp <;> first | with_reducible rfl | (rw [if_neg (by first | omega | (simp only [ByteArray.size_append] at *; omega))])
      simp only [Act.put, List.setIfInBounds_toArray, List.set_cons_zero, List.set_cons_succ]
      refine wpAnyH_take (i := 2) (oi := { dst := some 27, op := Go.Op.indexAddr 23 (Go.Operand.tmp 25) (Go.Operand.tmp 26), type := 0, pos := _, after := #[{ on := 0, ground := Go.Ground.data }, { on := 1, ground := Go.Ground.data }], guard := none }) (v := ?_) rfl (by kernel_rfl) (by kernel_rfl) (by kernel_rfl) (fun _ _ _ h => h) (Or.inl ⟨by rfl, ?_⟩) (by assumption) ?_
      rotate_left
      · intro w hSw; (try dsimp only at hSw); go_simp <;> first | with_reducible rfl | (rw [if_neg (by first | omega | (simp only [ByteArray.size_append] at *; omega))])
      simp only [Act.put, List.setIfInBounds_toArray, List.set_cons_zero, List.set_cons_succ]
      refine wpAnyH_take (i := 3) (oi := { dst := some 28, op := Go.Op.load 53 (Go.Operand.tmp 27), type := 53, pos := _, after := #[{ on := 2, ground := Go.Ground.data }], guard := none }) (v := ?_) rfl (by kernel_rfl) (by kernel_rfl) (by kernel_rfl) (fun _ _ _ h => h) (Or.inl ⟨by rfl, ?_⟩) (by assumption) ?_
      rotate_left
      · intro w hSw; (try dsimp only at hSw); go_simp <;> first | with_reducible rfl | (rw [if_neg (by first | omega | (simp only [ByteArray.size_append] at *; omega))])
      simp only [Act.put, List.setIfInBounds_toArray, List.set_cons_zero, List.set_cons_succ]
      refine wpAnyH_take (i := 4) (oi := { dst := some 29, op := Go.Op.move (Go.Operand.tmp 1), type := 23, pos := _, after := #[], guard := none }) (v := ?_) rfl (by kernel_rfl) (by kernel_rfl) (by kernel_rfl) (fun _ _ _ h => h) (Or.inl ⟨by rfl, ?_⟩) (by assumption) ?_
      rotate_left
      · intro w hSw; (try dsimp only at hSw); go_simp <;> first | with_reducible rfl | (rw [if_neg (by first | omega | (simp only [ByteArray.size_append] at *; omega))])
      simp only [Act.put, List.setIfInBounds_toArray, List.set_cons_zero, List.set_cons_succ]
      refine wpAnyH_take (i := 5) (oi := { dst := some 30, op := Go.Op.move (Go.Operand.tmp 5), type := 3, pos := _, after := #[], guard := none }) (v := ?_) rfl (by kernel_rfl) (by kernel_rfl) (by kernel_rfl) (fun _ _ _ h => h) (Or.inl ⟨by rfl, ?_⟩) (by assumption) ?_
      rotate_left
      · intro w hSw; (try dsimp only at hSw); go_simp <;> first | with_reducible rfl | (rw [if_neg (by first | omega | (simp only [ByteArray.size_append] at *; omega))])
      simp only [Act.put, List.setIfInBounds_toArray, List.set_cons_zero, List.set_cons_succ]
      refine wpAnyH_take (i := 6) (oi := { dst := some 31, op := Go.Op.indexAddr 23 (Go.Operand.tmp 29) (Go.Operand.tmp 30), type := 0, pos := _, after := #[{ on := 4, ground := Go.Ground.data }, { on := 5, ground := Go.Ground.data }], guard := none }) (v := ?_) rfl (by kernel_rfl) (by kernel_rfl) (by kernel_rfl) (fun _ _ _ h => h) (Or.inl ⟨by rfl, ?_⟩) (by assumption) ?_
      rotate_left
      · intro w hSw; (try dsimp only at hSw); go_simp <;> first | with_reducible rfl | (rw [if_neg (by first | omega | (simp only [ByteArray.size_append] at *; omega))])
      simp only [Act.put, List.setIfInBounds_toArray, List.set_cons_zero, List.set_cons_succ]
      refine wpAnyH_take (i := 7) (oi := { dst := some 32, op := Go.Op.load 53 (Go.Operand.tmp 31), type := 53, pos := _, after := #[{ on := 6, ground := Go.Ground.data }], guard := none }) (v := ?_) rfl (by kernel_rfl) (by kernel_rfl) (by kernel_rfl) (fun _ _ _ h => h) (Or.inl ⟨by rfl, ?_⟩) (by assumption) ?_
      rotate_left
      · intro w hSw; (try dsimp only at hSw); go_simp <;> first | with_reducible rfl | (rw [if_neg (by first | omega | (simp only [ByteArray.size_append] at *; omega))])
      simp only [Act.put, List.setIfInBounds_toArray, List.set_cons_zero, List.set_cons_succ]
      refine wpAnyH_ready (rs := [8]) (by kernel_rfl) (by simp) ?_
      refine AllReadyH.cons (o := { dst := some 33, op := Go.Op.call { callee := Go.Callee.value (Go.Operand.func 63), args := #[Go.Operand.tmp 28, Go.Operand.tmp 32], argTypes := #[53, 53] }, type := 4, pos := _, after := #[{ on := 3, ground := Go.Ground.data }, { on := 7, ground := Go.Ground.data }], guard := none }) rfl (fun K hK => ?_) AllReadyH.nil
      go_simp
      refine (c _ (hB.out.drew)).mono ?_
      rintro e w4 ⟨rfl, hb4⟩
      go_wp2_with fail
      refine hK.out _ _ ?_ (fun hHeld1 => ?_)
      · exact ⟨⟨cell_kept (w := wr.drew) u0 hb4, cell_kept (w := wr.drew) u1 hb4, cell_kept (w := wr.drew) u2 hb4, cell_kept (w := wr.drew) u3 hb4, cell_kept (w := wr.drew) u4 hb4, cell_kept (w := wr.drew) u5 hb4, cell_kept (w := wr.drew) u6 hb4, cell_kept (w := wr.drew) u7 hb4⟩, cell_kept (w := wr.drew) v0 hb4, cell_kept (w := wr.drew) v1 hb4, cell_kept (w := wr.drew) v2 hb4, cell_kept (w := wr.drew) v3 hb4, cell_kept (w := wr.drew) v4 hb4, cell_kept (w := wr.drew) v5 hb4, cell_kept (w := wr.drew) v6 hb4, cell_kept (w := wr.drew) v7 hb4⟩
      clear hK K
      refine wpAnyH_take (i := 9) (oi := { dst := some 34, op := Go.Op.unOp Go.UnOp.not 4 (Go.Operand.tmp 33), type := 4, pos := _, after := #[{ on := 8, ground := Go.Ground.data }], guard := none }) (v := ?_) rfl (by kernel_rfl) (by kernel_rfl) (by kernel_rfl) (fun _ _ _ h => h) (Or.inl ⟨by rfl, ?_⟩) (by assumption) ?_
      rotate_left
      · intro w hSw; (try dsimp only at hSw); go_simp <;> first | with_reducible rfl | (rw [if_neg (by first | omega | (simp only [ByteArray.size_append] at *; omega))])
      simp only [Act.put, List.setIfInBounds_toArray, List.set_cons_zero, List.set_cons_succ]
      refine wpAnyH_done (by kernel_rfl) ?_ _
      go_wp2
      go_roundw
      case rel => exact ⟨k + 1, by omega, by go_num, bstep hB.out.drew hb4⟩
      case measure => simp [intOf]; omega
    · have hlt' : ¬ (k : Int) < (l.length : Int) := by omega
      have Q := HP.out.keep hB.out
      simp only [FlCells, spare] at Q
      obtain ⟨q0, q1, q2, q3, q4, q5, q6, q7⟩ := Q
      have hle1 : (l.length : Int) + 1 ≤ (cp : Int) := by omega
      have hle2 : (l.length : Int) < (l.length : Int) + 1 := by omega
      have hle3 : (0 : Int) ≤ (l.length : Int) := by omega
      go_wp2
      go_ret
      exact ⟨rfl, bstep hB.out ((Below.refl _ _).alloc (Nat.le_refl _) _)⟩
set_option maxRecDepth 100000 in
set_option maxHeartbeats 1000000 in
theorem left_prog (p : Pg) (w : World) (lo : Nat) (a b c a' b' c' : Value) (hT : TwPg w lo p a b c) (hP : PgAt w p a' b' c') :
    Calls Tryd.prog 15 #[pgV p a b c, pgV p a' b' c'] w fun e w' => e = .returned (.bool true) ∧ Below w.heap.size w w' := by
  obtain ⟨a0, a1, rfl, _⟩ := hT.at.ins
  obtain ⟨b0, b1, _, rfl, _⟩ := hT.at.flows
  obtain ⟨c0, c1, rfl, _⟩ := hT.at.outs
  obtain ⟨a2, a3, rfl, _⟩ := hP.ins
  obtain ⟨b2, b3, _, rfl, _⟩ := hP.flows
  obtain ⟨c2, c3, rfl, _⟩ := hP.outs
  have e0 : (p.st == p.st) = true := by simp
  have bb := bstep ((Below.refl w.heap.size w).alloc (Nat.le_refl _) (.cells (pgC p (.slice a0 p.ins.length a1) (.slice b0 p.flows.length b1) (.slice c0 p.outs.length c1)) 26)) ((Below.refl _ _).alloc (Nat.le_refl _) (.cells (pgC p (.slice a2 p.ins.length a3) (.slice b2 p.flows.length b3) (.slice c2 p.outs.length c3)) 26))
  have HT := hid (hT.keep bb)
  have HP := hid (hP.keep bb)
  have HB := hid bb
  have x0 : ∀ j v, (pgC p (.slice a0 p.ins.length a1) (.slice b0 p.flows.length b1) (.slice c0 p.outs.length c1))[j]? = some v → ((w.alloc (.cells (pgC p (.slice a0 p.ins.length a1) (.slice b0 p.flows.length b1) (.slice c0 p.outs.length c1)) 26)).alloc (.cells (pgC p (.slice a2 p.ins.length a3) (.slice b2 p.flows.length b3) (.slice c2 p.outs.length c3)) 26)).cell? ⟨w.heap.size, j, none⟩ = some v := box_first w (pgC p (.slice a0 p.ins.length a1) (.slice b0 p.flows.length b1) (.slice c0 p.outs.length c1)) (pgC p (.slice a2 p.ins.length a3) (.slice b2 p.flows.length b3) (.slice c2 p.outs.length c3)) 26
  have x2 := x0 2 (.slice b0 p.flows.length b1) rfl
  have x3 := x0 3 (.slice c0 p.outs.length c1) rfl
  have y0 := box_at (w.alloc (.cells (pgC p (.slice a0 p.ins.length a1) (.slice b0 p.flows.length b1) (.slice c0 p.outs.length c1)) 26)) (pgC p (.slice a2 p.ins.length a3) (.slice b2 p.flows.length b3) (.slice c2 p.outs.length c3)) 26
  rw [World.size_alloc] at y0
  have y2 := y0 2 (.slice b2 p.flows.length b3) rfl
  have y3 := y0 3 (.slice c2 p.outs.length c3) rfl
  clear hT hP bb x0 y0
  go_enter Tryd.func15, Tryd.ntmps15
  go_wp2_with (first
    | (go_at_call 41; refine (left_ins _ _ _ _ _ HT.out.ins HP.out.ins).mono ?_; rintro e w1 ⟨rfl, hb1⟩; have x12 := cell_kept x2 hb1; have x13 := cell_kept x3 hb1; have y12 := cell_kept y2 hb1; have y13 := cell_kept y3 hb1; have HT1 := hid (HT.out.keep hb1); have HP1 := hid (HP.out.keep hb1); have HB1 := hid (bstep HB.out hb1); clear x2 x3 y2 y3 HT HP hb1)
    | (go_at_call 42; refine (left_flows _ _ _ _ _ HT1.out.flows HP1.out.flows).mono ?_; rintro e w2 ⟨rfl, hb2⟩; have x23 := cell_kept x13 hb2; have y23 := cell_kept y13 hb2; have HT2 := hid (HT1.out.keep hb2); have HP2 := hid (HP1.out.keep hb2); have HB2 := hid (bstep HB1.out hb2); clear x12 x13 y12 y13 HT1 HP1 hb2)
    | (go_at_call 43; refine (left_texts _ _ _ _ _ HT2.out.outs HP2.out.outs).mono ?_; rintro e w3 ⟨rfl, hb3⟩; have HB3 := hid (bstep HB2.out hb3); clear x23 y23 HT2 HP2 hb3))
  go_ret
  exact ⟨rfl, HB3.out⟩
end Go.Proofs.YtejacmgppnafcaaDoor.Lex
namespace Go.Proofs.YtejacmgppnafcaaDoor.Lex
open Go.ChangeShapes Go.WideShapes Go.ChangeAt Go.RowKit Go.Joins
theorem things_in (p : Pg) (k : Nat) (h : k < p.ins.length) : (insL p).take k ++ [(-1, p.ins[k])] <+: thingsL p := by
  rw [← insL_succ p k h]
  exact (List.take_prefix _ _).trans (List.prefix_append _ _)
theorem things_flow (p : Pg) (k : Nat) (h : k < p.flows.length) : (insL p ++ (flowsL p).take k) ++ [((k : Int), p.flows[k].hd)] <+: thingsL p := by
  rw [List.append_assoc, ← flowsL_succ p k h]
  exact (List.prefix_append_right_inj _).2 (List.take_prefix _ _)
theorem results_tmp4 {fn : Func} {t u v x : Tmp} (h : fn.results = #[.tmp t, .tmp u, .tmp v, .tmp x]) (tmps : Array Value) (P : Program) (w : World) :
    (results fn tmps).run P w = .ok (.tuple #[tmps.getD t undef, tmps.getD u undef, tmps.getD v undef, tmps.getD x undef]) w := by
  simp [results, h, go_sem]
set_option maxRecDepth 100000 in
set_option maxHeartbeats 4000000 in
theorem rfind (p : Pg) (name : ByteArray) (w : World) (a b c : Value) (hP : PgAt w p a b c) :
    Calls Tryd.prog 39 #[pgV p a b c, .string name] w fun e W' => e = .returned (.tuple (foV (findT (thingsL p) name))) ∧ Below w.heap.size w W' := by
  obtain ⟨a0, a1, rfl, hlen, _, _, hc⟩ := hP.ins
  obtain ⟨b0, b1, _, rfl, hlen2, _, _, hc2, _⟩ := hP.flows
  obtain ⟨c0, c1, rfl, _⟩ := hP.outs
  have HC := hid hc
  have HC2 := hid hc2
  clear hc hc2 hP
  have B0 := hid ((Below.refl w.heap.size w).alloc (Nat.le_refl _) (.cells (pgC p (.slice a0 p.ins.length a1) (.slice b0 p.flows.length b1) (.slice c0 p.outs.length c1)) 26))
  have bx := fun j v => box_at w (pgC p (.slice a0 p.ins.length a1) (.slice b0 p.flows.length b1) (.slice c0 p.outs.length c1)) 26 j v
  have X1 := hid (bx 1 (.slice a0 p.ins.length a1) rfl)
  have X2 := hid (bx 2 (.slice b0 p.flows.length b1) rfl)
  clear bx
  go_enter Tryd.func39, Tryd.ntmps39
  go_wp2
  generalize w.alloc (.cells (pgC p (.slice a0 p.ins.length a1) (.slice b0 p.flows.length b1) (.slice c0 p.outs.length c1)) 26) = w1 at *
  go_loopw [8] (fun i wr => ∃ k : Nat, k ≤ p.ins.length ∧ i = .int .i64 (k : Int) ∧ Hid (Free ((insL p).take k) name) ∧ Hid (Below w1.heap.size w1 wr)) (fun i _ => p.ins.length - (intOf i).toNat)
  case atStart => exact ⟨0, Nat.zero_le _, rfl, hid (fun x hx => by simp at hx), Below.refl _ _⟩
  case round =>
    obtain ⟨k, hk, rfl, hF, hB⟩ := hrel
    have x1 := cell_kept X1.out hB.out
    by_cases hlt : k < p.ins.length
    · have hlt' : (k : Int) < (p.ins.length : Int) := by omega
      have hk0 : (0 : Int) ≤ (k : Int) := by omega
      obtain ⟨bb, o, rfl, hcc⟩ := HC.out.resolve_left (by omega)
      obtain ⟨v0, v1, v2⟩ := (hcc k hlt).keep (bstep B0.out hB.out)
      have HT := hid (things_in p k hlt)
      have HS := hid (insL_succ p k hlt)
      clear hcc
      generalize p.ins[k] = y at *
      by_cases heq : (y.name.toList == name.toList) = true
      · go_wp2
        go_quiet (fail)
        go_wp2
        refine bodyPost_ret (results_tmp4 rfl _ _ _) rfl ?_
        exact ⟨by rw [findT_some HT.out hF.out heq]; rfl, below_drewN (bstep B0.out hB.out) _⟩
      · have heq' : (y.name.toList == name.toList) = false := by simpa using heq
        go_wp2
        go_roundw
        case rel => exact ⟨k + 1, by omega, by go_num, hid (by rw [HS.out]; exact hF.out.snoc heq'), hB⟩
        case measure => simp [intOf]; omega
    · have hlt' : ¬ (k : Int) < (p.ins.length : Int) := by omega
      have hF' : Hid (Free (insL p) name) := by rw [List.take_of_length_le (by rw [insL_len]; omega)] at hF; exact hF
      go_wp2
      go_loopw [9] (fun i wr => ∃ k : Nat, k ≤ p.flows.length ∧ i = .int .i64 (k : Int) ∧ Hid (Free (insL p ++ (flowsL p).take k) name) ∧ Hid (Below w1.heap.size w1 wr)) (fun i _ => p.flows.length - (intOf i).toNat)
      case atStart => exact ⟨0, Nat.zero_le _, rfl, hid (by simpa using hF'.out), hB⟩
      case round =>
        obtain ⟨j, hj, rfl, hG, hB'⟩ := hrel
        have x2 := cell_kept X2.out hB'.out
        by_cases hjl : j < p.flows.length
        · have hjl' : (j : Int) < (p.flows.length : Int) := by omega
          have hj0 : (0 : Int) ≤ (j : Int) := by omega
          obtain ⟨b2, o2, rfl, hcc⟩ := HC2.out.resolve_left (by omega)
          obtain ⟨v0, v1, v2, v3, v4, v5, v6, v7⟩ := (hcc j hjl).keep (bstep B0.out hB'.out)
          have HT := hid (things_flow p j hjl)
          have HS := hid (flowsL_succ p j hjl)
          clear hcc v7
          generalize p.flows[j] = y at *
          by_cases heq : (y.name.toList == name.toList) = true
          · go_wp2
            go_quiet (fail)
            go_wp2
            refine bodyPost_ret (results_tmp4 rfl _ _ _) rfl ?_
            exact ⟨by rw [findT_some HT.out hG.out heq]; rfl, below_drewN (bstep B0.out hB'.out) _⟩
          · have heq' : (y.name.toList == name.toList) = false := by simpa using heq
            go_wp2
            go_roundw
            case rel => exact ⟨j + 1, by omega, by go_num, hid (by rw [HS.out, ← List.append_assoc]; exact hG.out.snoc heq'), hB'⟩
            case measure => simp [intOf]; omega
        · have hjl' : ¬ (j : Int) < (p.flows.length : Int) := by omega
          go_wp2
          refine bodyPost_ret (results_tmp4 rfl _ _ _) rfl ?_
          exact ⟨by rw [findT_none (by have := hG.out; rw [List.take_of_length_le (by rw [flowsL_len]; omega)] at this; exact this)]; rfl, bstep B0.out hB'.out⟩
end Go.Proofs.YtejacmgppnafcaaDoor.Lex
namespace Go.Proofs.YtejacmgppnafcaaDoor.Lex
open Go.ChangeShapes Go.WideShapes Go.ChangeAt Go.RowKit Go.Shelf
theorem fz_row {W : World} {b : Nat} {c : Array Value} {t : TypeId} (h : W.heap[b]? = some (.cells c t (0, 0))) (k : Nat) : W.frozen? ⟨b, k, none⟩ = false := by
  unfold World.frozen?
  rw [h]
  simp
/-- The rows of flows, each with its body's row. -/
abbrev esF (ps : List (Fl × Value)) : List (List Value) := ps.map fun (q : Fl × Value) => flL q.1 q.2
theorem esF_each (ps : List (Fl × Value)) : ∀ e ∈ esF ps, e.length = 8 := fun e he => by
  obtain ⟨q, _, rfl⟩ := List.mem_map.1 he
  rfl
theorem own_flows {X : World} {lo : Nat} {v : Value} {ps : List (Fl × Value)} (hown : X.ownsRow lo 53 8 v ps.length (esF ps).flatten) (hlen : ps.length ≤ 1466015503658) (hok : ∀ q ∈ ps, q.1.ok) (hst : ∀ q ∈ ps, St X q.1.body q.2) : FlowsAt X (ps.map (·.1)) v := by
  have hx : ∀ k, k < ps.length * 8 → ∀ g cap, v = .slice (some ⟨g, 0, none⟩) ps.length cap → X.cell? ⟨g, k, none⟩ = (esF ps).flatten[k]? := fun k hk g cap e => by subst e; exact hown.cellAt k hk
  have hst' : ∀ i (h : i < (ps.map fun (q : Fl × Value) => q.1).length), St X (ps.map fun (q : Fl × Value) => q.1)[i].body ((ps[i]?.map (·.2)).getD (.slice none 0 0)) := fun i hi => by
    have hi' : i < ps.length := by simpa using hi
    rw [List.getElem?_eq_getElem hi']
    simpa using hst ps[i] (List.getElem_mem hi')
  have hok' : ∀ x ∈ ps.map (·.1), x.ok := fun x hx => by
    obtain ⟨q, hq, rfl⟩ := List.mem_map.1 hx
    exact hok q hq
  rcases hown.2 with ⟨h, h0⟩ | ⟨g, cap, cur, e, _, _, hcap, _⟩
  · exact ⟨none, 0, fun i => (ps[i]?.map (·.2)).getD (.slice none 0 0), by rw [h]; simp [h0], by simpa using hlen, by simp [h0], hok', .inl (by simpa using h0), hst'⟩
  · refine ⟨some ⟨g, 0, none⟩, cap, fun i => (ps[i]?.map (·.2)).getD (.slice none 0 0), by rw [e]; simp, by simpa using hlen, by simpa using hcap, hok', .inr ⟨g, 0, rfl, fun i hi => ?_⟩, hst'⟩
    have hi' : i < ps.length := by simpa using hi
    have he : (esF ps)[i]? = some (flL ps[i].1 ps[i].2) := by rw [List.getElem?_map, List.getElem?_eq_getElem hi']; rfl
    have c : ∀ j u, (flL ps[i].1 ps[i].2)[j]? = some u → X.cell? ⟨g, i * 8 + j, none⟩ = some u := fun j u hu => by
      have hj : j < 8 := (List.getElem?_eq_some_iff.1 hu).1
      rw [hx _ (by omega) g cap e]
      have := flat_at (rest := []) (esF_each ps) he hj
      rw [List.append_nil] at this
      rw [this]
      exact hu
    dsimp only
    rw [List.getElem?_eq_getElem hi']
    simp only [Nat.zero_add, List.getElem_map]
    exact ⟨c 0 _ rfl, c 1 _ rfl, c 2 _ rfl, c 3 _ rfl, c 4 _ rfl, c 5 _ rfl, c 6 _ rfl, c 7 _ rfl⟩
theorem TwFlows.own {w : World} {lo : Nat} {l : List Fl} {s : Value} (h : TwFlows w lo l s) : ∃ (ps : List (Fl × Value)) (fb cap : Nat), s = .slice (some ⟨fb, 0, none⟩) l.length cap ∧ ps.map (·.1) = l ∧ w.ownsRow lo 53 8 s l.length (esF ps).flatten ∧ ∀ q ∈ ps, Tw w (fb + 1) q.1.body q.2 := by
  obtain ⟨b, cap, sl, rfl, h1, h2, h3, h4, h5, h6, h7, cur, k1, k2, k3⟩ := h
  have hf : (List.ofFn fun (i : Fin l.length) => ((l[i], sl i) : Fl × Value)).map (·.1) = l := by
    apply List.ext_getElem
    · simp
    · intro i h1 h2; simp
  refine ⟨List.ofFn fun (i : Fin l.length) => (l[i], sl i), b, cap, rfl, hf, ⟨?_, .inr ⟨b, cap, cur, rfl, h1, k1, by omega, k3, k2, ?_⟩⟩, ?_⟩
  · rw [flat_len (esF_each _)]; simp
  · apply List.ext_getElem?
    intro k
    by_cases hk : k < l.length * 8
    · rw [List.getElem?_take_of_lt (by simpa using hk)]
      have hi : k / 8 < l.length := by omega
      have e : k = k / 8 * 8 + k % 8 := by omega
      have he : (esF (List.ofFn fun (i : Fin l.length) => ((l[i], sl i) : Fl × Value)))[k / 8]? = some (flL l[k / 8] (sl (k / 8))) := by
        rw [List.getElem?_map, List.getElem?_eq_getElem (by simpa using hi)]
        simp
      have f := flat_at (rest := []) (j := k % 8) (esF_each _) he (by omega)
      rw [List.append_nil] at f
      conv => rhs; rw [e]
      rw [f]
      have c : ∀ j, w.cell? ⟨b, k / 8 * 8 + j, none⟩ = cur[k / 8 * 8 + j]? := fun j => cell_of_row w b _ cur 53 (0, 0) k1
      obtain ⟨d0, d1, d2, d3, d4, d5, d6, d7⟩ := h5 (k / 8) hi
      have hj : k % 8 < 8 := by omega
      rw [Array.getElem?_toList]
      conv => lhs; rw [e]
      rw [← c]
      generalize k % 8 = j at hj ⊢
      match j, hj with
      | 0, _ => simpa using d0
      | 1, _ => simpa using d1
      | 2, _ => simpa using d2
      | 3, _ => simpa using d3
      | 4, _ => simpa using d4
      | 5, _ => simpa using d5
      | 6, _ => simpa using d6
      | 7, _ => simpa using d7
    · rw [List.getElem?_eq_none (by simp; omega), List.getElem?_eq_none (by rw [flat_len (esF_each _)]; simp; omega)]
  · intro q hq
    obtain ⟨i, rfl⟩ := List.mem_ofFn.1 hq
    exact h7 i i.2
/-- The twin whose outs and flows are exchanged. -/
structure QV (w9 : World) (st : Int) (a' b' c' : Value) (W : World) : Prop where
  below : Below w9.heap.size w9 W
  row : W.heap[w9.heap.size]? = some (.cells #[.int .i64 st, a', b', c'] 26 (0, 0))
theorem QV.new (w9 : World) (st : Int) (a' b' c' : Value) : QV w9 st a' b' c' (w9.alloc (.cells #[.int .i64 st, a', b', c'] 26)) := ⟨(Below.refl _ _).alloc (Nat.le_refl _) _, push_new _ _ _ rfl⟩
theorem QV.keep {w9 W W' : World} {st : Int} {a' b' c' : Value} (h : QV w9 st a' b' c' W) (hb : Below W.heap.size W W') : QV w9 st a' b' c' W' := ⟨h.below.trans (hb.mono h.below.size), keep_row h.row hb⟩
theorem QV.outs {w9 W : World} {st : Int} {a' b' c' : Value} (h : QV w9 st a' b' c' W) (u : Value) : QV w9 st a' b' u (W.setCell ⟨w9.heap.size, 3, none⟩ u) := ⟨h.below.setCell (p := ⟨w9.heap.size, 3, none⟩) (Nat.le_refl _) _, by rw [set_same h.row]; rfl⟩
theorem QV.flows {w9 W : World} {st : Int} {a' b' c' : Value} (h : QV w9 st a' b' c' W) (u : Value) : QV w9 st a' u c' (W.setCell ⟨w9.heap.size, 2, none⟩ u) := ⟨h.below.setCell (p := ⟨w9.heap.size, 2, none⟩) (Nat.le_refl _) _, by rw [set_same h.row]; rfl⟩
theorem texts_nil (W : World) : TextsAt W [] (.slice none 0 0) := ⟨none, 0, rfl, by decide, Nat.le_refl _, (fun x hx => by cases hx), .inl rfl⟩
theorem QV.pg {w9 W : World} {p : Pg} {lo : Nat} {a' b' c' u : Value} (h : QV w9 p.st a' b' u W) (hT : TwPg w9 lo p a' b' c') : PgAt W { p with outs := [] } a' b' (.slice none 0 0) :=
  ⟨hT.st, (hT.keep h.below).at.ins, (hT.keep h.below).at.flows, texts_nil W⟩
theorem QV.pg2 {w9 W : World} {p : Pg} {lo : Nat} {a' b' c' : Value} {l : List Fl} {v : Value} (h : Below w9.heap.size w9 W) (hT : TwPg w9 lo p a' b' c') (hF : FlowsAt W l v) : PgAt W { p with flows := l, outs := [] } a' v (.slice none 0 0) :=
  ⟨hT.st, (hT.keep h).at.ins, hF, texts_nil W⟩
/-- The twin with one more flow. -/
structure TV (lo : Nat) (p : Pg) (y : Fl) (s a2 v2 c2 : Value) (kt : Nat) (W : World) : Prop where
  row : W.heap[kt]? = some (.cells #[.int .i64 p.st, a2, v2, c2] 26 (0, 0))
  hi : lo ≤ kt
  st : -9223372036854775808 ≤ p.st ∧ p.st ≤ 9223372036854775807
  ins : TwIns W lo p.ins a2
  outs : TwTexts W lo p.outs c2
  flows : ∃ ps : List (Fl × Value), ps.map (·.1) = p.flows ∧ W.ownsRow lo 53 8 v2 (ps ++ [(y, s)]).length (esF (ps ++ [(y, s)])).flatten ∧ ∀ q ∈ ps, Tw W lo q.1.body q.2
theorem own_carry {w W : World} {lo t c n : Nat} {v : Value} {xs : List Value} (h : w.ownsRow lo t c v n xs) (hb : ∀ b, lo ≤ b → b < w.heap.size → W.heap[b]? = w.heap[b]?) : W.ownsRow lo t c v n xs := by
  refine ⟨h.1, h.2.imp_right ?_⟩
  rintro ⟨g, cap, cur, e, h1, h2, rest⟩
  exact ⟨g, cap, cur, e, h1, (hb g h1 (Array.getElem?_eq_some_iff.1 h2).1).trans h2, rest⟩
theorem TV.carry {lo : Nat} {p : Pg} {y : Fl} {s a2 v2 c2 : Value} {kt : Nat} {W W' : World} (h : TV lo p y s a2 v2 c2 kt W) (hb : ∀ b, lo ≤ b → b < W.heap.size → W'.heap[b]? = W.heap[b]?) : TV lo p y s a2 v2 c2 kt W' := by
  obtain ⟨ps, h1, h2, h3⟩ := h.flows
  exact ⟨(hb kt h.hi (Array.getElem?_eq_some_iff.1 h.row).1).trans h.row, h.hi, h.st, h.ins.carry hb (Nat.le_refl _), h.outs.carry hb (Nat.le_refl _), ps, h1, own_carry h2 hb, fun q hq => Tw.carryN hb (Nat.le_refl _) _ _ _ (Nat.le_refl _) (h3 q hq)⟩
theorem TV.keep {lo : Nat} {p : Pg} {y : Fl} {s a2 v2 c2 : Value} {kt : Nat} {W W' : World} (h : TV lo p y s a2 v2 c2 kt W) (hb : Below W.heap.size W W') : TV lo p y s a2 v2 c2 kt W' := h.carry (fun b _ hlt => hb.block b hlt)
theorem TV.pg {lo : Nat} {p : Pg} {y : Fl} {s a2 v2 c2 : Value} {kt : Nat} {W : World} (h : TV lo p y s a2 v2 c2 kt W) (hl : p.flows.length ≤ 128) (hok : ∀ x ∈ p.flows, x.ok) (hy : y.ok) (hS : St W y.body s) : PgAt W { p with flows := p.flows ++ [y] } a2 v2 c2 := by
  obtain ⟨ps, h1, h2, h3⟩ := h.flows
  have hlen : ps.length = p.flows.length := by rw [← h1]; simp
  have := own_flows h2 (by simp; omega) (fun q hq => by
    rcases List.mem_append.1 hq with hq | hq
    · exact hok _ (by rw [← h1]; exact List.mem_map_of_mem hq)
    · rw [List.mem_singleton.1 hq]; exact hy) (fun q hq => by
    rcases List.mem_append.1 hq with hq | hq
    · exact (h3 q hq).st
    · rw [List.mem_singleton.1 hq]; exact hS)
  rw [List.map_append, h1] at this
  exact ⟨h.st, h.ins.at, this, h.outs.at⟩
theorem HdCells.blk {w W : World} {b p : Nat} {x : Hd} (h : HdCells w b p x) (hb : W.heap[b]? = w.heap[b]?) : HdCells W b p x := by
  have k : ∀ {o v}, w.cell? ⟨b, o, none⟩ = some v → W.cell? ⟨b, o, none⟩ = some v := fun {o v} h => by
    rw [World.cell?_of_block (w := w) (a := ⟨b, o, none⟩) hb]; exact h
  exact ⟨k h.1, k h.2.1, k h.2.2⟩
theorem TwIns.apart {w W : World} {lo : Nat} {l : List Hd} {s : Value} {fb c cap : Nat} (h : TwIns w lo l s) (hf : Blk w fb 53 c cap) (hk : ∀ b, b < w.heap.size → b ≠ fb → W.heap[b]? = w.heap[b]?) : TwIns W lo l s := by
  obtain ⟨b, cp, rfl, h1, h2, h3, h4, h5, h6, h8⟩ := h
  have hne := h8.ne hf (by decide)
  have hb : W.heap[b]? = w.heap[b]? := by
    obtain ⟨cur, e, _⟩ := h8
    exact hk b (Array.getElem?_eq_some_iff.1 e).1 hne
  exact ⟨b, cp, rfl, h1, h2, h3, h4, fun i hi => (h5 i hi).blk hb, h6.blk hb, by obtain ⟨cur, e, r⟩ := h8; exact ⟨cur, hb.trans e, r⟩⟩
theorem TwTexts.apart {w W : World} {lo : Nat} {l : List ByteArray} {s : Value} {fb c cap : Nat} (h : TwTexts w lo l s) (hf : Blk w fb 53 c cap) (hk : ∀ b, b < w.heap.size → b ≠ fb → W.heap[b]? = w.heap[b]?) : TwTexts W lo l s := by
  obtain ⟨b, cp, rfl, h1, h2, h3, h4, h5, h6, h8⟩ := h
  have hne := h8.ne hf (by decide)
  have hb : W.heap[b]? = w.heap[b]? := by
    obtain ⟨cur, e, _⟩ := h8
    exact hk b (Array.getElem?_eq_some_iff.1 e).1 hne
  have k : ∀ {o v}, w.cell? ⟨b, o, none⟩ = some v → W.cell? ⟨b, o, none⟩ = some v := fun {o v} h => by
    rw [World.cell?_of_block (w := w) (a := ⟨b, o, none⟩) hb]; exact h
  exact ⟨b, cp, rfl, h1, h2, h3, h4, fun i hi => k (h5 i hi), k h6, by obtain ⟨cur, e, r⟩ := h8; exact ⟨cur, hb.trans e, r⟩⟩
theorem tv_grown {w12 w6 : World} {fb : Nat} {o : Obj} {c : Array Value} (hf : fb < w12.heap.size) (hg : ((w12.alloc (.cells c 26)).alloc o).drew.grownBy w6 (some fb)) :
    (∀ b, b < w12.heap.size → b ≠ fb → w6.heap[b]? = w12.heap[b]?) ∧ w6.heap[w12.heap.size]? = some (.cells c 26 (0, 0)) ∧ w12.heap.size < w6.heap.size ∧ w6.os = w12.os ∧ w6.tape = w12.tape ∧ w6.output = w12.output := by
  have sz : ((w12.alloc (.cells c 26)).alloc o).drew.heap.size = w12.heap.size + 2 := by simp
  have hs := hg.size
  refine ⟨fun b hb hn => ?_, ?_, by omega, hg.os, hg.tape, hg.output⟩
  · rw [hg.block b (by omega) (by intro e; injection e with e; omega)]
    exact (Below.heap_alloc _ _ _ (by simp; omega)).trans (Below.heap_alloc _ _ _ hb)
  · rw [hg.block w12.heap.size (by omega) (by intro e; injection e with e; omega)]
    exact push_old (push_new _ _ _ rfl)
theorem news12 (w12 : World) (o1 : Obj) (y : Fl) (s : Value) : ∀ j u, (flL y s)[j]? = some u → ((w12.alloc o1).alloc (.cells (flL y s).toArray 53)).drew.cell? ((⟨w12.heap.size + 1, 0, none⟩ : Addr).add j) = some u := by
  intro j u hj
  have := next_cells (w12.alloc o1) (flL y s) 53 j u hj
  have e : (w12.alloc o1).heap.size = w12.heap.size + 1 := by simp
  rw [e] at this
  exact this
theorem tv_done {w12 w6 : World} {lo n : Nat} {p : Pg} {y : Fl} {s a2 c2 : Value} {fb cap0 gg cap : Nat} {o : Obj} {ps : List (Fl × Value)} (hT : TwPg w12 lo p a2 (.slice (some ⟨fb, 0, none⟩) p.flows.length cap0) c2) (hlo : lo ≤ w12.heap.size)
    (hps : ps.map (·.1) = p.flows) (hTw : ∀ q ∈ ps, Tw w12 (fb + 1) q.1.body q.2) (hn : n = p.flows.length)
    (hown : w6.ownsRow lo 53 8 (.slice (some ⟨gg, 0, none⟩) (n + 1) cap) (n + 1) ((esF ps).flatten ++ flL y s))
    (hg : ((w12.alloc (.cells #[.int .i64 p.st, a2, .slice (some ⟨fb, 0, none⟩) p.flows.length cap0, c2] 26)).alloc o).drew.grownBy w6 (some fb)) (hat : fb = gg ∨ gg = w12.heap.size + 2) :
    TV lo p y s a2 (.slice (some ⟨gg, 0, none⟩) (n + 1) cap) c2 w12.heap.size (w6.setCell ⟨w12.heap.size, 2, none⟩ (.slice (some ⟨gg, 0, none⟩) (n + 1) cap)) ∧ Below lo w12 (w6.setCell ⟨w12.heap.size, 2, none⟩ (.slice (some ⟨gg, 0, none⟩) (n + 1) cap)) := by
  obtain ⟨b, cp, sl, e, h1, h2, h3, h4, h5, h6, h7, h8⟩ := id hT.flows
  injection e with e1 _ e3
  injection e1 with e1
  injection e1 with e1 _ _
  subst e1 e3 hn
  have hf : fb < w12.heap.size := by obtain ⟨cur, e, _⟩ := h8; exact (Array.getElem?_eq_some_iff.1 e).1
  obtain ⟨g1, g2, g3, g4, g5, g6⟩ := tv_grown hf hg
  have hgk : gg ≠ w12.heap.size := by rcases hat with h | h <;> omega
  have same : ∀ b, b < w12.heap.size → b ≠ fb → (w6.setCell ⟨w12.heap.size, 2, none⟩ (.slice (some ⟨gg, 0, none⟩) (p.flows.length + 1) cap)).heap[b]? = w12.heap[b]? := fun b hb hn => (Below.heap_setCell _ _ _ _ (by simp; omega)).trans (g1 b hb hn)
  have gX : w6.grownBy (w6.setCell ⟨w12.heap.size, 2, none⟩ (.slice (some ⟨gg, 0, none⟩) (p.flows.length + 1) cap)) (some w12.heap.size) := ⟨rfl, rfl, rfl, by simp, fun k _ h => Below.heap_setCell _ _ _ _ (fun e => h (by rw [e]))⟩
  have own6 := hown.kept gX (.inr (by simp [Value.ownBlock]; omega))
  have hl : ps.length = p.flows.length := by rw [← hps]; simp
  refine ⟨⟨by rw [set_same g2]; rfl, hlo, hT.st, hT.ins.apart h8 same, hT.outs.apart h8 same, ps, hps, ?_, fun q hq => ?_⟩, ⟨g4, g5, g6, ?_, fun k hk => same k (by omega) (by omega)⟩⟩
  · have e1 : (ps ++ [(y, s)]).length = p.flows.length + 1 := by simp [hl]
    have e2 : (esF (ps ++ [(y, s)])).flatten = (esF ps).flatten ++ flL y s := by simp
    rw [e1, e2]
    exact own6
  · exact (Tw.carryN (fun b hb hlt => same b hlt (by omega)) (Nat.le_refl _) _ _ _ (Nat.le_refl _) (hTw q hq)).low (by omega)
  · have := gX.size
    omega
/-- The row of the flows that are left, while it is made. -/
structure LV (w14 : World) (qs : List (Fl × Value)) (fl : Value) (W : World) : Prop where
  below : Below w14.heap.size w14 W
  own : W.ownsRow w14.heap.size 53 8 fl qs.length (esF qs).flatten
theorem LV.start (w14 : World) : LV w14 [] (.slice none 0 0) w14 := ⟨Below.refl _ _, rfl, .inl ⟨rfl, rfl⟩⟩
theorem LV.keep {w14 W W' : World} {qs : List (Fl × Value)} {fl : Value} (h : LV w14 qs fl W) (hb : Below W.heap.size W W') : LV w14 qs fl W' :=
  ⟨h.below.trans (hb.mono h.below.size), own_carry h.own (fun b _ hlt => hb.block b hlt)⟩
theorem LV.grow {w14 W W' : World} {qs : List (Fl × Value)} {fl fl' : Value} {y : Fl} {s : Value} (h : LV w14 qs fl W) (hown : W'.ownsRow w14.heap.size 53 8 fl' (qs.length + 1) ((esF qs).flatten ++ flL y s)) (hg : W.grownBy W' fl.ownBlock) : LV w14 (qs ++ [(y, s)]) fl' W' where
  below := h.below.grown hg h.below.size (fun j hj => by
    rcases h.own.2 with ⟨e, _⟩ | ⟨g, cap, cur, e, h1, _⟩
    · rw [e] at hj; cases hj
    · rw [e] at hj; have hj' : g = j := by injection hj
      omega)
  own := by
    have e1 : (qs ++ [(y, s)]).length = qs.length + 1 := by simp
    have e2 : (esF (qs ++ [(y, s)])).flatten = (esF qs).flatten ++ flL y s := by simp
    rw [e1, e2]
    exact hown
theorem LV.slice {w14 W : World} {qs : List (Fl × Value)} {fl : Value} (h : LV w14 qs fl W) : ∃ ao cap, fl = .slice ao qs.length cap := by
  rcases h.own.2 with ⟨e, e0⟩ | ⟨g, cap, cur, e, _⟩
  · exact ⟨none, 0, by rw [e, e0]⟩
  · exact ⟨_, cap, e⟩
/-- Is the name asked for? -/
def ak (nm : ByteArray) (l : List Fl) : Bool := !(l.all fun f => (asksOf f).all fun s => !decide (nm.data.toList = s.data.toList))
theorem ak_snoc (nm : ByteArray) (l : List Fl) (f : Fl) : ak nm (l ++ [f]) = (ak nm l || (gat 32 f.body 0 []).any fun z => decide (nm.data.toList = z.1.data.toList)) := by
  unfold ak asksOf
  simp only [List.all_append, List.all_cons, List.all_nil, Bool.and_true, Bool.not_and, List.all_map]
  congr 1
  rw [List.not_all_eq_any_not]
  simp
theorem erase_same {α : Type} (l : List α) (k : Nat) (hk : k < l.length) : (l.take (k + 1)).eraseIdx k = (l.take k).eraseIdx k := by
  have e : (l.take k).length = k := by simp; omega
  rw [List.take_succ_eq_append_getElem hk, List.eraseIdx_append_of_length_le (by omega), e, List.eraseIdx_of_length_le (l := l.take k) (by omega)]
  simp
theorem erase_more {α : Type} (l : List α) (k m : Nat) (hm : m < l.length) (hne : m ≠ k) : (l.take (m + 1)).eraseIdx k = (l.take m).eraseIdx k ++ [l[m]] := by
  rw [List.take_succ_eq_append_getElem hm]
  by_cases h : k < m
  · rw [List.eraseIdx_append_of_lt_length (by simp; omega)]
  · rw [List.eraseIdx_of_length_le (by simp; omega), List.eraseIdx_of_length_le (by simp; omega)]
theorem less_err {p : Pg} (hp : pgOk p = true) (hn : nmOk p = true) (k : Nat) (hk : k < p.flows.length) (y : Fl) (hy : p.flows[k] = y) (l : List Fl) (hl : l = (p.flows.take p.flows.length).eraseIdx k) : nmErr { p with flows := l, outs := [] } = if ak y.name l then 6 else 0 := by
  subst hl hy
  rw [List.take_length, List.eraseIdx_eq_take_drop_succ, less_flow hp hn k hk]
  unfold ak
  cases (p.flows.take k ++ p.flows.drop (k + 1)).all (fun f => (asksOf f).all fun s => !decide (p.flows[k].name.data.toList = s.data.toList)) <;> rfl
theorem twice_err {p : Pg} (hp : pgOk p = true) (k : Nat) (hk : k < p.flows.length) (y : Fl) (hy : p.flows[k] = y) : nmErr { p with flows := p.flows ++ [y] } = if p.flows.length + 1 ≤ 128 then 6 else 1 := by
  subst hy
  exact twice_flow hp k hk
theorem LV.set {w14 W : World} {qs : List (Fl × Value)} {fl u : Value} {kq : Nat} (h : LV w14 qs fl W) (hk : kq < w14.heap.size) : (W.setCell ⟨kq, 2, none⟩ u).ownsRow w14.heap.size 53 8 fl qs.length (esF qs).flatten :=
  own_carry h.own (fun b hb _ => Below.heap_setCell _ _ _ _ (by simp; omega))
end Go.Proofs.YtejacmgppnafcaaDoor.Lex
