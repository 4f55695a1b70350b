/-
  A program by its numbers: the contract of of.
  A range over a function that has memory of its own, which it turns between two rounds: what such a function promises, and the law of the statement.
-/
import Derived.Test.YtjdlmhkfaodkgaaDoorG7
import Derived.RangeFuncNested
namespace Go.Proofs.YtjdlmhkfaodkgaaDoor.Lex
open Go.ChangeShapes Go.WideShapes Go.ChangeAt Go.RowKit Go.Joins
theorem OX.grown {w W0 W W' : World} {v : Value} {fs : List (Fl × Value)} {kx : Nat} {x : Ex} {a : Option Addr} {n c : Nat} (h : OX W0 kx x a n c W) (hq : OQ w v fs W) (hg : W.grownBy W' v.ownBlock) : W'.cell? ⟨kx, 0, none⟩ = some (.int .u8 (x.op : Int)) ∧ W'.cell? ⟨kx, 1, none⟩ = some (.int .i64 x.n) ∧ W'.cell? ⟨kx, 2, none⟩ = some (.string x.name) ∧ W'.cell? ⟨kx, 3, none⟩ = some (.slice a n c) := by
  have hr : W'.heap[kx]? = some (.cells #[.int .u8 (x.op : Int), .int .i64 x.n, .string x.name, .slice a n c] 49 (0, 0)) := by
    rw [hg.block kx (Array.getElem?_eq_some_iff.1 h.var).1 (fun e => ?_)]
    · exact h.var
    · obtain ⟨_, c', hc'⟩ := hq.own51 kx e.symm
      rw [h.var] at hc'
      simp at hc'
  refine ⟨?_, ?_, ?_, ?_⟩ <;> (rw [cell_of_row _ _ _ _ 49 (0, 0) hr]; rfl)
theorem OQ.pcell {w W W' : World} {v : Value} {fs : List (Fl × Value)} (h : OQ w v fs W) (hg : W.grownBy W' v.ownBlock) : W'.cell? ⟨w.heap.size + 1, 2, none⟩ = some v ∧ W'.frozen? ⟨w.heap.size + 1, 2, none⟩ = false := by
  have hr : W'.heap[w.heap.size + 1]? = some (.cells #[.int .i64 1, .slice none 0 0, v, .slice none 0 0] 26 (0, 0)) := by
    rw [hg.block _ h.size (fun e => by have := (h.own51 _ e.symm).1; omega)]
    exact h.row
  constructor
  · rw [cell_of_row _ _ _ _ 26 (0, 0) hr]; rfl
  · simp [World.frozen?, hr]
theorem own_shape {w : World} {lo t c n : Nat} {v : Value} {xs : List Value} (h : w.ownsRow lo t c v n xs) : ∃ a m k, v = .slice a m k := by
  rcases h.2 with ⟨e, _⟩ | ⟨g, cap, cur, e, _⟩
  · exact ⟨_, _, _, e⟩
  · exact ⟨_, _, _, e⟩
theorem cell_set {W : World} {b k o : Nat} {u : Value} (hne : k ≠ b) : (W.setCell ⟨b, 2, none⟩ u).cell? ⟨k, o, none⟩ = W.cell? ⟨k, o, none⟩ := World.cell?_of_block (Below.heap_setCell _ _ _ _ hne)
theorem inf51P : (Tryd.prog.info? 51).map (fun i => (i.zero, i.size, i.bytes)) = some (some (.agg #[.string ByteArray.empty, .int .u8 0, .int .i64 0, .int .i64 0, .int .u8 0, .int .i64 0, .string ByteArray.empty, .slice none 0 0]), 8, 96) := by kernel_rfl
set_option maxRecDepth 100000 in
set_option maxHeartbeats 4000000 in
theorem of_c (now ago : List (List Nat)) (w : World) (nv av : Value) (hn : LAt w nv now) (ha : LAt w av ago) (hl : now.length ≤ 64) (hk : ∀ l ∈ now, l.length ≤ 1000 ∧ ∀ k ∈ l, k < 676) (hka : ∀ l ∈ ago, l.length ≤ 1000 ∧ ∀ k ∈ l, k < 676) :
    Calls Tryd.prog 14 #[nv, av] w fun e w' => ∃ b, e = .returned (pgV (ofP now ago) (.slice none 0 0) b (.slice none 0 0)) ∧ PgAt w' (ofP now ago) (.slice none 0 0) b (.slice none 0 0) ∧ Below w.heap.size w w' := by
  obtain ⟨na, nc, rfl, hnr⟩ := hn
  obtain ⟨aa, ac, rfl, har⟩ := ha
  have HNR := hid hnr
  have HAR := hid har
  have HK := hid hk
  have HKA := hid hka
  clear hnr har hk hka
  obtain ⟨i0, hi, hz0, hz1, hz2⟩ := info_parts inf51P
  have Q0 : Hid (OQ w (.slice none 0 0) [] ((w.alloc (.cells #[.int .i64 0, .slice none 0 0, .slice none 0 0, .slice none 0 0] 26)).alloc (.cells #[.int .i64 1, .slice none 0 0, .slice none 0 0, .slice none 0 0] 26))) := hid (by
    have b1 := (Below.refl w.heap.size w).alloc (Nat.le_refl _) (.cells #[.int .i64 0, .slice none 0 0, .slice none 0 0, .slice none 0 0] 26)
    have b2 := bstep b1 ((Below.refl _ _).alloc (Nat.le_refl _) (.cells #[.int .i64 1, .slice none 0 0, .slice none 0 0, .slice none 0 0] 26))
    exact ⟨push_old (push_new _ _ _ rfl), push_new _ _ _ (by simp), ⟨rfl, .inl ⟨rfl, rfl⟩⟩, (fun q hq => by cases hq), (fun q hq => by cases hq), b2⟩)
  go_enter Tryd.func14, Tryd.ntmps14
  go_wp2_with (fail)
  generalize ((w.alloc (.cells #[.int .i64 0, .slice none 0 0, .slice none 0 0, .slice none 0 0] 26)).alloc (.cells #[.int .i64 1, .slice none 0 0, .slice none 0 0, .slice none 0 0] 26)) = W1 at *
  go_loopw [6] (fun i wr => ∃ j : Nat, j ≤ now.length ∧ i = .int .i64 (j : Int) ∧ Hid (∃ v fs, OQ w v fs wr ∧ fs.map (·.1) = (List.range j).map fun i => ofF i (now.getD i []) (ago.getD i []))) (fun i _ => now.length - (intOf i).toNat)
  case atStart => exact ⟨0, Nat.zero_le _, rfl, hid ⟨_, _, Q0.out, rfl⟩⟩
  case round =>
    obtain ⟨i, hil, rfl, HQ⟩ := hrel
    obtain ⟨v, fs, hq, hfs⟩ := HQ.out
    have YK := hid hq
    have HFS := hid hfs
    have HFL : Hid (fs.length = i) := hid (by have := congrArg List.length hfs; simpa using this)
    clear hq hfs HQ Q0
    by_cases hlt : i < now.length
    · have hlt' : (i : Int) < (now.length : Int) := by omega
      have hi0' : (0 : Int) ≤ (i : Int) := by omega
      obtain ⟨g, o, rfl, hcc⟩ := HNR.out.resolve_left (by omega)
      obtain ⟨u0, hu, hia⟩ := hcc i hlt
      have HL := hid (HK.out _ (List.getElem_mem hlt))
      have HG : Hid (now.getD i [] = now[i]) := hid (by rw [List.getD_eq_getElem?_getD, List.getElem?_eq_getElem hlt]; rfl)
      generalize now[i] = l0 at *
      obtain ⟨ra, rc, rfl, hrc⟩ := hia
      rw [List.length_map] at hu
      have HU := hid hu
      have HRC := hid hrc
      have X0 : Hid (OX wr wr.heap.size exNum none 0 0 (wr.alloc (.cells #[.int .u8 1, .int .i64 0, .string ⟨#[]⟩, .slice none 0 0] 49))) := hid ⟨heap_alloc_new wr _, sx_num _ _, Nat.le_refl _, (Below.refl _ _).alloc (Nat.le_refl _) _⟩
      clear hu hrc hcc
      go_wp2_with (fail)
      generalize hkx : wr.heap.size = kx at *
      have HKW := hid hkx
      clear hkx
      generalize wr.alloc (.cells #[.int .u8 1, .int .i64 0, .string ⟨#[]⟩, .slice none 0 0] 49) = W2 at *
      have HWR := hid YK.out.below
      generalize wr = W0 at *
      go_loopw [8] (fun kk wr => ∃ k : Nat, k ≤ l0.length ∧ kk = .int .i64 (k : Int) ∧ Hid (∃ xa xn xc, OX W0 kx (addN exNum (l0.take k)) xa xn xc wr)) (fun kk _ => l0.length - (intOf kk).toNat)
      case atStart => exact ⟨0, Nat.zero_le _, rfl, hid ⟨_, _, _, X0.out⟩⟩
      case round =>
        obtain ⟨k, hkl, rfl, HX⟩ := hrel
        obtain ⟨xa, xn, xc, hx⟩ := HX.out
        have XK := hid hx
        clear hx HX X0
        have BW := hid (HWR.out.trans (XK.out.below.mono HWR.out.size))
        have z1 := cell_kept HU.out BW.out
        by_cases hkt : k < l0.length
        · have hkt' : (k : Int) < (l0.length : Int) := by omega
          have hk0 : (0 : Int) ≤ (k : Int) := by omega
          have hk1000 : k < 1000 := by have := HL.out.1; omega
          obtain ⟨g2, o2, rfl, hrc⟩ := HRC.out.resolve_left (by rw [List.length_map]; omega)
          have h2 := hrc k (by rw [List.length_map]; exact hkt)
          rw [List.getElem_map] at h2
          have HM := hid (HL.out.2 _ (List.getElem_mem hkt))
          have HXT := hid (add_take (x := exNum) hkt)
          generalize l0[k] = m at *
          generalize addN exNum (l0.take k) = x at *
          have HZ1 : Hid (∀ V, Below w.heap.size w V → V.cell? ⟨g, o + i, none⟩ = some (.slice (some ⟨g2, o2, none⟩) l0.length rc)) := hid (fun V hV => cell_kept HU.out hV)
          have HZ2 : Hid (∀ V, Below w.heap.size w V → V.cell? ⟨g2, o2 + k, none⟩ = some (.int .i64 (m : Int))) := hid (fun V hV => cell_kept h2 hV)
          have z2 := cell_kept h2 BW.out
          clear h2 hrc
          have BR := BW
          have B0 := hid (BW.out.drew)
          have K0 := hid (XK.out.keep (Below.refl _ _).drew)
          have HKX : Hid (w.heap.size ≤ kx) := hid (by have h1 := XK.out.lt; have h2 := HWR.out.size; omega)
          clear BW
          go_wp2_with (fail)
          clear z1 z2
          refine wp_region_held_drew (S := fun W => W.cell? ⟨g, o + i, none⟩ = some (.slice (some ⟨g2, o2, none⟩) l0.length rc) ∧ W.cell? ⟨g2, o2 + k, none⟩ = some (.int .i64 (m : Int))) (by kernel_rfl) ?_ (fun hHeld => ?_)
          · exact ⟨HZ1.out _ B0.out, HZ2.out _ B0.out⟩
          refine wpAnyH_take (i := 1) (oi := { dst := some 28, op := Go.Op.move (Go.Operand.tmp 0), type := 34, pos := _, after := #[], guard := none }) (v := ?_) rfl (by kernel_rfl) (by kernel_rfl) (by kernel_rfl) (fun _ _ _ h => h) (Or.inl ⟨by rfl, ?_⟩) (by assumption) ?_
          rotate_left
          · intro w hSw; (try dsimp only at hSw); go_simp <;> with_reducible rfl
          simp only [Act.put, List.setIfInBounds_toArray, List.set_cons_zero, List.set_cons_succ]
          refine wpAnyH_take (i := 2) (oi := { dst := some 29, op := Go.Op.move (Go.Operand.tmp 6), type := 3, pos := _, after := #[], guard := none }) (v := ?_) rfl (by kernel_rfl) (by kernel_rfl) (by kernel_rfl) (fun _ _ _ h => h) (Or.inl ⟨by rfl, ?_⟩) (by assumption) ?_
          rotate_left
          · intro w hSw; (try dsimp only at hSw); go_simp <;> with_reducible rfl
          simp only [Act.put, List.setIfInBounds_toArray, List.set_cons_zero, List.set_cons_succ]
          refine wpAnyH_take (i := 3) (oi := { dst := some 30, op := Go.Op.indexAddr 34 (Go.Operand.tmp 28) (Go.Operand.tmp 29), type := 0, pos := _, after := #[{ on := 1, ground := Go.Ground.data }, { on := 2, ground := Go.Ground.data }], guard := none }) (v := ?_) rfl (by kernel_rfl) (by kernel_rfl) (by kernel_rfl) (fun _ _ _ h => h) (Or.inl ⟨by rfl, ?_⟩) (by assumption) ?_
          rotate_left
          · intro w hSw; (try dsimp only at hSw); go_simp <;> with_reducible rfl
          simp only [Act.put, List.setIfInBounds_toArray, List.set_cons_zero, List.set_cons_succ]
          refine wpAnyH_take (i := 4) (oi := { dst := some 31, op := Go.Op.load 35 (Go.Operand.tmp 30), type := 35, pos := _, after := #[{ on := 3, ground := Go.Ground.data }], guard := none }) (v := ?_) rfl (by kernel_rfl) (by kernel_rfl) (by kernel_rfl) (fun _ _ _ h => h) (Or.inl ⟨by rfl, ?_⟩) (by assumption) ?_
          rotate_left
          · intro w hSw; (try dsimp only at hSw); go_simp <;> with_reducible rfl
          simp only [Act.put, List.setIfInBounds_toArray, List.set_cons_zero, List.set_cons_succ]
          refine wpAnyH_take (i := 5) (oi := { dst := some 32, op := Go.Op.move (Go.Operand.tmp 8), type := 3, pos := _, after := #[], guard := none }) (v := ?_) rfl (by kernel_rfl) (by kernel_rfl) (by kernel_rfl) (fun _ _ _ h => h) (Or.inl ⟨by rfl, ?_⟩) (by assumption) ?_
          rotate_left
          · intro w hSw; (try dsimp only at hSw); go_simp <;> with_reducible rfl
          simp only [Act.put, List.setIfInBounds_toArray, List.set_cons_zero, List.set_cons_succ]
          refine wpAnyH_take (i := 6) (oi := { dst := some 33, op := Go.Op.indexAddr 35 (Go.Operand.tmp 31) (Go.Operand.tmp 32), type := 0, pos := _, after := #[{ on := 4, ground := Go.Ground.data }, { on := 5, ground := Go.Ground.data }], guard := none }) (v := ?_) rfl (by kernel_rfl) (by kernel_rfl) (by kernel_rfl) (fun _ _ _ h => h) (Or.inl ⟨by rfl, ?_⟩) (by assumption) ?_
          rotate_left
          · intro w hSw; (try dsimp only at hSw); go_simp <;> with_reducible rfl
          simp only [Act.put, List.setIfInBounds_toArray, List.set_cons_zero, List.set_cons_succ]
          refine wpAnyH_take (i := 7) (oi := { dst := some 34, op := Go.Op.load 3 (Go.Operand.tmp 33), type := 3, pos := _, after := #[{ on := 6, ground := Go.Ground.data }], guard := none }) (v := ?_) rfl (by kernel_rfl) (by kernel_rfl) (by kernel_rfl) (fun _ _ _ h => h) (Or.inl ⟨by rfl, ?_⟩) (by assumption) ?_
          rotate_left
          · intro w hSw; (try dsimp only at hSw); go_simp <;> with_reducible rfl
          simp only [Act.put, List.setIfInBounds_toArray, List.set_cons_zero, List.set_cons_succ]
          refine wpAnyH_ready (rs := [0, 8]) (by kernel_rfl) (by simp) ?_
          refine AllReadyH.cons (o := { dst := some 27, op := Go.Op.load 49 (Go.Operand.tmp 7), type := 49, pos := _, after := #[], guard := none }) rfl (fun K hK => ?_) (AllReadyH.cons (o := { dst := some 35, op := Go.Op.call { callee := Go.Callee.value (Go.Operand.func 16), args := #[Go.Operand.tmp 34], argTypes := #[3] }, type := 9, pos := _, after := #[{ on := 7, ground := Go.Ground.data }], guard := none }) rfl (fun K hK => ?_) AllReadyH.nil)
          · obtain ⟨q0, q1, q2, q3⟩ := K0.out.cells
            go_simp
            go_wp2_with fail
            refine hK.out _ _ (by exact ⟨HZ1.out _ B0.out, HZ2.out _ B0.out⟩) (fun hHeld1 => ?_)
            clear hK K
            (try simp only [Act.put, List.setIfInBounds_toArray, List.set_cons_zero, List.set_cons_succ])
            clear q0 q1 q2 q3
            refine wpAnyH_ready (rs := [8]) (by kernel_rfl) (by simp) ?_
            refine AllReadyH.cons (o := { dst := some 35, op := Go.Op.call { callee := Go.Callee.value (Go.Operand.func 16), args := #[Go.Operand.tmp 34], argTypes := #[3] }, type := 9, pos := _, after := #[{ on := 7, ground := Go.Ground.data }], guard := none }) rfl (fun K hK => ?_) AllReadyH.nil
            go_simp
            refine (word m HM.out _).mono ?_
            rintro e v2 ⟨rfl, hb2⟩
            have K2 := hid (K0.out.keep hb2)
            have B2 := hid (bstep B0.out hb2)
            go_wp2_with fail
            refine hK.out _ _ (by exact ⟨HZ1.out _ B2.out, HZ2.out _ B2.out⟩) (fun hHeld2 => ?_)
            clear hK K
            (try simp only [Act.put, List.setIfInBounds_toArray, List.set_cons_zero, List.set_cons_succ])
            clear hb2
            refine wpAnyH_take (i := 9) (oi := { dst := some 36, op := Go.Op.build 49 #[(0, Go.Operand.const (Go.Value.int Go.IntKind.u8 3)), (2, Go.Operand.tmp 35)], type := 49, pos := _, after := #[{ on := 8, ground := Go.Ground.data }], guard := none }) (v := ?_) rfl (by kernel_rfl) (by kernel_rfl) (by kernel_rfl) (fun _ _ _ h => h) (Or.inl ⟨by rfl, ?_⟩) (by assumption) ?_
            rotate_left
            · intro w hSw; (try dsimp only at hSw); go_simp <;> with_reducible rfl
            simp only [Act.put, List.setIfInBounds_toArray, List.set_cons_zero, List.set_cons_succ]
            refine wpAnyH_ready (rs := [10]) (by kernel_rfl) (by simp) ?_
            refine AllReadyH.cons (o := { dst := some 37, op := Go.Op.buildSlice 47 2 #[(0, Go.Operand.tmp 27), (1, Go.Operand.tmp 36)], type := 47, pos := _, after := #[{ on := 0, ground := Go.Ground.data }, { on := 9, ground := Go.Ground.data }], guard := none }) rfl (fun K hK => ?_) AllReadyH.nil
            go_simp
            go_wp2_with fail
            have LN3 := hid (K2.out.sx.two (sx_nm _ _ m) 6 (by decide) K2.out.ne)
            have K3 := hid (K2.out.keep ((Below.refl _ _).alloc (Nat.le_refl _) (.cells #[.int .u8 (x.op : Int), .int .i64 x.n, .string x.name, .slice xa xn xc, .int .u8 3, .int .i64 0, .string (wordB m), .slice none 0 0] 49)))
            have B3 := hid (bstep B2.out ((Below.refl _ _).alloc (Nat.le_refl _) (.cells #[.int .u8 (x.op : Int), .int .i64 x.n, .string x.name, .slice xa xn xc, .int .u8 3, .int .i64 0, .string (wordB m), .slice none 0 0] 49)))
            refine hK.out _ _ (by exact ⟨HZ1.out _ B3.out, HZ2.out _ B3.out⟩) (fun hHeld3 => ?_)
            clear hK K
            (try simp only [Act.put, List.setIfInBounds_toArray, List.set_cons_zero, List.set_cons_succ])
            refine wpAnyH_take (i := 11) (oi := { dst := some 38, op := Go.Op.build 49 #[(0, Go.Operand.const (Go.Value.int Go.IntKind.u8 6)), (3, Go.Operand.tmp 37)], type := 49, pos := _, after := #[{ on := 10, ground := Go.Ground.data }], guard := none }) (v := ?_) rfl (by kernel_rfl) (by kernel_rfl) (by kernel_rfl) (fun _ _ _ h => h) (Or.inl ⟨by rfl, ?_⟩) (by assumption) ?_
            rotate_left
            · intro w hSw; (try dsimp only at hSw); go_simp <;> with_reducible rfl
            simp only [Act.put, List.setIfInBounds_toArray, List.set_cons_zero, List.set_cons_succ]
            refine wpAnyH_ready (rs := [12]) (by kernel_rfl) (by simp) ?_
            refine AllReadyH.cons (o := { dst := none, op := Go.Op.store 49 (Go.Operand.tmp 7) (Go.Operand.tmp 38), type := 0, pos := _, after := #[{ on := 11, ground := Go.Ground.data }, { on := 8, ground := Go.Ground.chain }, { on := 0, ground := Go.Ground.phase }, { on := 1, ground := Go.Ground.phase }, { on := 2, ground := Go.Ground.phase }, { on := 3, ground := Go.Ground.phase }, { on := 4, ground := Go.Ground.phase }, { on := 5, ground := Go.Ground.phase }, { on := 6, ground := Go.Ground.phase }, { on := 7, ground := Go.Ground.phase }, { on := 8, ground := Go.Ground.phase }, { on := 9, ground := Go.Ground.phase }, { on := 10, ground := Go.Ground.phase }, { on := 11, ground := Go.Ground.phase }], guard := none }) rfl (fun K hK => ?_) AllReadyH.nil
            refine if_take (by rfl) ?_
            refine wp_store_row 49 _ _ rfl kx #[.int .u8 6, .int .i64 0, .string ⟨#[]⟩, .slice (some ⟨v2.heap.size, 0, none⟩) 2 2] rfl rfl 49 _ K3.out.var info25 rfl (by simp [Value.oneCell']) ?_
            have NX := hid (K3.out.set LN3.out)
            have B4 := hid (below_row B3.out B3.out.size HKX.out #[.int .u8 6, .int .i64 0, .string ⟨#[]⟩, .slice (some ⟨v2.heap.size, 0, none⟩) 2 2])
            refine hK.out _ _ (by exact ⟨HZ1.out _ B4.out, HZ2.out _ B4.out⟩) (fun hHeld4 => ?_)
            clear hK K
            refine wpAnyH_done (by kernel_rfl) ?_ _
            generalize (v2.alloc (.cells #[.int .u8 (x.op : Int), .int .i64 x.n, .string x.name, .slice xa xn xc, .int .u8 3, .int .i64 0, .string (wordB m), .slice none 0 0] 49)).setRow kx #[.int .u8 6, .int .i64 0, .string ⟨#[]⟩, .slice (some ⟨v2.heap.size, 0, none⟩) 2 2] = V9 at *
            go_wp2_with (fail)
            go_roundw
            case rel => exact ⟨k + 1, by omega, by go_num, hid (by rw [HXT.out]; exact ⟨_, _, _, NX.out⟩)⟩
            case measure => simp [intOf]; omega
          · go_simp
            refine (word m HM.out _).mono ?_
            rintro e v1 ⟨rfl, hb1⟩
            have K1 := hid (K0.out.keep hb1)
            have B1 := hid (bstep B0.out hb1)
            go_wp2_with fail
            refine hK.out _ _ (by exact ⟨HZ1.out _ B1.out, HZ2.out _ B1.out⟩) (fun hHeld1 => ?_)
            clear hK K
            (try simp only [Act.put, List.setIfInBounds_toArray, List.set_cons_zero, List.set_cons_succ])
            clear hb1
            refine wpAnyH_take (i := 9) (oi := { dst := some 36, op := Go.Op.build 49 #[(0, Go.Operand.const (Go.Value.int Go.IntKind.u8 3)), (2, Go.Operand.tmp 35)], type := 49, pos := _, after := #[{ on := 8, ground := Go.Ground.data }], guard := none }) (v := ?_) rfl (by kernel_rfl) (by kernel_rfl) (by kernel_rfl) (fun _ _ _ h => h) (Or.inl ⟨by rfl, ?_⟩) (by assumption) ?_
            rotate_left
            · intro w hSw; (try dsimp only at hSw); go_simp <;> with_reducible rfl
            simp only [Act.put, List.setIfInBounds_toArray, List.set_cons_zero, List.set_cons_succ]
            refine wpAnyH_ready (rs := [0]) (by kernel_rfl) (by simp) ?_
            refine AllReadyH.cons (o := { dst := some 27, op := Go.Op.load 49 (Go.Operand.tmp 7), type := 49, pos := _, after := #[], guard := none }) rfl (fun K hK => ?_) AllReadyH.nil
            obtain ⟨q0, q1, q2, q3⟩ := K1.out.cells
            go_simp
            go_wp2_with fail
            refine hK.out _ _ (by exact ⟨HZ1.out _ B1.out, HZ2.out _ B1.out⟩) (fun hHeld2 => ?_)
            clear hK K
            (try simp only [Act.put, List.setIfInBounds_toArray, List.set_cons_zero, List.set_cons_succ])
            clear q0 q1 q2 q3
            refine wpAnyH_ready (rs := [10]) (by kernel_rfl) (by simp) ?_
            refine AllReadyH.cons (o := { dst := some 37, op := Go.Op.buildSlice 47 2 #[(0, Go.Operand.tmp 27), (1, Go.Operand.tmp 36)], type := 47, pos := _, after := #[{ on := 0, ground := Go.Ground.data }, { on := 9, ground := Go.Ground.data }], guard := none }) rfl (fun K hK => ?_) AllReadyH.nil
            go_simp
            go_wp2_with fail
            have LN3 := hid (K1.out.sx.two (sx_nm _ _ m) 6 (by decide) K1.out.ne)
            have K3 := hid (K1.out.keep ((Below.refl _ _).alloc (Nat.le_refl _) (.cells #[.int .u8 (x.op : Int), .int .i64 x.n, .string x.name, .slice xa xn xc, .int .u8 3, .int .i64 0, .string (wordB m), .slice none 0 0] 49)))
            have B3 := hid (bstep B1.out ((Below.refl _ _).alloc (Nat.le_refl _) (.cells #[.int .u8 (x.op : Int), .int .i64 x.n, .string x.name, .slice xa xn xc, .int .u8 3, .int .i64 0, .string (wordB m), .slice none 0 0] 49)))
            refine hK.out _ _ (by exact ⟨HZ1.out _ B3.out, HZ2.out _ B3.out⟩) (fun hHeld3 => ?_)
            clear hK K
            (try simp only [Act.put, List.setIfInBounds_toArray, List.set_cons_zero, List.set_cons_succ])
            refine wpAnyH_take (i := 11) (oi := { dst := some 38, op := Go.Op.build 49 #[(0, Go.Operand.const (Go.Value.int Go.IntKind.u8 6)), (3, Go.Operand.tmp 37)], type := 49, pos := _, after := #[{ on := 10, ground := Go.Ground.data }], guard := none }) (v := ?_) rfl (by kernel_rfl) (by kernel_rfl) (by kernel_rfl) (fun _ _ _ h => h) (Or.inl ⟨by rfl, ?_⟩) (by assumption) ?_
            rotate_left
            · intro w hSw; (try dsimp only at hSw); go_simp <;> with_reducible rfl
            simp only [Act.put, List.setIfInBounds_toArray, List.set_cons_zero, List.set_cons_succ]
            refine wpAnyH_ready (rs := [12]) (by kernel_rfl) (by simp) ?_
            refine AllReadyH.cons (o := { dst := none, op := Go.Op.store 49 (Go.Operand.tmp 7) (Go.Operand.tmp 38), type := 0, pos := _, after := #[{ on := 11, ground := Go.Ground.data }, { on := 8, ground := Go.Ground.chain }, { on := 0, ground := Go.Ground.phase }, { on := 1, ground := Go.Ground.phase }, { on := 2, ground := Go.Ground.phase }, { on := 3, ground := Go.Ground.phase }, { on := 4, ground := Go.Ground.phase }, { on := 5, ground := Go.Ground.phase }, { on := 6, ground := Go.Ground.phase }, { on := 7, ground := Go.Ground.phase }, { on := 8, ground := Go.Ground.phase }, { on := 9, ground := Go.Ground.phase }, { on := 10, ground := Go.Ground.phase }, { on := 11, ground := Go.Ground.phase }], guard := none }) rfl (fun K hK => ?_) AllReadyH.nil
            refine if_take (by rfl) ?_
            refine wp_store_row 49 _ _ rfl kx #[.int .u8 6, .int .i64 0, .string ⟨#[]⟩, .slice (some ⟨v1.heap.size, 0, none⟩) 2 2] rfl rfl 49 _ K3.out.var info25 rfl (by simp [Value.oneCell']) ?_
            have NX := hid (K3.out.set LN3.out)
            have B4 := hid (below_row B3.out B3.out.size HKX.out #[.int .u8 6, .int .i64 0, .string ⟨#[]⟩, .slice (some ⟨v1.heap.size, 0, none⟩) 2 2])
            refine hK.out _ _ (by exact ⟨HZ1.out _ B4.out, HZ2.out _ B4.out⟩) (fun hHeld4 => ?_)
            clear hK K
            refine wpAnyH_done (by kernel_rfl) ?_ _
            generalize (v1.alloc (.cells #[.int .u8 (x.op : Int), .int .i64 x.n, .string x.name, .slice xa xn xc, .int .u8 3, .int .i64 0, .string (wordB m), .slice none 0 0] 49)).setRow kx #[.int .u8 6, .int .i64 0, .string ⟨#[]⟩, .slice (some ⟨v1.heap.size, 0, none⟩) 2 2] = V9 at *
            go_wp2_with (fail)
            go_roundw
            case rel => exact ⟨k + 1, by omega, by go_num, hid (by rw [HXT.out]; exact ⟨_, _, _, NX.out⟩)⟩
            case measure => simp [intOf]; omega
        · have hkt' : ¬ (k : Int) < (l0.length : Int) := by omega
          obtain rfl : k = l0.length := by omega
          have X1 : Hid (OX W0 kx (addN exNum l0) xa xn xc wr) := hid (by have := XK.out; rwa [List.take_length] at this)
          clear XK hkt
          have HLA : Hid (∃ l1 : List Nat, ago.getD i [] = l1 ∧ l1.length ≤ 1000 ∧ ∀ k ∈ l1, k < 676) := hid (by
            refine ⟨_, rfl, ?_⟩
            rw [List.getD_eq_getElem?_getD]
            cases e : ago[i]? with
            | none => simp
            | some l => exact HKA.out l (List.mem_of_getElem? e))
          obtain ⟨l1, h1, hl1⟩ := HLA.out
          have HG1 := hid h1
          have HL1 := hid hl1
          clear h1 hl1 HLA
          go_wp2_with (fail)
          clear z1
          have BW2 := hid BW.out
          clear BW
          generalize wr = W3 at *
          go_loopw [9] (fun kk wr => ∃ k : Nat, k ≤ l1.length ∧ kk = .int .i64 (k : Int) ∧ Hid (∃ xa xn xc, OX W0 kx (addP (addN exNum l0) (l1.take k)) xa xn xc wr)) (fun kk _ => l1.length - (intOf kk).toNat)
          case atStart => exact ⟨0, Nat.zero_le _, rfl, hid ⟨_, _, _, X1.out⟩⟩
          case round =>
            obtain ⟨k, hkl, rfl, HX⟩ := hrel
            clear X1
            obtain ⟨xa, xn, xc, hx⟩ := HX.out
            have XK := hid hx
            clear hx HX
            have BW := hid (HWR.out.trans (XK.out.below.mono HWR.out.size))
            by_cases hkt : k < l1.length
            · have hkt' : (k : Int) < (l1.length : Int) := by omega
              have hk0 : (0 : Int) ≤ (k : Int) := by omega
              have hk1000 : k < 1000 := by have := HL1.out.1; omega
              have hia : i < ago.length := by
                rcases Nat.lt_or_ge i ago.length with h | h
                · exact h
                · have := HG1.out
                  rw [List.getD_eq_getElem?_getD, List.getElem?_eq_none h] at this
                  rw [← this] at hkt
                  simp at hkt
              have hia' : (i : Int) < (ago.length : Int) := by omega
              obtain ⟨g', o', rfl, hcc⟩ := HAR.out.resolve_left (by omega)
              obtain ⟨u1, hu, hia2⟩ := hcc i hia
              have e1 : ago[i] = l1 := by
                have := HG1.out
                rwa [List.getD_eq_getElem?_getD, List.getElem?_eq_getElem hia] at this
              rw [e1] at hia2
              obtain ⟨sa, sc, rfl, hsc⟩ := hia2
              rw [List.length_map] at hu
              obtain ⟨g2, o2, rfl, hrc⟩ := hsc.resolve_left (by rw [List.length_map]; omega)
              have h2 := hrc k (by rw [List.length_map]; exact hkt)
              rw [List.getElem_map] at h2
              have HM := hid (HL1.out.2 _ (List.getElem_mem hkt))
              have HXT := hid (addP_take (x := addN exNum l0) hkt)
              generalize l1[k] = m at *
              generalize addP (addN exNum l0) (l1.take k) = x at *
              have HZ1 : Hid (∀ V, Below w.heap.size w V → V.cell? ⟨g', o' + i, none⟩ = some (.slice (some ⟨g2, o2, none⟩) l1.length sc)) := hid (fun V hV => cell_kept hu hV)
              have HZ2 : Hid (∀ V, Below w.heap.size w V → V.cell? ⟨g2, o2 + k, none⟩ = some (.int .i64 (m : Int))) := hid (fun V hV => cell_kept h2 hV)
              have z1 := cell_kept hu BW.out
              have z2 := cell_kept h2 BW.out
              clear h2 hrc hsc hu hcc e1
              have BR := BW
              have B0 := hid (BW.out.drew)
              have K0 := hid (XK.out.keep (Below.refl _ _).drew)
              have HKX : Hid (w.heap.size ≤ kx) := hid (by have h1 := XK.out.lt; have h2 := HWR.out.size; omega)
              clear BW
              go_wp2_with (fail)
              clear z1 z2
              refine wp_region_held_drew (S := fun W => W.cell? ⟨g', o' + i, none⟩ = some (.slice (some ⟨g2, o2, none⟩) l1.length sc) ∧ W.cell? ⟨g2, o2 + k, none⟩ = some (.int .i64 (m : Int))) (by kernel_rfl) ?_ (fun hHeld => ?_)
              · exact ⟨HZ1.out _ B0.out, HZ2.out _ B0.out⟩
              refine wpAnyH_take (i := 1) (oi := { dst := some 55, op := Go.Op.move (Go.Operand.tmp 1), type := 34, pos := _, after := #[], guard := none }) (v := ?_) rfl (by kernel_rfl) (by kernel_rfl) (by kernel_rfl) (fun _ _ _ h => h) (Or.inl ⟨by rfl, ?_⟩) (by assumption) ?_
              rotate_left
              · intro w hSw; (try dsimp only at hSw); go_simp <;> with_reducible rfl
              simp only [Act.put, List.setIfInBounds_toArray, List.set_cons_zero, List.set_cons_succ]
              refine wpAnyH_take (i := 2) (oi := { dst := some 56, op := Go.Op.move (Go.Operand.tmp 6), type := 3, pos := _, after := #[], guard := none }) (v := ?_) rfl (by kernel_rfl) (by kernel_rfl) (by kernel_rfl) (fun _ _ _ h => h) (Or.inl ⟨by rfl, ?_⟩) (by assumption) ?_
              rotate_left
              · intro w hSw; (try dsimp only at hSw); go_simp <;> with_reducible rfl
              simp only [Act.put, List.setIfInBounds_toArray, List.set_cons_zero, List.set_cons_succ]
              refine wpAnyH_take (i := 3) (oi := { dst := some 57, op := Go.Op.indexAddr 34 (Go.Operand.tmp 55) (Go.Operand.tmp 56), type := 0, pos := _, after := #[{ on := 1, ground := Go.Ground.data }, { on := 2, ground := Go.Ground.data }], guard := none }) (v := ?_) rfl (by kernel_rfl) (by kernel_rfl) (by kernel_rfl) (fun _ _ _ h => h) (Or.inl ⟨by rfl, ?_⟩) (by assumption) ?_
              rotate_left
              · intro w hSw; (try dsimp only at hSw); go_simp <;> with_reducible rfl
              simp only [Act.put, List.setIfInBounds_toArray, List.set_cons_zero, List.set_cons_succ]
              refine wpAnyH_take (i := 4) (oi := { dst := some 58, op := Go.Op.load 35 (Go.Operand.tmp 57), type := 35, pos := _, after := #[{ on := 3, ground := Go.Ground.data }], guard := none }) (v := ?_) rfl (by kernel_rfl) (by kernel_rfl) (by kernel_rfl) (fun _ _ _ h => h) (Or.inl ⟨by rfl, ?_⟩) (by assumption) ?_
              rotate_left
              · intro w hSw; (try dsimp only at hSw); go_simp <;> with_reducible rfl
              simp only [Act.put, List.setIfInBounds_toArray, List.set_cons_zero, List.set_cons_succ]
              refine wpAnyH_take (i := 5) (oi := { dst := some 59, op := Go.Op.move (Go.Operand.tmp 9), type := 3, pos := _, after := #[], guard := none }) (v := ?_) rfl (by kernel_rfl) (by kernel_rfl) (by kernel_rfl) (fun _ _ _ h => h) (Or.inl ⟨by rfl, ?_⟩) (by assumption) ?_
              rotate_left
              · intro w hSw; (try dsimp only at hSw); go_simp <;> with_reducible rfl
              simp only [Act.put, List.setIfInBounds_toArray, List.set_cons_zero, List.set_cons_succ]
              refine wpAnyH_take (i := 6) (oi := { dst := some 60, op := Go.Op.indexAddr 35 (Go.Operand.tmp 58) (Go.Operand.tmp 59), type := 0, pos := _, after := #[{ on := 4, ground := Go.Ground.data }, { on := 5, ground := Go.Ground.data }], guard := none }) (v := ?_) rfl (by kernel_rfl) (by kernel_rfl) (by kernel_rfl) (fun _ _ _ h => h) (Or.inl ⟨by rfl, ?_⟩) (by assumption) ?_
              rotate_left
              · intro w hSw; (try dsimp only at hSw); go_simp <;> with_reducible rfl
              simp only [Act.put, List.setIfInBounds_toArray, List.set_cons_zero, List.set_cons_succ]
              refine wpAnyH_take (i := 7) (oi := { dst := some 61, op := Go.Op.load 3 (Go.Operand.tmp 60), type := 3, pos := _, after := #[{ on := 6, ground := Go.Ground.data }], guard := none }) (v := ?_) rfl (by kernel_rfl) (by kernel_rfl) (by kernel_rfl) (fun _ _ _ h => h) (Or.inl ⟨by rfl, ?_⟩) (by assumption) ?_
              rotate_left
              · intro w hSw; (try dsimp only at hSw); go_simp <;> with_reducible rfl
              simp only [Act.put, List.setIfInBounds_toArray, List.set_cons_zero, List.set_cons_succ]
              refine wpAnyH_ready (rs := [0, 8]) (by kernel_rfl) (by simp) ?_
              refine AllReadyH.cons (o := { dst := some 54, op := Go.Op.load 49 (Go.Operand.tmp 7), type := 49, pos := _, after := #[], guard := none }) rfl (fun K hK => ?_) (AllReadyH.cons (o := { dst := some 62, op := Go.Op.call { callee := Go.Callee.value (Go.Operand.func 16), args := #[Go.Operand.tmp 61], argTypes := #[3] }, type := 9, pos := _, after := #[{ on := 7, ground := Go.Ground.data }], guard := none }) rfl (fun K hK => ?_) AllReadyH.nil)
              · obtain ⟨q0, q1, q2, q3⟩ := K0.out.cells
                go_simp
                go_wp2_with fail
                refine hK.out _ _ (by exact ⟨HZ1.out _ B0.out, HZ2.out _ B0.out⟩) (fun hHeld1 => ?_)
                clear hK K
                (try simp only [Act.put, List.setIfInBounds_toArray, List.set_cons_zero, List.set_cons_succ])
                clear q0 q1 q2 q3
                refine wpAnyH_ready (rs := [8]) (by kernel_rfl) (by simp) ?_
                refine AllReadyH.cons (o := { dst := some 62, op := Go.Op.call { callee := Go.Callee.value (Go.Operand.func 16), args := #[Go.Operand.tmp 61], argTypes := #[3] }, type := 9, pos := _, after := #[{ on := 7, ground := Go.Ground.data }], guard := none }) rfl (fun K hK => ?_) AllReadyH.nil
                go_simp
                refine (word m HM.out _).mono ?_
                rintro e v2 ⟨rfl, hb2⟩
                have K2 := hid (K0.out.keep hb2)
                have B2 := hid (bstep B0.out hb2)
                go_wp2_with fail
                refine hK.out _ _ (by exact ⟨HZ1.out _ B2.out, HZ2.out _ B2.out⟩) (fun hHeld2 => ?_)
                clear hK K
                (try simp only [Act.put, List.setIfInBounds_toArray, List.set_cons_zero, List.set_cons_succ])
                clear hb2
                refine wpAnyH_take (i := 9) (oi := { dst := some 63, op := Go.Op.build 49 #[(0, Go.Operand.const (Go.Value.int Go.IntKind.u8 3)), (2, Go.Operand.tmp 62)], type := 49, pos := _, after := #[{ on := 8, ground := Go.Ground.data }], guard := none }) (v := ?_) rfl (by kernel_rfl) (by kernel_rfl) (by kernel_rfl) (fun _ _ _ h => h) (Or.inl ⟨by rfl, ?_⟩) (by assumption) ?_
                rotate_left
                · intro w hSw; (try dsimp only at hSw); go_simp <;> with_reducible rfl
                simp only [Act.put, List.setIfInBounds_toArray, List.set_cons_zero, List.set_cons_succ]
                refine wpAnyH_ready (rs := [10]) (by kernel_rfl) (by simp) ?_
                refine AllReadyH.cons (o := { dst := some 64, op := Go.Op.buildSlice 47 1 #[(0, Go.Operand.tmp 63)], type := 47, pos := _, after := #[{ on := 9, ground := Go.Ground.data }], guard := none }) rfl (fun K hK => ?_) AllReadyH.nil
                go_simp
                go_wp2_with fail
                have LN3 := hid ((sx_nm (fun b => b = kx) v2 m).one 19 (by decide) K2.out.ne)
                have K3 := hid (K2.out.keep ((Below.refl _ _).alloc (Nat.le_refl _) (.cells #[.int .u8 3, .int .i64 0, .string (wordB m), .slice none 0 0] 49)))
                have B3 := hid (bstep B2.out ((Below.refl _ _).alloc (Nat.le_refl _) (.cells #[.int .u8 3, .int .i64 0, .string (wordB m), .slice none 0 0] 49)))
                refine hK.out _ _ (by exact ⟨HZ1.out _ B3.out, HZ2.out _ B3.out⟩) (fun hHeld3 => ?_)
                clear hK K
                (try simp only [Act.put, List.setIfInBounds_toArray, List.set_cons_zero, List.set_cons_succ])
                refine wpAnyH_take (i := 11) (oi := { dst := some 65, op := Go.Op.build 49 #[(0, Go.Operand.const (Go.Value.int Go.IntKind.u8 19)), (3, Go.Operand.tmp 64)], type := 49, pos := _, after := #[{ on := 10, ground := Go.Ground.data }], guard := none }) (v := ?_) rfl (by kernel_rfl) (by kernel_rfl) (by kernel_rfl) (fun _ _ _ h => h) (Or.inl ⟨by rfl, ?_⟩) (by assumption) ?_
                rotate_left
                · intro w hSw; (try dsimp only at hSw); go_simp <;> with_reducible rfl
                simp only [Act.put, List.setIfInBounds_toArray, List.set_cons_zero, List.set_cons_succ]
                refine wpAnyH_ready (rs := [12]) (by kernel_rfl) (by simp) ?_
                refine AllReadyH.cons (o := { dst := some 66, op := Go.Op.buildSlice 47 2 #[(0, Go.Operand.tmp 54), (1, Go.Operand.tmp 65)], type := 47, pos := _, after := #[{ on := 0, ground := Go.Ground.data }, { on := 11, ground := Go.Ground.data }], guard := none }) rfl (fun K hK => ?_) AllReadyH.nil
                go_simp
                go_wp2_with fail
                have LN4 := hid (K3.out.sx.two (y := exPre (exNm m)) LN3.out 6 (by decide) K3.out.ne)
                have K4 := hid (K3.out.keep ((Below.refl _ _).alloc (Nat.le_refl _) (.cells #[.int .u8 (x.op : Int), .int .i64 x.n, .string x.name, .slice xa xn xc, .int .u8 19, .int .i64 0, .string ⟨#[]⟩, .slice (some ⟨v2.heap.size, 0, none⟩) 1 1] 49)))
                have B4 := hid (bstep B3.out ((Below.refl _ _).alloc (Nat.le_refl _) (.cells #[.int .u8 (x.op : Int), .int .i64 x.n, .string x.name, .slice xa xn xc, .int .u8 19, .int .i64 0, .string ⟨#[]⟩, .slice (some ⟨v2.heap.size, 0, none⟩) 1 1] 49)))
                simp only [World.size_alloc] at LN4
                refine hK.out _ _ (by exact ⟨HZ1.out _ B4.out, HZ2.out _ B4.out⟩) (fun hHeld4 => ?_)
                clear hK K
                (try simp only [Act.put, List.setIfInBounds_toArray, List.set_cons_zero, List.set_cons_succ])
                refine wpAnyH_take (i := 13) (oi := { dst := some 67, op := Go.Op.build 49 #[(0, Go.Operand.const (Go.Value.int Go.IntKind.u8 6)), (3, Go.Operand.tmp 66)], type := 49, pos := _, after := #[{ on := 12, ground := Go.Ground.data }], guard := none }) (v := ?_) rfl (by kernel_rfl) (by kernel_rfl) (by kernel_rfl) (fun _ _ _ h => h) (Or.inl ⟨by rfl, ?_⟩) (by assumption) ?_
                rotate_left
                · intro w hSw; (try dsimp only at hSw); go_simp <;> with_reducible rfl
                simp only [Act.put, List.setIfInBounds_toArray, List.set_cons_zero, List.set_cons_succ]
                refine wpAnyH_ready (rs := [14]) (by kernel_rfl) (by simp) ?_
                refine AllReadyH.cons (o := { dst := none, op := Go.Op.store 49 (Go.Operand.tmp 7) (Go.Operand.tmp 67), type := 0, pos := _, after := #[{ on := 13, ground := Go.Ground.data }, { on := 8, ground := Go.Ground.chain }, { on := 0, ground := Go.Ground.phase }, { on := 1, ground := Go.Ground.phase }, { on := 2, ground := Go.Ground.phase }, { on := 3, ground := Go.Ground.phase }, { on := 4, ground := Go.Ground.phase }, { on := 5, ground := Go.Ground.phase }, { on := 6, ground := Go.Ground.phase }, { on := 7, ground := Go.Ground.phase }, { on := 8, ground := Go.Ground.phase }, { on := 9, ground := Go.Ground.phase }, { on := 10, ground := Go.Ground.phase }, { on := 11, ground := Go.Ground.phase }, { on := 12, ground := Go.Ground.phase }, { on := 13, ground := Go.Ground.phase }], guard := none }) rfl (fun K hK => ?_) AllReadyH.nil
                refine if_take (by rfl) ?_
                refine wp_store_row 49 _ _ rfl kx #[.int .u8 6, .int .i64 0, .string ⟨#[]⟩, .slice (some ⟨v2.heap.size + 1, 0, none⟩) 2 2] rfl rfl 49 _ K4.out.var info25 rfl (by simp [Value.oneCell']) ?_
                have NX := hid (K4.out.set LN4.out)
                have B5 := hid (below_row B4.out B4.out.size HKX.out #[.int .u8 6, .int .i64 0, .string ⟨#[]⟩, .slice (some ⟨v2.heap.size + 1, 0, none⟩) 2 2])
                refine hK.out _ _ (by exact ⟨HZ1.out _ B5.out, HZ2.out _ B5.out⟩) (fun hHeld5 => ?_)
                clear hK K
                refine wpAnyH_done (by kernel_rfl) ?_ _
                generalize ((v2.alloc (.cells #[.int .u8 3, .int .i64 0, .string (wordB m), .slice none 0 0] 49)).alloc (.cells #[.int .u8 (x.op : Int), .int .i64 x.n, .string x.name, .slice xa xn xc, .int .u8 19, .int .i64 0, .string ⟨#[]⟩, .slice (some ⟨v2.heap.size, 0, none⟩) 1 1] 49)).setRow kx #[.int .u8 6, .int .i64 0, .string ⟨#[]⟩, .slice (some ⟨v2.heap.size + 1, 0, none⟩) 2 2] = V9 at *
                go_wp2_with (fail)
                go_roundw
                case rel => exact ⟨k + 1, by omega, by go_num, hid (by rw [HXT.out]; exact ⟨_, _, _, NX.out⟩)⟩
                case measure => simp [intOf]; omega
              · go_simp
                refine (word m HM.out _).mono ?_
                rintro e v1 ⟨rfl, hb1⟩
                have K1 := hid (K0.out.keep hb1)
                have B1 := hid (bstep B0.out hb1)
                go_wp2_with fail
                refine hK.out _ _ (by exact ⟨HZ1.out _ B1.out, HZ2.out _ B1.out⟩) (fun hHeld1 => ?_)
                clear hK K
                (try simp only [Act.put, List.setIfInBounds_toArray, List.set_cons_zero, List.set_cons_succ])
                clear hb1
                refine wpAnyH_take (i := 9) (oi := { dst := some 63, op := Go.Op.build 49 #[(0, Go.Operand.const (Go.Value.int Go.IntKind.u8 3)), (2, Go.Operand.tmp 62)], type := 49, pos := _, after := #[{ on := 8, ground := Go.Ground.data }], guard := none }) (v := ?_) rfl (by kernel_rfl) (by kernel_rfl) (by kernel_rfl) (fun _ _ _ h => h) (Or.inl ⟨by rfl, ?_⟩) (by assumption) ?_
                rotate_left
                · intro w hSw; (try dsimp only at hSw); go_simp <;> with_reducible rfl
                simp only [Act.put, List.setIfInBounds_toArray, List.set_cons_zero, List.set_cons_succ]
                refine wpAnyH_ready (rs := [0, 10]) (by kernel_rfl) (by simp) ?_
                refine AllReadyH.cons (o := { dst := some 54, op := Go.Op.load 49 (Go.Operand.tmp 7), type := 49, pos := _, after := #[], guard := none }) rfl (fun K hK => ?_) (AllReadyH.cons (o := { dst := some 64, op := Go.Op.buildSlice 47 1 #[(0, Go.Operand.tmp 63)], type := 47, pos := _, after := #[{ on := 9, ground := Go.Ground.data }], guard := none }) rfl (fun K hK => ?_) AllReadyH.nil)
                · obtain ⟨q0, q1, q2, q3⟩ := K1.out.cells
                  go_simp
                  go_wp2_with fail
                  refine hK.out _ _ (by exact ⟨HZ1.out _ B1.out, HZ2.out _ B1.out⟩) (fun hHeld2 => ?_)
                  clear hK K
                  (try simp only [Act.put, List.setIfInBounds_toArray, List.set_cons_zero, List.set_cons_succ])
                  clear q0 q1 q2 q3
                  refine wpAnyH_ready (rs := [10]) (by kernel_rfl) (by simp) ?_
                  refine AllReadyH.cons (o := { dst := some 64, op := Go.Op.buildSlice 47 1 #[(0, Go.Operand.tmp 63)], type := 47, pos := _, after := #[{ on := 9, ground := Go.Ground.data }], guard := none }) rfl (fun K hK => ?_) AllReadyH.nil
                  go_simp
                  go_wp2_with fail
                  have LN3 := hid ((sx_nm (fun b => b = kx) v1 m).one 19 (by decide) K1.out.ne)
                  have K3 := hid (K1.out.keep ((Below.refl _ _).alloc (Nat.le_refl _) (.cells #[.int .u8 3, .int .i64 0, .string (wordB m), .slice none 0 0] 49)))
                  have B3 := hid (bstep B1.out ((Below.refl _ _).alloc (Nat.le_refl _) (.cells #[.int .u8 3, .int .i64 0, .string (wordB m), .slice none 0 0] 49)))
                  refine hK.out _ _ (by exact ⟨HZ1.out _ B3.out, HZ2.out _ B3.out⟩) (fun hHeld3 => ?_)
                  clear hK K
                  (try simp only [Act.put, List.setIfInBounds_toArray, List.set_cons_zero, List.set_cons_succ])
                  refine wpAnyH_take (i := 11) (oi := { dst := some 65, op := Go.Op.build 49 #[(0, Go.Operand.const (Go.Value.int Go.IntKind.u8 19)), (3, Go.Operand.tmp 64)], type := 49, pos := _, after := #[{ on := 10, ground := Go.Ground.data }], guard := none }) (v := ?_) rfl (by kernel_rfl) (by kernel_rfl) (by kernel_rfl) (fun _ _ _ h => h) (Or.inl ⟨by rfl, ?_⟩) (by assumption) ?_
                  rotate_left
                  · intro w hSw; (try dsimp only at hSw); go_simp <;> with_reducible rfl
                  simp only [Act.put, List.setIfInBounds_toArray, List.set_cons_zero, List.set_cons_succ]
                  refine wpAnyH_ready (rs := [12]) (by kernel_rfl) (by simp) ?_
                  refine AllReadyH.cons (o := { dst := some 66, op := Go.Op.buildSlice 47 2 #[(0, Go.Operand.tmp 54), (1, Go.Operand.tmp 65)], type := 47, pos := _, after := #[{ on := 0, ground := Go.Ground.data }, { on := 11, ground := Go.Ground.data }], guard := none }) rfl (fun K hK => ?_) AllReadyH.nil
                  go_simp
                  go_wp2_with fail
                  have LN4 := hid (K3.out.sx.two (y := exPre (exNm m)) LN3.out 6 (by decide) K3.out.ne)
                  have K4 := hid (K3.out.keep ((Below.refl _ _).alloc (Nat.le_refl _) (.cells #[.int .u8 (x.op : Int), .int .i64 x.n, .string x.name, .slice xa xn xc, .int .u8 19, .int .i64 0, .string ⟨#[]⟩, .slice (some ⟨v1.heap.size, 0, none⟩) 1 1] 49)))
                  have B4 := hid (bstep B3.out ((Below.refl _ _).alloc (Nat.le_refl _) (.cells #[.int .u8 (x.op : Int), .int .i64 x.n, .string x.name, .slice xa xn xc, .int .u8 19, .int .i64 0, .string ⟨#[]⟩, .slice (some ⟨v1.heap.size, 0, none⟩) 1 1] 49)))
                  simp only [World.size_alloc] at LN4
                  refine hK.out _ _ (by exact ⟨HZ1.out _ B4.out, HZ2.out _ B4.out⟩) (fun hHeld4 => ?_)
                  clear hK K
                  (try simp only [Act.put, List.setIfInBounds_toArray, List.set_cons_zero, List.set_cons_succ])
                  refine wpAnyH_take (i := 13) (oi := { dst := some 67, op := Go.Op.build 49 #[(0, Go.Operand.const (Go.Value.int Go.IntKind.u8 6)), (3, Go.Operand.tmp 66)], type := 49, pos := _, after := #[{ on := 12, ground := Go.Ground.data }], guard := none }) (v := ?_) rfl (by kernel_rfl) (by kernel_rfl) (by kernel_rfl) (fun _ _ _ h => h) (Or.inl ⟨by rfl, ?_⟩) (by assumption) ?_
                  rotate_left
                  · intro w hSw; (try dsimp only at hSw); go_simp <;> with_reducible rfl
                  simp only [Act.put, List.setIfInBounds_toArray, List.set_cons_zero, List.set_cons_succ]
                  refine wpAnyH_ready (rs := [14]) (by kernel_rfl) (by simp) ?_
                  refine AllReadyH.cons (o := { dst := none, op := Go.Op.store 49 (Go.Operand.tmp 7) (Go.Operand.tmp 67), type := 0, pos := _, after := #[{ on := 13, ground := Go.Ground.data }, { on := 8, ground := Go.Ground.chain }, { on := 0, ground := Go.Ground.phase }, { on := 1, ground := Go.Ground.phase }, { on := 2, ground := Go.Ground.phase }, { on := 3, ground := Go.Ground.phase }, { on := 4, ground := Go.Ground.phase }, { on := 5, ground := Go.Ground.phase }, { on := 6, ground := Go.Ground.phase }, { on := 7, ground := Go.Ground.phase }, { on := 8, ground := Go.Ground.phase }, { on := 9, ground := Go.Ground.phase }, { on := 10, ground := Go.Ground.phase }, { on := 11, ground := Go.Ground.phase }, { on := 12, ground := Go.Ground.phase }, { on := 13, ground := Go.Ground.phase }], guard := none }) rfl (fun K hK => ?_) AllReadyH.nil
                  refine if_take (by rfl) ?_
                  refine wp_store_row 49 _ _ rfl kx #[.int .u8 6, .int .i64 0, .string ⟨#[]⟩, .slice (some ⟨v1.heap.size + 1, 0, none⟩) 2 2] rfl rfl 49 _ K4.out.var info25 rfl (by simp [Value.oneCell']) ?_
                  have NX := hid (K4.out.set LN4.out)
                  have B5 := hid (below_row B4.out B4.out.size HKX.out #[.int .u8 6, .int .i64 0, .string ⟨#[]⟩, .slice (some ⟨v1.heap.size + 1, 0, none⟩) 2 2])
                  refine hK.out _ _ (by exact ⟨HZ1.out _ B5.out, HZ2.out _ B5.out⟩) (fun hHeld5 => ?_)
                  clear hK K
                  refine wpAnyH_done (by kernel_rfl) ?_ _
                  generalize ((v1.alloc (.cells #[.int .u8 3, .int .i64 0, .string (wordB m), .slice none 0 0] 49)).alloc (.cells #[.int .u8 (x.op : Int), .int .i64 x.n, .string x.name, .slice xa xn xc, .int .u8 19, .int .i64 0, .string ⟨#[]⟩, .slice (some ⟨v1.heap.size, 0, none⟩) 1 1] 49)).setRow kx #[.int .u8 6, .int .i64 0, .string ⟨#[]⟩, .slice (some ⟨v1.heap.size + 1, 0, none⟩) 2 2] = V9 at *
                  go_wp2_with (fail)
                  go_roundw
                  case rel => exact ⟨k + 1, by omega, by go_num, hid (by rw [HXT.out]; exact ⟨_, _, _, NX.out⟩)⟩
                  case measure => simp [intOf]; omega
                · go_simp
                  go_wp2_with fail
                  have LN2 := hid ((sx_nm (fun b => b = kx) v1 m).one 19 (by decide) K1.out.ne)
                  have K2 := hid (K1.out.keep ((Below.refl _ _).alloc (Nat.le_refl _) (.cells #[.int .u8 3, .int .i64 0, .string (wordB m), .slice none 0 0] 49)))
                  have B2 := hid (bstep B1.out ((Below.refl _ _).alloc (Nat.le_refl _) (.cells #[.int .u8 3, .int .i64 0, .string (wordB m), .slice none 0 0] 49)))
                  refine hK.out _ _ (by exact ⟨HZ1.out _ B2.out, HZ2.out _ B2.out⟩) (fun hHeld2 => ?_)
                  clear hK K
                  (try simp only [Act.put, List.setIfInBounds_toArray, List.set_cons_zero, List.set_cons_succ])
                  refine wpAnyH_take (i := 11) (oi := { dst := some 65, op := Go.Op.build 49 #[(0, Go.Operand.const (Go.Value.int Go.IntKind.u8 19)), (3, Go.Operand.tmp 64)], type := 49, pos := _, after := #[{ on := 10, ground := Go.Ground.data }], guard := none }) (v := ?_) rfl (by kernel_rfl) (by kernel_rfl) (by kernel_rfl) (fun _ _ _ h => h) (Or.inl ⟨by rfl, ?_⟩) (by assumption) ?_
                  rotate_left
                  · intro w hSw; (try dsimp only at hSw); go_simp <;> with_reducible rfl
                  simp only [Act.put, List.setIfInBounds_toArray, List.set_cons_zero, List.set_cons_succ]
                  refine wpAnyH_ready (rs := [0]) (by kernel_rfl) (by simp) ?_
                  refine AllReadyH.cons (o := { dst := some 54, op := Go.Op.load 49 (Go.Operand.tmp 7), type := 49, pos := _, after := #[], guard := none }) rfl (fun K hK => ?_) AllReadyH.nil
                  obtain ⟨q0, q1, q2, q3⟩ := K2.out.cells
                  go_simp
                  go_wp2_with fail
                  refine hK.out _ _ (by exact ⟨HZ1.out _ B2.out, HZ2.out _ B2.out⟩) (fun hHeld3 => ?_)
                  clear hK K
                  (try simp only [Act.put, List.setIfInBounds_toArray, List.set_cons_zero, List.set_cons_succ])
                  clear q0 q1 q2 q3
                  refine wpAnyH_ready (rs := [12]) (by kernel_rfl) (by simp) ?_
                  refine AllReadyH.cons (o := { dst := some 66, op := Go.Op.buildSlice 47 2 #[(0, Go.Operand.tmp 54), (1, Go.Operand.tmp 65)], type := 47, pos := _, after := #[{ on := 0, ground := Go.Ground.data }, { on := 11, ground := Go.Ground.data }], guard := none }) rfl (fun K hK => ?_) AllReadyH.nil
                  go_simp
                  go_wp2_with fail
                  have LN4 := hid (K2.out.sx.two (y := exPre (exNm m)) LN2.out 6 (by decide) K2.out.ne)
                  have K4 := hid (K2.out.keep ((Below.refl _ _).alloc (Nat.le_refl _) (.cells #[.int .u8 (x.op : Int), .int .i64 x.n, .string x.name, .slice xa xn xc, .int .u8 19, .int .i64 0, .string ⟨#[]⟩, .slice (some ⟨v1.heap.size, 0, none⟩) 1 1] 49)))
                  have B4 := hid (bstep B2.out ((Below.refl _ _).alloc (Nat.le_refl _) (.cells #[.int .u8 (x.op : Int), .int .i64 x.n, .string x.name, .slice xa xn xc, .int .u8 19, .int .i64 0, .string ⟨#[]⟩, .slice (some ⟨v1.heap.size, 0, none⟩) 1 1] 49)))
                  simp only [World.size_alloc] at LN4
                  refine hK.out _ _ (by exact ⟨HZ1.out _ B4.out, HZ2.out _ B4.out⟩) (fun hHeld4 => ?_)
                  clear hK K
                  (try simp only [Act.put, List.setIfInBounds_toArray, List.set_cons_zero, List.set_cons_succ])
                  refine wpAnyH_take (i := 13) (oi := { dst := some 67, op := Go.Op.build 49 #[(0, Go.Operand.const (Go.Value.int Go.IntKind.u8 6)), (3, Go.Operand.tmp 66)], type := 49, pos := _, after := #[{ on := 12, ground := Go.Ground.data }], guard := none }) (v := ?_) rfl (by kernel_rfl) (by kernel_rfl) (by kernel_rfl) (fun _ _ _ h => h) (Or.inl ⟨by rfl, ?_⟩) (by assumption) ?_
                  rotate_left
                  · intro w hSw; (try dsimp only at hSw); go_simp <;> with_reducible rfl
                  simp only [Act.put, List.setIfInBounds_toArray, List.set_cons_zero, List.set_cons_succ]
                  refine wpAnyH_ready (rs := [14]) (by kernel_rfl) (by simp) ?_
                  refine AllReadyH.cons (o := { dst := none, op := Go.Op.store 49 (Go.Operand.tmp 7) (Go.Operand.tmp 67), type := 0, pos := _, after := #[{ on := 13, ground := Go.Ground.data }, { on := 8, ground := Go.Ground.chain }, { on := 0, ground := Go.Ground.phase }, { on := 1, ground := Go.Ground.phase }, { on := 2, ground := Go.Ground.phase }, { on := 3, ground := Go.Ground.phase }, { on := 4, ground := Go.Ground.phase }, { on := 5, ground := Go.Ground.phase }, { on := 6, ground := Go.Ground.phase }, { on := 7, ground := Go.Ground.phase }, { on := 8, ground := Go.Ground.phase }, { on := 9, ground := Go.Ground.phase }, { on := 10, ground := Go.Ground.phase }, { on := 11, ground := Go.Ground.phase }, { on := 12, ground := Go.Ground.phase }, { on := 13, ground := Go.Ground.phase }], guard := none }) rfl (fun K hK => ?_) AllReadyH.nil
                  refine if_take (by rfl) ?_
                  refine wp_store_row 49 _ _ rfl kx #[.int .u8 6, .int .i64 0, .string ⟨#[]⟩, .slice (some ⟨v1.heap.size + 1, 0, none⟩) 2 2] rfl rfl 49 _ K4.out.var info25 rfl (by simp [Value.oneCell']) ?_
                  have NX := hid (K4.out.set LN4.out)
                  have B5 := hid (below_row B4.out B4.out.size HKX.out #[.int .u8 6, .int .i64 0, .string ⟨#[]⟩, .slice (some ⟨v1.heap.size + 1, 0, none⟩) 2 2])
                  refine hK.out _ _ (by exact ⟨HZ1.out _ B5.out, HZ2.out _ B5.out⟩) (fun hHeld5 => ?_)
                  clear hK K
                  refine wpAnyH_done (by kernel_rfl) ?_ _
                  generalize ((v1.alloc (.cells #[.int .u8 3, .int .i64 0, .string (wordB m), .slice none 0 0] 49)).alloc (.cells #[.int .u8 (x.op : Int), .int .i64 x.n, .string x.name, .slice xa xn xc, .int .u8 19, .int .i64 0, .string ⟨#[]⟩, .slice (some ⟨v1.heap.size, 0, none⟩) 1 1] 49)).setRow kx #[.int .u8 6, .int .i64 0, .string ⟨#[]⟩, .slice (some ⟨v1.heap.size + 1, 0, none⟩) 2 2] = V9 at *
                  go_wp2_with (fail)
                  go_roundw
                  case rel => exact ⟨k + 1, by omega, by go_num, hid (by rw [HXT.out]; exact ⟨_, _, _, NX.out⟩)⟩
                  case measure => simp [intOf]; omega
            · have hkt' : ¬ (k : Int) < (l1.length : Int) := by omega
              obtain rfl : k = l1.length := by omega
              have HEX : Hid (addP (addN exNum l0) (l1.take l1.length) = (ofF i l0 l1).body) := hid (by rw [List.take_length]; rfl)
              rw [HEX.out] at XK
              have HFB : Hid (ofF i l0 l1 = ⟨wordB i, 1, 1, 0, (ofF i l0 l1).body⟩) := hid rfl
              have HOK : Hid (Fl.ok ⟨wordB i, 1, 1, 0, (ofF i l0 l1).body⟩) := hid ⟨by show (wordB i).size ≤ _; rw [word_size]; omega, by show 1 < 256; omega, ⟨by show (-9223372036854775808 : Int) ≤ 1; omega, by show (1 : Int) ≤ _; omega⟩, ⟨by show (-9223372036854775808 : Int) ≤ 0; omega, by show (0 : Int) ≤ _; omega⟩⟩
              have HI : Hid (i < 676) := hid (by omega)
              have YW := hid (YK.out.keep XK.out.below)
              have K0 := hid (XK.out.keep (Below.refl _ _).drew)
              have Y0 := hid (YW.out.keep (Below.refl _ _).drew)
              have B0 := hid (BW.out.drew)
              have HKP : Hid (kx ≠ w.heap.size + 1) := hid (by have h1 := XK.out.lt; have h2 := YK.out.size; omega)
              have HRW : Hid ((fun i => ofF i (now.getD i []) (ago.getD i [])) i = ofF i l0 l1) := hid (by show ofF i (now.getD i []) (ago.getD i []) = _; rw [HG.out, HG1.out])
              clear HEX BW
              by_cases hia : i < ago.length
              · have hia' : (i : Int) < (ago.length : Int) := by omega
                obtain ⟨g', o', rfl, hcc⟩ := HAR.out.resolve_left (by omega)
                obtain ⟨u1, hu, hia2⟩ := hcc i hia
                have e1 : ago[i] = l1 := by
                  have := HG1.out
                  rwa [List.getD_eq_getElem?_getD, List.getElem?_eq_getElem hia] at this
                rw [e1] at hia2
                obtain ⟨sa, sc, rfl, hsc⟩ := hia2
                rw [List.length_map] at hu
                have z1 := cell_kept hu (HWR.out.trans (XK.out.below.mono HWR.out.size))
                clear hcc hu hsc e1
                go_wp2_with (fail)
                (try clear z1)
                generalize (ofF i l0 l1).body = x at *
                refine wp_region_held_drew (S := fun W => W.cell? ⟨kx, 0, none⟩ = some (.int .u8 (x.op : Int)) ∧ W.cell? ⟨kx, 1, none⟩ = some (.int .i64 x.n) ∧ W.cell? ⟨kx, 2, none⟩ = some (.string x.name) ∧ W.cell? ⟨kx, 3, none⟩ = some (.slice xa xn xc)) (by kernel_rfl) ?_ (fun hHeld => ?_)
                · exact XK.out.cells
                refine wpAnyH_take (i := 0) (oi := { dst := some 68, op := Go.Op.fieldAddr 26 (Go.Operand.tmp 5) 2, type := 0, pos := _, after := #[], guard := none }) (v := ?_) rfl (by kernel_rfl) (by kernel_rfl) (by kernel_rfl) (fun _ _ _ h => h) (Or.inl ⟨by rfl, ?_⟩) (by assumption) ?_
                rotate_left
                · intro w hSw; (try dsimp only at hSw); go_simp <;> with_reducible rfl
                simp only [Act.put, List.setIfInBounds_toArray, List.set_cons_zero, List.set_cons_succ]
                refine wpAnyH_take (i := 2) (oi := { dst := some 70, op := Go.Op.move (Go.Operand.tmp 6), type := 3, pos := _, after := #[], guard := none }) (v := ?_) rfl (by kernel_rfl) (by kernel_rfl) (by kernel_rfl) (fun _ _ _ h => h) (Or.inl ⟨by rfl, ?_⟩) (by assumption) ?_
                rotate_left
                · intro w hSw; (try dsimp only at hSw); go_simp <;> with_reducible rfl
                simp only [Act.put, List.setIfInBounds_toArray, List.set_cons_zero, List.set_cons_succ]
                refine wpAnyH_take (i := 4) (oi := { dst := some 72, op := Go.Op.load 49 (Go.Operand.tmp 7), type := 49, pos := _, after := #[], guard := none }) (v := ?_) rfl (by kernel_rfl) (by kernel_rfl) (by kernel_rfl) (fun _ _ _ h => h) (Or.inl ⟨by rfl, ?_⟩) (by assumption) ?_
                rotate_left
                · intro w hSw; (try dsimp only at hSw); go_simp <;> with_reducible rfl
                simp only [Act.put, List.setIfInBounds_toArray, List.set_cons_zero, List.set_cons_succ]
                refine wpAnyH_ready (rs := [1, 3]) (by kernel_rfl) (by simp) ?_
                refine AllReadyH.cons (o := { dst := some 69, op := Go.Op.load 23 (Go.Operand.tmp 68), type := 23, pos := _, after := #[{ on := 0, ground := Go.Ground.data }], guard := none }) rfl (fun K hK => ?_) (AllReadyH.cons (o := { dst := some 71, op := Go.Op.call { callee := Go.Callee.value (Go.Operand.func 16), args := #[Go.Operand.tmp 70], argTypes := #[3] }, type := 9, pos := _, after := #[{ on := 2, ground := Go.Ground.data }], guard := none }) rfl (fun K hK => ?_) AllReadyH.nil)
                · obtain ⟨q0, q1, q2, q3⟩ := Y0.out.cells
                  go_simp
                  go_wp2_with fail
                  refine hK.out _ _ (by exact K0.out.cells) (fun hHeld1 => ?_)
                  clear hK K
                  (try simp only [Act.put, List.setIfInBounds_toArray, List.set_cons_zero, List.set_cons_succ])
                  clear q0 q1 q2 q3
                  refine wpAnyH_ready (rs := [3]) (by kernel_rfl) (by simp) ?_
                  refine AllReadyH.cons (o := { dst := some 71, op := Go.Op.call { callee := Go.Callee.value (Go.Operand.func 16), args := #[Go.Operand.tmp 70], argTypes := #[3] }, type := 9, pos := _, after := #[{ on := 2, ground := Go.Ground.data }], guard := none }) rfl (fun K hK => ?_) AllReadyH.nil
                  go_simp
                  refine (word i HI.out _).mono ?_
                  rintro e v2 ⟨rfl, hb2⟩
                  have K2 := hid (K0.out.keep hb2)
                  have B2 := hid (bstep B0.out hb2)
                  have Y2 := hid (Y0.out.keep hb2)
                  go_wp2_with fail
                  refine hK.out _ _ (by exact K2.out.cells) (fun hHeld2 => ?_)
                  clear hK K
                  (try simp only [Act.put, List.setIfInBounds_toArray, List.set_cons_zero, List.set_cons_succ])
                  clear hb2
                  refine wpAnyH_take (i := 5) (oi := { dst := some 73, op := Go.Op.build 51 #[(0, Go.Operand.tmp 71), (1, Go.Operand.const (Go.Value.int Go.IntKind.u8 1)), (2, Go.Operand.const (Go.Value.int Go.IntKind.i64 1)), (4, Go.Operand.tmp 72)], type := 51, pos := _, after := #[{ on := 3, ground := Go.Ground.data }, { on := 4, ground := Go.Ground.data }], guard := none }) (v := ?_) rfl (by kernel_rfl) (by kernel_rfl) (by kernel_rfl) (fun _ _ _ h => h) (Or.inl ⟨by rfl, ?_⟩) (by assumption) ?_
                  rotate_left
                  · intro w hSw; (try dsimp only at hSw); go_simp <;> with_reducible rfl
                  simp only [Act.put, List.setIfInBounds_toArray, List.set_cons_zero, List.set_cons_succ]
                  refine wpAnyH_ready (rs := [6]) (by kernel_rfl) (by simp) ?_
                  refine AllReadyH.cons (o := { dst := some 74, op := Go.Op.buildSlice 23 1 #[(0, Go.Operand.tmp 73)], type := 23, pos := _, after := #[{ on := 5, ground := Go.Ground.data }], guard := none }) rfl (fun K hK => ?_) AllReadyH.nil
                  go_simp
                  go_wp2_with fail
                  have K3 := hid (K2.out.keep ((Below.refl _ _).alloc (Nat.le_refl _) (.cells #[.string (wordB i), .int .u8 1, .int .i64 1, .int .i64 0, .int .u8 (x.op : Int), .int .i64 x.n, .string x.name, .slice xa xn xc] 51)))
                  have B3 := hid (bstep B2.out ((Below.refl _ _).alloc (Nat.le_refl _) (.cells #[.string (wordB i), .int .u8 1, .int .i64 1, .int .i64 0, .int .u8 (x.op : Int), .int .i64 x.n, .string x.name, .slice xa xn xc] 51)))
                  have Y3 := hid (Y2.out.keep ((Below.refl _ _).alloc (Nat.le_refl _) (.cells #[.string (wordB i), .int .u8 1, .int .i64 1, .int .i64 0, .int .u8 (x.op : Int), .int .i64 x.n, .string x.name, .slice xa xn xc] 51)))
                  refine hK.out _ _ (by exact K3.out.cells) (fun hHeld3 => ?_)
                  clear hK K
                  (try simp only [Act.put, List.setIfInBounds_toArray, List.set_cons_zero, List.set_cons_succ])
                  have NC := hid (next_cells v2 [.string (wordB i), .int .u8 1, .int .i64 1, .int .i64 0, .int .u8 (x.op : Int), .int .i64 x.n, .string x.name, .slice xa xn xc] 51)
                  refine wpAnyH_ready (rs := [7]) (by kernel_rfl) (by simp) ?_
                  refine AllReadyH.cons (o := { dst := some 75, op := Go.Op.call { callee := Go.Callee.builtin Go.Builtin.append, args := #[Go.Operand.tmp 69, Go.Operand.tmp 74], argTypes := #[23, 23] }, type := 23, pos := _, after := #[{ on := 1, ground := Go.Ground.data }, { on := 6, ground := Go.Ground.data }, { on := 3, ground := Go.Ground.chain }], guard := none }) rfl (fun K hK => ?_) AllReadyH.nil
                  refine if_take (by rfl) ?_
                  refine wp_append_at (.tmp 69) (.tmp 74) 23 rfl (w.heap.size + 2) 51 i0 _ 8 96 Tryd.underlying23 hi hz0 hz1 hz2 rfl (by decide) v _ _ rfl Y3.out.own ⟨v2.heap.size, 0, none⟩ 1 1 [.string (wordB i), .int .u8 1, .int .i64 1, .int .i64 0, .int .u8 (x.op : Int), .int .i64 x.n, .string x.name, .slice xa xn xc] rfl rfl NC.out (by simp [Value.oneCell']) (by rw [HFL.out]; unfold maxLen; omega) (by rw [HFL.out]; omega) Y3.out.size ?_
                  intro v' w' hown hgrow _ _
                  obtain ⟨va', vn', vc', rfl⟩ := own_shape hown
                  have NX := hid (Y3.out.grow (f := ⟨wordB i, 1, 1, 0, x⟩) hown hgrow (K3.out.sx.mono (K := fun _ => False) (fun _ (h : False) => h.elim)) HOK.out)
                  have hkk := OX.grown K3.out Y3.out hgrow
                  obtain ⟨c0, c1, c2, c3⟩ := hkk
                  obtain ⟨p2, p3⟩ := Y3.out.pcell hgrow
                  clear hown hgrow
                  refine hK.out _ _ ⟨c0, c1, c2, c3⟩ (fun hHeld4 => ?_)
                  clear hK K
                  (try simp only [Act.put, List.setIfInBounds_toArray, List.set_cons_zero, List.set_cons_succ])
                  refine wpAnyH_take (i := 8) (oi := { dst := some 76, op := Go.Op.fieldAddr 26 (Go.Operand.tmp 5) 2, type := 0, pos := _, after := #[{ on := 0, ground := Go.Ground.phase }, { on := 1, ground := Go.Ground.phase }, { on := 2, ground := Go.Ground.phase }, { on := 3, ground := Go.Ground.phase }, { on := 4, ground := Go.Ground.phase }, { on := 5, ground := Go.Ground.phase }, { on := 6, ground := Go.Ground.phase }, { on := 7, ground := Go.Ground.phase }], guard := none }) (v := ?_) rfl (by kernel_rfl) (by kernel_rfl) (by kernel_rfl) (fun _ _ _ h => h) (Or.inl ⟨by rfl, ?_⟩) (by assumption) ?_
                  rotate_left
                  · intro w hSw; (try dsimp only at hSw); go_simp <;> with_reducible rfl
                  simp only [Act.put, List.setIfInBounds_toArray, List.set_cons_zero, List.set_cons_succ]
                  refine wpAnyH_ready (rs := [9]) (by kernel_rfl) (by simp) ?_
                  refine AllReadyH.cons (o := { dst := none, op := Go.Op.store 23 (Go.Operand.tmp 76) (Go.Operand.tmp 75), type := 0, pos := _, after := #[{ on := 8, ground := Go.Ground.data }, { on := 7, ground := Go.Ground.data }, { on := 7, ground := Go.Ground.chain }, { on := 0, ground := Go.Ground.phase }, { on := 1, ground := Go.Ground.phase }, { on := 2, ground := Go.Ground.phase }, { on := 3, ground := Go.Ground.phase }, { on := 4, ground := Go.Ground.phase }, { on := 5, ground := Go.Ground.phase }, { on := 6, ground := Go.Ground.phase }, { on := 7, ground := Go.Ground.phase }], guard := none }) rfl (fun K hK => ?_) AllReadyH.nil
                  go_simp
                  go_wp2_with fail
                  refine hK.out _ _ ⟨(cell_set HKP.out).trans c0, (cell_set HKP.out).trans c1, (cell_set HKP.out).trans c2, (cell_set HKP.out).trans c3⟩ (fun hHeldZ => ?_)
                  clear hK K c0 c1 c2 c3 p2 p3
                  refine wpAnyH_done (by kernel_rfl) ?_ _
                  generalize w'.setCell ⟨w.heap.size + 1, 2, none⟩ (.slice va' vn' vc') = V9 at *
                  go_wp2_with (fail)
                  go_roundw
                  case rel => exact ⟨i + 1, by omega, by go_num, hid ⟨_, _, NX.out, by rw [List.map_append, HFS.out, List.range_succ, List.map_append]; exact congrArg (fun z => _ ++ [z]) (HRW.out.trans HFB.out).symm⟩⟩
                  case measure => simp [intOf]; omega
                · go_simp
                  refine (word i HI.out _).mono ?_
                  rintro e v1 ⟨rfl, hb1⟩
                  have K1 := hid (K0.out.keep hb1)
                  have B1 := hid (bstep B0.out hb1)
                  have Y1 := hid (Y0.out.keep hb1)
                  go_wp2_with fail
                  refine hK.out _ _ (by exact K1.out.cells) (fun hHeld1 => ?_)
                  clear hK K
                  (try simp only [Act.put, List.setIfInBounds_toArray, List.set_cons_zero, List.set_cons_succ])
                  clear hb1
                  refine wpAnyH_take (i := 5) (oi := { dst := some 73, op := Go.Op.build 51 #[(0, Go.Operand.tmp 71), (1, Go.Operand.const (Go.Value.int Go.IntKind.u8 1)), (2, Go.Operand.const (Go.Value.int Go.IntKind.i64 1)), (4, Go.Operand.tmp 72)], type := 51, pos := _, after := #[{ on := 3, ground := Go.Ground.data }, { on := 4, ground := Go.Ground.data }], guard := none }) (v := ?_) rfl (by kernel_rfl) (by kernel_rfl) (by kernel_rfl) (fun _ _ _ h => h) (Or.inl ⟨by rfl, ?_⟩) (by assumption) ?_
                  rotate_left
                  · intro w hSw; (try dsimp only at hSw); go_simp <;> with_reducible rfl
                  simp only [Act.put, List.setIfInBounds_toArray, List.set_cons_zero, List.set_cons_succ]
                  refine wpAnyH_ready (rs := [1, 6]) (by kernel_rfl) (by simp) ?_
                  refine AllReadyH.cons (o := { dst := some 69, op := Go.Op.load 23 (Go.Operand.tmp 68), type := 23, pos := _, after := #[{ on := 0, ground := Go.Ground.data }], guard := none }) rfl (fun K hK => ?_) (AllReadyH.cons (o := { dst := some 74, op := Go.Op.buildSlice 23 1 #[(0, Go.Operand.tmp 73)], type := 23, pos := _, after := #[{ on := 5, ground := Go.Ground.data }], guard := none }) rfl (fun K hK => ?_) AllReadyH.nil)
                  · obtain ⟨q0, q1, q2, q3⟩ := Y1.out.cells
                    go_simp
                    go_wp2_with fail
                    refine hK.out _ _ (by exact K1.out.cells) (fun hHeld2 => ?_)
                    clear hK K
                    (try simp only [Act.put, List.setIfInBounds_toArray, List.set_cons_zero, List.set_cons_succ])
                    clear q0 q1 q2 q3
                    refine wpAnyH_ready (rs := [6]) (by kernel_rfl) (by simp) ?_
                    refine AllReadyH.cons (o := { dst := some 74, op := Go.Op.buildSlice 23 1 #[(0, Go.Operand.tmp 73)], type := 23, pos := _, after := #[{ on := 5, ground := Go.Ground.data }], guard := none }) rfl (fun K hK => ?_) AllReadyH.nil
                    go_simp
                    go_wp2_with fail
                    have K3 := hid (K1.out.keep ((Below.refl _ _).alloc (Nat.le_refl _) (.cells #[.string (wordB i), .int .u8 1, .int .i64 1, .int .i64 0, .int .u8 (x.op : Int), .int .i64 x.n, .string x.name, .slice xa xn xc] 51)))
                    have B3 := hid (bstep B1.out ((Below.refl _ _).alloc (Nat.le_refl _) (.cells #[.string (wordB i), .int .u8 1, .int .i64 1, .int .i64 0, .int .u8 (x.op : Int), .int .i64 x.n, .string x.name, .slice xa xn xc] 51)))
                    have Y3 := hid (Y1.out.keep ((Below.refl _ _).alloc (Nat.le_refl _) (.cells #[.string (wordB i), .int .u8 1, .int .i64 1, .int .i64 0, .int .u8 (x.op : Int), .int .i64 x.n, .string x.name, .slice xa xn xc] 51)))
                    refine hK.out _ _ (by exact K3.out.cells) (fun hHeld3 => ?_)
                    clear hK K
                    (try simp only [Act.put, List.setIfInBounds_toArray, List.set_cons_zero, List.set_cons_succ])
                    have NC := hid (next_cells v1 [.string (wordB i), .int .u8 1, .int .i64 1, .int .i64 0, .int .u8 (x.op : Int), .int .i64 x.n, .string x.name, .slice xa xn xc] 51)
                    refine wpAnyH_ready (rs := [7]) (by kernel_rfl) (by simp) ?_
                    refine AllReadyH.cons (o := { dst := some 75, op := Go.Op.call { callee := Go.Callee.builtin Go.Builtin.append, args := #[Go.Operand.tmp 69, Go.Operand.tmp 74], argTypes := #[23, 23] }, type := 23, pos := _, after := #[{ on := 1, ground := Go.Ground.data }, { on := 6, ground := Go.Ground.data }, { on := 3, ground := Go.Ground.chain }], guard := none }) rfl (fun K hK => ?_) AllReadyH.nil
                    refine if_take (by rfl) ?_
                    refine wp_append_at (.tmp 69) (.tmp 74) 23 rfl (w.heap.size + 2) 51 i0 _ 8 96 Tryd.underlying23 hi hz0 hz1 hz2 rfl (by decide) v _ _ rfl Y3.out.own ⟨v1.heap.size, 0, none⟩ 1 1 [.string (wordB i), .int .u8 1, .int .i64 1, .int .i64 0, .int .u8 (x.op : Int), .int .i64 x.n, .string x.name, .slice xa xn xc] rfl rfl NC.out (by simp [Value.oneCell']) (by rw [HFL.out]; unfold maxLen; omega) (by rw [HFL.out]; omega) Y3.out.size ?_
                    intro v' w' hown hgrow _ _
                    obtain ⟨va', vn', vc', rfl⟩ := own_shape hown
                    have NX := hid (Y3.out.grow (f := ⟨wordB i, 1, 1, 0, x⟩) hown hgrow (K3.out.sx.mono (K := fun _ => False) (fun _ (h : False) => h.elim)) HOK.out)
                    have hkk := OX.grown K3.out Y3.out hgrow
                    obtain ⟨c0, c1, c2, c3⟩ := hkk
                    obtain ⟨p2, p3⟩ := Y3.out.pcell hgrow
                    clear hown hgrow
                    refine hK.out _ _ ⟨c0, c1, c2, c3⟩ (fun hHeld4 => ?_)
                    clear hK K
                    (try simp only [Act.put, List.setIfInBounds_toArray, List.set_cons_zero, List.set_cons_succ])
                    refine wpAnyH_take (i := 8) (oi := { dst := some 76, op := Go.Op.fieldAddr 26 (Go.Operand.tmp 5) 2, type := 0, pos := _, after := #[{ on := 0, ground := Go.Ground.phase }, { on := 1, ground := Go.Ground.phase }, { on := 2, ground := Go.Ground.phase }, { on := 3, ground := Go.Ground.phase }, { on := 4, ground := Go.Ground.phase }, { on := 5, ground := Go.Ground.phase }, { on := 6, ground := Go.Ground.phase }, { on := 7, ground := Go.Ground.phase }], guard := none }) (v := ?_) rfl (by kernel_rfl) (by kernel_rfl) (by kernel_rfl) (fun _ _ _ h => h) (Or.inl ⟨by rfl, ?_⟩) (by assumption) ?_
                    rotate_left
                    · intro w hSw; (try dsimp only at hSw); go_simp <;> with_reducible rfl
                    simp only [Act.put, List.setIfInBounds_toArray, List.set_cons_zero, List.set_cons_succ]
                    refine wpAnyH_ready (rs := [9]) (by kernel_rfl) (by simp) ?_
                    refine AllReadyH.cons (o := { dst := none, op := Go.Op.store 23 (Go.Operand.tmp 76) (Go.Operand.tmp 75), type := 0, pos := _, after := #[{ on := 8, ground := Go.Ground.data }, { on := 7, ground := Go.Ground.data }, { on := 7, ground := Go.Ground.chain }, { on := 0, ground := Go.Ground.phase }, { on := 1, ground := Go.Ground.phase }, { on := 2, ground := Go.Ground.phase }, { on := 3, ground := Go.Ground.phase }, { on := 4, ground := Go.Ground.phase }, { on := 5, ground := Go.Ground.phase }, { on := 6, ground := Go.Ground.phase }, { on := 7, ground := Go.Ground.phase }], guard := none }) rfl (fun K hK => ?_) AllReadyH.nil
                    go_simp
                    go_wp2_with fail
                    refine hK.out _ _ ⟨(cell_set HKP.out).trans c0, (cell_set HKP.out).trans c1, (cell_set HKP.out).trans c2, (cell_set HKP.out).trans c3⟩ (fun hHeldZ => ?_)
                    clear hK K c0 c1 c2 c3 p2 p3
                    refine wpAnyH_done (by kernel_rfl) ?_ _
                    generalize w'.setCell ⟨w.heap.size + 1, 2, none⟩ (.slice va' vn' vc') = V9 at *
                    go_wp2_with (fail)
                    go_roundw
                    case rel => exact ⟨i + 1, by omega, by go_num, hid ⟨_, _, NX.out, by rw [List.map_append, HFS.out, List.range_succ, List.map_append]; exact congrArg (fun z => _ ++ [z]) (HRW.out.trans HFB.out).symm⟩⟩
                    case measure => simp [intOf]; omega
                  · go_simp
                    go_wp2_with fail
                    have K2 := hid (K1.out.keep ((Below.refl _ _).alloc (Nat.le_refl _) (.cells #[.string (wordB i), .int .u8 1, .int .i64 1, .int .i64 0, .int .u8 (x.op : Int), .int .i64 x.n, .string x.name, .slice xa xn xc] 51)))
                    have B2 := hid (bstep B1.out ((Below.refl _ _).alloc (Nat.le_refl _) (.cells #[.string (wordB i), .int .u8 1, .int .i64 1, .int .i64 0, .int .u8 (x.op : Int), .int .i64 x.n, .string x.name, .slice xa xn xc] 51)))
                    have Y2 := hid (Y1.out.keep ((Below.refl _ _).alloc (Nat.le_refl _) (.cells #[.string (wordB i), .int .u8 1, .int .i64 1, .int .i64 0, .int .u8 (x.op : Int), .int .i64 x.n, .string x.name, .slice xa xn xc] 51)))
                    refine hK.out _ _ (by exact K2.out.cells) (fun hHeld2 => ?_)
                    clear hK K
                    (try simp only [Act.put, List.setIfInBounds_toArray, List.set_cons_zero, List.set_cons_succ])
                    have NC := hid (next_cells v1 [.string (wordB i), .int .u8 1, .int .i64 1, .int .i64 0, .int .u8 (x.op : Int), .int .i64 x.n, .string x.name, .slice xa xn xc] 51)
                    refine wpAnyH_ready (rs := [1]) (by kernel_rfl) (by simp) ?_
                    refine AllReadyH.cons (o := { dst := some 69, op := Go.Op.load 23 (Go.Operand.tmp 68), type := 23, pos := _, after := #[{ on := 0, ground := Go.Ground.data }], guard := none }) rfl (fun K hK => ?_) AllReadyH.nil
                    obtain ⟨q0, q1, q2, q3⟩ := Y2.out.cells
                    go_simp
                    go_wp2_with fail
                    refine hK.out _ _ (by exact K2.out.cells) (fun hHeld3 => ?_)
                    clear hK K
                    (try simp only [Act.put, List.setIfInBounds_toArray, List.set_cons_zero, List.set_cons_succ])
                    clear q0 q1 q2 q3
                    refine wpAnyH_ready (rs := [7]) (by kernel_rfl) (by simp) ?_
                    refine AllReadyH.cons (o := { dst := some 75, op := Go.Op.call { callee := Go.Callee.builtin Go.Builtin.append, args := #[Go.Operand.tmp 69, Go.Operand.tmp 74], argTypes := #[23, 23] }, type := 23, pos := _, after := #[{ on := 1, ground := Go.Ground.data }, { on := 6, ground := Go.Ground.data }, { on := 3, ground := Go.Ground.chain }], guard := none }) rfl (fun K hK => ?_) AllReadyH.nil
                    refine if_take (by rfl) ?_
                    refine wp_append_at (.tmp 69) (.tmp 74) 23 rfl (w.heap.size + 2) 51 i0 _ 8 96 Tryd.underlying23 hi hz0 hz1 hz2 rfl (by decide) v _ _ rfl Y2.out.own ⟨v1.heap.size, 0, none⟩ 1 1 [.string (wordB i), .int .u8 1, .int .i64 1, .int .i64 0, .int .u8 (x.op : Int), .int .i64 x.n, .string x.name, .slice xa xn xc] rfl rfl NC.out (by simp [Value.oneCell']) (by rw [HFL.out]; unfold maxLen; omega) (by rw [HFL.out]; omega) Y2.out.size ?_
                    intro v' w' hown hgrow _ _
                    obtain ⟨va', vn', vc', rfl⟩ := own_shape hown
                    have NX := hid (Y2.out.grow (f := ⟨wordB i, 1, 1, 0, x⟩) hown hgrow (K2.out.sx.mono (K := fun _ => False) (fun _ (h : False) => h.elim)) HOK.out)
                    have hkk := OX.grown K2.out Y2.out hgrow
                    obtain ⟨c0, c1, c2, c3⟩ := hkk
                    obtain ⟨p2, p3⟩ := Y2.out.pcell hgrow
                    clear hown hgrow
                    refine hK.out _ _ ⟨c0, c1, c2, c3⟩ (fun hHeld4 => ?_)
                    clear hK K
                    (try simp only [Act.put, List.setIfInBounds_toArray, List.set_cons_zero, List.set_cons_succ])
                    refine wpAnyH_take (i := 8) (oi := { dst := some 76, op := Go.Op.fieldAddr 26 (Go.Operand.tmp 5) 2, type := 0, pos := _, after := #[{ on := 0, ground := Go.Ground.phase }, { on := 1, ground := Go.Ground.phase }, { on := 2, ground := Go.Ground.phase }, { on := 3, ground := Go.Ground.phase }, { on := 4, ground := Go.Ground.phase }, { on := 5, ground := Go.Ground.phase }, { on := 6, ground := Go.Ground.phase }, { on := 7, ground := Go.Ground.phase }], guard := none }) (v := ?_) rfl (by kernel_rfl) (by kernel_rfl) (by kernel_rfl) (fun _ _ _ h => h) (Or.inl ⟨by rfl, ?_⟩) (by assumption) ?_
                    rotate_left
                    · intro w hSw; (try dsimp only at hSw); go_simp <;> with_reducible rfl
                    simp only [Act.put, List.setIfInBounds_toArray, List.set_cons_zero, List.set_cons_succ]
                    refine wpAnyH_ready (rs := [9]) (by kernel_rfl) (by simp) ?_
                    refine AllReadyH.cons (o := { dst := none, op := Go.Op.store 23 (Go.Operand.tmp 76) (Go.Operand.tmp 75), type := 0, pos := _, after := #[{ on := 8, ground := Go.Ground.data }, { on := 7, ground := Go.Ground.data }, { on := 7, ground := Go.Ground.chain }, { on := 0, ground := Go.Ground.phase }, { on := 1, ground := Go.Ground.phase }, { on := 2, ground := Go.Ground.phase }, { on := 3, ground := Go.Ground.phase }, { on := 4, ground := Go.Ground.phase }, { on := 5, ground := Go.Ground.phase }, { on := 6, ground := Go.Ground.phase }, { on := 7, ground := Go.Ground.phase }], guard := none }) rfl (fun K hK => ?_) AllReadyH.nil
                    go_simp
                    go_wp2_with fail
                    refine hK.out _ _ ⟨(cell_set HKP.out).trans c0, (cell_set HKP.out).trans c1, (cell_set HKP.out).trans c2, (cell_set HKP.out).trans c3⟩ (fun hHeldZ => ?_)
                    clear hK K c0 c1 c2 c3 p2 p3
                    refine wpAnyH_done (by kernel_rfl) ?_ _
                    generalize w'.setCell ⟨w.heap.size + 1, 2, none⟩ (.slice va' vn' vc') = V9 at *
                    go_wp2_with (fail)
                    go_roundw
                    case rel => exact ⟨i + 1, by omega, by go_num, hid ⟨_, _, NX.out, by rw [List.map_append, HFS.out, List.range_succ, List.map_append]; exact congrArg (fun z => _ ++ [z]) (HRW.out.trans HFB.out).symm⟩⟩
                    case measure => simp [intOf]; omega
              · have hia' : ¬ (i : Int) < (ago.length : Int) := by omega
                go_wp2_with (fail)
                (try clear z1)
                generalize (ofF i l0 l1).body = x at *
                refine wp_region_held_drew (S := fun W => W.cell? ⟨kx, 0, none⟩ = some (.int .u8 (x.op : Int)) ∧ W.cell? ⟨kx, 1, none⟩ = some (.int .i64 x.n) ∧ W.cell? ⟨kx, 2, none⟩ = some (.string x.name) ∧ W.cell? ⟨kx, 3, none⟩ = some (.slice xa xn xc)) (by kernel_rfl) ?_ (fun hHeld => ?_)
                · exact XK.out.cells
                refine wpAnyH_take (i := 0) (oi := { dst := some 68, op := Go.Op.fieldAddr 26 (Go.Operand.tmp 5) 2, type := 0, pos := _, after := #[], guard := none }) (v := ?_) rfl (by kernel_rfl) (by kernel_rfl) (by kernel_rfl) (fun _ _ _ h => h) (Or.inl ⟨by rfl, ?_⟩) (by assumption) ?_
                rotate_left
                · intro w hSw; (try dsimp only at hSw); go_simp <;> with_reducible rfl
                simp only [Act.put, List.setIfInBounds_toArray, List.set_cons_zero, List.set_cons_succ]
                refine wpAnyH_take (i := 2) (oi := { dst := some 70, op := Go.Op.move (Go.Operand.tmp 6), type := 3, pos := _, after := #[], guard := none }) (v := ?_) rfl (by kernel_rfl) (by kernel_rfl) (by kernel_rfl) (fun _ _ _ h => h) (Or.inl ⟨by rfl, ?_⟩) (by assumption) ?_
                rotate_left
                · intro w hSw; (try dsimp only at hSw); go_simp <;> with_reducible rfl
                simp only [Act.put, List.setIfInBounds_toArray, List.set_cons_zero, List.set_cons_succ]
                refine wpAnyH_take (i := 4) (oi := { dst := some 72, op := Go.Op.load 49 (Go.Operand.tmp 7), type := 49, pos := _, after := #[], guard := none }) (v := ?_) rfl (by kernel_rfl) (by kernel_rfl) (by kernel_rfl) (fun _ _ _ h => h) (Or.inl ⟨by rfl, ?_⟩) (by assumption) ?_
                rotate_left
                · intro w hSw; (try dsimp only at hSw); go_simp <;> with_reducible rfl
                simp only [Act.put, List.setIfInBounds_toArray, List.set_cons_zero, List.set_cons_succ]
                refine wpAnyH_ready (rs := [1, 3]) (by kernel_rfl) (by simp) ?_
                refine AllReadyH.cons (o := { dst := some 69, op := Go.Op.load 23 (Go.Operand.tmp 68), type := 23, pos := _, after := #[{ on := 0, ground := Go.Ground.data }], guard := none }) rfl (fun K hK => ?_) (AllReadyH.cons (o := { dst := some 71, op := Go.Op.call { callee := Go.Callee.value (Go.Operand.func 16), args := #[Go.Operand.tmp 70], argTypes := #[3] }, type := 9, pos := _, after := #[{ on := 2, ground := Go.Ground.data }], guard := none }) rfl (fun K hK => ?_) AllReadyH.nil)
                · obtain ⟨q0, q1, q2, q3⟩ := Y0.out.cells
                  go_simp
                  go_wp2_with fail
                  refine hK.out _ _ (by exact K0.out.cells) (fun hHeld1 => ?_)
                  clear hK K
                  (try simp only [Act.put, List.setIfInBounds_toArray, List.set_cons_zero, List.set_cons_succ])
                  clear q0 q1 q2 q3
                  refine wpAnyH_ready (rs := [3]) (by kernel_rfl) (by simp) ?_
                  refine AllReadyH.cons (o := { dst := some 71, op := Go.Op.call { callee := Go.Callee.value (Go.Operand.func 16), args := #[Go.Operand.tmp 70], argTypes := #[3] }, type := 9, pos := _, after := #[{ on := 2, ground := Go.Ground.data }], guard := none }) rfl (fun K hK => ?_) AllReadyH.nil
                  go_simp
                  refine (word i HI.out _).mono ?_
                  rintro e v2 ⟨rfl, hb2⟩
                  have K2 := hid (K0.out.keep hb2)
                  have B2 := hid (bstep B0.out hb2)
                  have Y2 := hid (Y0.out.keep hb2)
                  go_wp2_with fail
                  refine hK.out _ _ (by exact K2.out.cells) (fun hHeld2 => ?_)
                  clear hK K
                  (try simp only [Act.put, List.setIfInBounds_toArray, List.set_cons_zero, List.set_cons_succ])
                  clear hb2
                  refine wpAnyH_take (i := 5) (oi := { dst := some 73, op := Go.Op.build 51 #[(0, Go.Operand.tmp 71), (1, Go.Operand.const (Go.Value.int Go.IntKind.u8 1)), (2, Go.Operand.const (Go.Value.int Go.IntKind.i64 1)), (4, Go.Operand.tmp 72)], type := 51, pos := _, after := #[{ on := 3, ground := Go.Ground.data }, { on := 4, ground := Go.Ground.data }], guard := none }) (v := ?_) rfl (by kernel_rfl) (by kernel_rfl) (by kernel_rfl) (fun _ _ _ h => h) (Or.inl ⟨by rfl, ?_⟩) (by assumption) ?_
                  rotate_left
                  · intro w hSw; (try dsimp only at hSw); go_simp <;> with_reducible rfl
                  simp only [Act.put, List.setIfInBounds_toArray, List.set_cons_zero, List.set_cons_succ]
                  refine wpAnyH_ready (rs := [6]) (by kernel_rfl) (by simp) ?_
                  refine AllReadyH.cons (o := { dst := some 74, op := Go.Op.buildSlice 23 1 #[(0, Go.Operand.tmp 73)], type := 23, pos := _, after := #[{ on := 5, ground := Go.Ground.data }], guard := none }) rfl (fun K hK => ?_) AllReadyH.nil
                  go_simp
                  go_wp2_with fail
                  have K3 := hid (K2.out.keep ((Below.refl _ _).alloc (Nat.le_refl _) (.cells #[.string (wordB i), .int .u8 1, .int .i64 1, .int .i64 0, .int .u8 (x.op : Int), .int .i64 x.n, .string x.name, .slice xa xn xc] 51)))
                  have B3 := hid (bstep B2.out ((Below.refl _ _).alloc (Nat.le_refl _) (.cells #[.string (wordB i), .int .u8 1, .int .i64 1, .int .i64 0, .int .u8 (x.op : Int), .int .i64 x.n, .string x.name, .slice xa xn xc] 51)))
                  have Y3 := hid (Y2.out.keep ((Below.refl _ _).alloc (Nat.le_refl _) (.cells #[.string (wordB i), .int .u8 1, .int .i64 1, .int .i64 0, .int .u8 (x.op : Int), .int .i64 x.n, .string x.name, .slice xa xn xc] 51)))
                  refine hK.out _ _ (by exact K3.out.cells) (fun hHeld3 => ?_)
                  clear hK K
                  (try simp only [Act.put, List.setIfInBounds_toArray, List.set_cons_zero, List.set_cons_succ])
                  have NC := hid (next_cells v2 [.string (wordB i), .int .u8 1, .int .i64 1, .int .i64 0, .int .u8 (x.op : Int), .int .i64 x.n, .string x.name, .slice xa xn xc] 51)
                  refine wpAnyH_ready (rs := [7]) (by kernel_rfl) (by simp) ?_
                  refine AllReadyH.cons (o := { dst := some 75, op := Go.Op.call { callee := Go.Callee.builtin Go.Builtin.append, args := #[Go.Operand.tmp 69, Go.Operand.tmp 74], argTypes := #[23, 23] }, type := 23, pos := _, after := #[{ on := 1, ground := Go.Ground.data }, { on := 6, ground := Go.Ground.data }, { on := 3, ground := Go.Ground.chain }], guard := none }) rfl (fun K hK => ?_) AllReadyH.nil
                  refine if_take (by rfl) ?_
                  refine wp_append_at (.tmp 69) (.tmp 74) 23 rfl (w.heap.size + 2) 51 i0 _ 8 96 Tryd.underlying23 hi hz0 hz1 hz2 rfl (by decide) v _ _ rfl Y3.out.own ⟨v2.heap.size, 0, none⟩ 1 1 [.string (wordB i), .int .u8 1, .int .i64 1, .int .i64 0, .int .u8 (x.op : Int), .int .i64 x.n, .string x.name, .slice xa xn xc] rfl rfl NC.out (by simp [Value.oneCell']) (by rw [HFL.out]; unfold maxLen; omega) (by rw [HFL.out]; omega) Y3.out.size ?_
                  intro v' w' hown hgrow _ _
                  obtain ⟨va', vn', vc', rfl⟩ := own_shape hown
                  have NX := hid (Y3.out.grow (f := ⟨wordB i, 1, 1, 0, x⟩) hown hgrow (K3.out.sx.mono (K := fun _ => False) (fun _ (h : False) => h.elim)) HOK.out)
                  have hkk := OX.grown K3.out Y3.out hgrow
                  obtain ⟨c0, c1, c2, c3⟩ := hkk
                  obtain ⟨p2, p3⟩ := Y3.out.pcell hgrow
                  clear hown hgrow
                  refine hK.out _ _ ⟨c0, c1, c2, c3⟩ (fun hHeld4 => ?_)
                  clear hK K
                  (try simp only [Act.put, List.setIfInBounds_toArray, List.set_cons_zero, List.set_cons_succ])
                  refine wpAnyH_take (i := 8) (oi := { dst := some 76, op := Go.Op.fieldAddr 26 (Go.Operand.tmp 5) 2, type := 0, pos := _, after := #[{ on := 0, ground := Go.Ground.phase }, { on := 1, ground := Go.Ground.phase }, { on := 2, ground := Go.Ground.phase }, { on := 3, ground := Go.Ground.phase }, { on := 4, ground := Go.Ground.phase }, { on := 5, ground := Go.Ground.phase }, { on := 6, ground := Go.Ground.phase }, { on := 7, ground := Go.Ground.phase }], guard := none }) (v := ?_) rfl (by kernel_rfl) (by kernel_rfl) (by kernel_rfl) (fun _ _ _ h => h) (Or.inl ⟨by rfl, ?_⟩) (by assumption) ?_
                  rotate_left
                  · intro w hSw; (try dsimp only at hSw); go_simp <;> with_reducible rfl
                  simp only [Act.put, List.setIfInBounds_toArray, List.set_cons_zero, List.set_cons_succ]
                  refine wpAnyH_ready (rs := [9]) (by kernel_rfl) (by simp) ?_
                  refine AllReadyH.cons (o := { dst := none, op := Go.Op.store 23 (Go.Operand.tmp 76) (Go.Operand.tmp 75), type := 0, pos := _, after := #[{ on := 8, ground := Go.Ground.data }, { on := 7, ground := Go.Ground.data }, { on := 7, ground := Go.Ground.chain }, { on := 0, ground := Go.Ground.phase }, { on := 1, ground := Go.Ground.phase }, { on := 2, ground := Go.Ground.phase }, { on := 3, ground := Go.Ground.phase }, { on := 4, ground := Go.Ground.phase }, { on := 5, ground := Go.Ground.phase }, { on := 6, ground := Go.Ground.phase }, { on := 7, ground := Go.Ground.phase }], guard := none }) rfl (fun K hK => ?_) AllReadyH.nil
                  go_simp
                  go_wp2_with fail
                  refine hK.out _ _ ⟨(cell_set HKP.out).trans c0, (cell_set HKP.out).trans c1, (cell_set HKP.out).trans c2, (cell_set HKP.out).trans c3⟩ (fun hHeldZ => ?_)
                  clear hK K c0 c1 c2 c3 p2 p3
                  refine wpAnyH_done (by kernel_rfl) ?_ _
                  generalize w'.setCell ⟨w.heap.size + 1, 2, none⟩ (.slice va' vn' vc') = V9 at *
                  go_wp2_with (fail)
                  go_roundw
                  case rel => exact ⟨i + 1, by omega, by go_num, hid ⟨_, _, NX.out, by rw [List.map_append, HFS.out, List.range_succ, List.map_append]; exact congrArg (fun z => _ ++ [z]) (HRW.out.trans HFB.out).symm⟩⟩
                  case measure => simp [intOf]; omega
                · go_simp
                  refine (word i HI.out _).mono ?_
                  rintro e v1 ⟨rfl, hb1⟩
                  have K1 := hid (K0.out.keep hb1)
                  have B1 := hid (bstep B0.out hb1)
                  have Y1 := hid (Y0.out.keep hb1)
                  go_wp2_with fail
                  refine hK.out _ _ (by exact K1.out.cells) (fun hHeld1 => ?_)
                  clear hK K
                  (try simp only [Act.put, List.setIfInBounds_toArray, List.set_cons_zero, List.set_cons_succ])
                  clear hb1
                  refine wpAnyH_take (i := 5) (oi := { dst := some 73, op := Go.Op.build 51 #[(0, Go.Operand.tmp 71), (1, Go.Operand.const (Go.Value.int Go.IntKind.u8 1)), (2, Go.Operand.const (Go.Value.int Go.IntKind.i64 1)), (4, Go.Operand.tmp 72)], type := 51, pos := _, after := #[{ on := 3, ground := Go.Ground.data }, { on := 4, ground := Go.Ground.data }], guard := none }) (v := ?_) rfl (by kernel_rfl) (by kernel_rfl) (by kernel_rfl) (fun _ _ _ h => h) (Or.inl ⟨by rfl, ?_⟩) (by assumption) ?_
                  rotate_left
                  · intro w hSw; (try dsimp only at hSw); go_simp <;> with_reducible rfl
                  simp only [Act.put, List.setIfInBounds_toArray, List.set_cons_zero, List.set_cons_succ]
                  refine wpAnyH_ready (rs := [1, 6]) (by kernel_rfl) (by simp) ?_
                  refine AllReadyH.cons (o := { dst := some 69, op := Go.Op.load 23 (Go.Operand.tmp 68), type := 23, pos := _, after := #[{ on := 0, ground := Go.Ground.data }], guard := none }) rfl (fun K hK => ?_) (AllReadyH.cons (o := { dst := some 74, op := Go.Op.buildSlice 23 1 #[(0, Go.Operand.tmp 73)], type := 23, pos := _, after := #[{ on := 5, ground := Go.Ground.data }], guard := none }) rfl (fun K hK => ?_) AllReadyH.nil)
                  · obtain ⟨q0, q1, q2, q3⟩ := Y1.out.cells
                    go_simp
                    go_wp2_with fail
                    refine hK.out _ _ (by exact K1.out.cells) (fun hHeld2 => ?_)
                    clear hK K
                    (try simp only [Act.put, List.setIfInBounds_toArray, List.set_cons_zero, List.set_cons_succ])
                    clear q0 q1 q2 q3
                    refine wpAnyH_ready (rs := [6]) (by kernel_rfl) (by simp) ?_
                    refine AllReadyH.cons (o := { dst := some 74, op := Go.Op.buildSlice 23 1 #[(0, Go.Operand.tmp 73)], type := 23, pos := _, after := #[{ on := 5, ground := Go.Ground.data }], guard := none }) rfl (fun K hK => ?_) AllReadyH.nil
                    go_simp
                    go_wp2_with fail
                    have K3 := hid (K1.out.keep ((Below.refl _ _).alloc (Nat.le_refl _) (.cells #[.string (wordB i), .int .u8 1, .int .i64 1, .int .i64 0, .int .u8 (x.op : Int), .int .i64 x.n, .string x.name, .slice xa xn xc] 51)))
                    have B3 := hid (bstep B1.out ((Below.refl _ _).alloc (Nat.le_refl _) (.cells #[.string (wordB i), .int .u8 1, .int .i64 1, .int .i64 0, .int .u8 (x.op : Int), .int .i64 x.n, .string x.name, .slice xa xn xc] 51)))
                    have Y3 := hid (Y1.out.keep ((Below.refl _ _).alloc (Nat.le_refl _) (.cells #[.string (wordB i), .int .u8 1, .int .i64 1, .int .i64 0, .int .u8 (x.op : Int), .int .i64 x.n, .string x.name, .slice xa xn xc] 51)))
                    refine hK.out _ _ (by exact K3.out.cells) (fun hHeld3 => ?_)
                    clear hK K
                    (try simp only [Act.put, List.setIfInBounds_toArray, List.set_cons_zero, List.set_cons_succ])
                    have NC := hid (next_cells v1 [.string (wordB i), .int .u8 1, .int .i64 1, .int .i64 0, .int .u8 (x.op : Int), .int .i64 x.n, .string x.name, .slice xa xn xc] 51)
                    refine wpAnyH_ready (rs := [7]) (by kernel_rfl) (by simp) ?_
                    refine AllReadyH.cons (o := { dst := some 75, op := Go.Op.call { callee := Go.Callee.builtin Go.Builtin.append, args := #[Go.Operand.tmp 69, Go.Operand.tmp 74], argTypes := #[23, 23] }, type := 23, pos := _, after := #[{ on := 1, ground := Go.Ground.data }, { on := 6, ground := Go.Ground.data }, { on := 3, ground := Go.Ground.chain }], guard := none }) rfl (fun K hK => ?_) AllReadyH.nil
                    refine if_take (by rfl) ?_
                    refine wp_append_at (.tmp 69) (.tmp 74) 23 rfl (w.heap.size + 2) 51 i0 _ 8 96 Tryd.underlying23 hi hz0 hz1 hz2 rfl (by decide) v _ _ rfl Y3.out.own ⟨v1.heap.size, 0, none⟩ 1 1 [.string (wordB i), .int .u8 1, .int .i64 1, .int .i64 0, .int .u8 (x.op : Int), .int .i64 x.n, .string x.name, .slice xa xn xc] rfl rfl NC.out (by simp [Value.oneCell']) (by rw [HFL.out]; unfold maxLen; omega) (by rw [HFL.out]; omega) Y3.out.size ?_
                    intro v' w' hown hgrow _ _
                    obtain ⟨va', vn', vc', rfl⟩ := own_shape hown
                    have NX := hid (Y3.out.grow (f := ⟨wordB i, 1, 1, 0, x⟩) hown hgrow (K3.out.sx.mono (K := fun _ => False) (fun _ (h : False) => h.elim)) HOK.out)
                    have hkk := OX.grown K3.out Y3.out hgrow
                    obtain ⟨c0, c1, c2, c3⟩ := hkk
                    obtain ⟨p2, p3⟩ := Y3.out.pcell hgrow
                    clear hown hgrow
                    refine hK.out _ _ ⟨c0, c1, c2, c3⟩ (fun hHeld4 => ?_)
                    clear hK K
                    (try simp only [Act.put, List.setIfInBounds_toArray, List.set_cons_zero, List.set_cons_succ])
                    refine wpAnyH_take (i := 8) (oi := { dst := some 76, op := Go.Op.fieldAddr 26 (Go.Operand.tmp 5) 2, type := 0, pos := _, after := #[{ on := 0, ground := Go.Ground.phase }, { on := 1, ground := Go.Ground.phase }, { on := 2, ground := Go.Ground.phase }, { on := 3, ground := Go.Ground.phase }, { on := 4, ground := Go.Ground.phase }, { on := 5, ground := Go.Ground.phase }, { on := 6, ground := Go.Ground.phase }, { on := 7, ground := Go.Ground.phase }], guard := none }) (v := ?_) rfl (by kernel_rfl) (by kernel_rfl) (by kernel_rfl) (fun _ _ _ h => h) (Or.inl ⟨by rfl, ?_⟩) (by assumption) ?_
                    rotate_left
                    · intro w hSw; (try dsimp only at hSw); go_simp <;> with_reducible rfl
                    simp only [Act.put, List.setIfInBounds_toArray, List.set_cons_zero, List.set_cons_succ]
                    refine wpAnyH_ready (rs := [9]) (by kernel_rfl) (by simp) ?_
                    refine AllReadyH.cons (o := { dst := none, op := Go.Op.store 23 (Go.Operand.tmp 76) (Go.Operand.tmp 75), type := 0, pos := _, after := #[{ on := 8, ground := Go.Ground.data }, { on := 7, ground := Go.Ground.data }, { on := 7, ground := Go.Ground.chain }, { on := 0, ground := Go.Ground.phase }, { on := 1, ground := Go.Ground.phase }, { on := 2, ground := Go.Ground.phase }, { on := 3, ground := Go.Ground.phase }, { on := 4, ground := Go.Ground.phase }, { on := 5, ground := Go.Ground.phase }, { on := 6, ground := Go.Ground.phase }, { on := 7, ground := Go.Ground.phase }], guard := none }) rfl (fun K hK => ?_) AllReadyH.nil
                    go_simp
                    go_wp2_with fail
                    refine hK.out _ _ ⟨(cell_set HKP.out).trans c0, (cell_set HKP.out).trans c1, (cell_set HKP.out).trans c2, (cell_set HKP.out).trans c3⟩ (fun hHeldZ => ?_)
                    clear hK K c0 c1 c2 c3 p2 p3
                    refine wpAnyH_done (by kernel_rfl) ?_ _
                    generalize w'.setCell ⟨w.heap.size + 1, 2, none⟩ (.slice va' vn' vc') = V9 at *
                    go_wp2_with (fail)
                    go_roundw
                    case rel => exact ⟨i + 1, by omega, by go_num, hid ⟨_, _, NX.out, by rw [List.map_append, HFS.out, List.range_succ, List.map_append]; exact congrArg (fun z => _ ++ [z]) (HRW.out.trans HFB.out).symm⟩⟩
                    case measure => simp [intOf]; omega
                  · go_simp
                    go_wp2_with fail
                    have K2 := hid (K1.out.keep ((Below.refl _ _).alloc (Nat.le_refl _) (.cells #[.string (wordB i), .int .u8 1, .int .i64 1, .int .i64 0, .int .u8 (x.op : Int), .int .i64 x.n, .string x.name, .slice xa xn xc] 51)))
                    have B2 := hid (bstep B1.out ((Below.refl _ _).alloc (Nat.le_refl _) (.cells #[.string (wordB i), .int .u8 1, .int .i64 1, .int .i64 0, .int .u8 (x.op : Int), .int .i64 x.n, .string x.name, .slice xa xn xc] 51)))
                    have Y2 := hid (Y1.out.keep ((Below.refl _ _).alloc (Nat.le_refl _) (.cells #[.string (wordB i), .int .u8 1, .int .i64 1, .int .i64 0, .int .u8 (x.op : Int), .int .i64 x.n, .string x.name, .slice xa xn xc] 51)))
                    refine hK.out _ _ (by exact K2.out.cells) (fun hHeld2 => ?_)
                    clear hK K
                    (try simp only [Act.put, List.setIfInBounds_toArray, List.set_cons_zero, List.set_cons_succ])
                    have NC := hid (next_cells v1 [.string (wordB i), .int .u8 1, .int .i64 1, .int .i64 0, .int .u8 (x.op : Int), .int .i64 x.n, .string x.name, .slice xa xn xc] 51)
                    refine wpAnyH_ready (rs := [1]) (by kernel_rfl) (by simp) ?_
                    refine AllReadyH.cons (o := { dst := some 69, op := Go.Op.load 23 (Go.Operand.tmp 68), type := 23, pos := _, after := #[{ on := 0, ground := Go.Ground.data }], guard := none }) rfl (fun K hK => ?_) AllReadyH.nil
                    obtain ⟨q0, q1, q2, q3⟩ := Y2.out.cells
                    go_simp
                    go_wp2_with fail
                    refine hK.out _ _ (by exact K2.out.cells) (fun hHeld3 => ?_)
                    clear hK K
                    (try simp only [Act.put, List.setIfInBounds_toArray, List.set_cons_zero, List.set_cons_succ])
                    clear q0 q1 q2 q3
                    refine wpAnyH_ready (rs := [7]) (by kernel_rfl) (by simp) ?_
                    refine AllReadyH.cons (o := { dst := some 75, op := Go.Op.call { callee := Go.Callee.builtin Go.Builtin.append, args := #[Go.Operand.tmp 69, Go.Operand.tmp 74], argTypes := #[23, 23] }, type := 23, pos := _, after := #[{ on := 1, ground := Go.Ground.data }, { on := 6, ground := Go.Ground.data }, { on := 3, ground := Go.Ground.chain }], guard := none }) rfl (fun K hK => ?_) AllReadyH.nil
                    refine if_take (by rfl) ?_
                    refine wp_append_at (.tmp 69) (.tmp 74) 23 rfl (w.heap.size + 2) 51 i0 _ 8 96 Tryd.underlying23 hi hz0 hz1 hz2 rfl (by decide) v _ _ rfl Y2.out.own ⟨v1.heap.size, 0, none⟩ 1 1 [.string (wordB i), .int .u8 1, .int .i64 1, .int .i64 0, .int .u8 (x.op : Int), .int .i64 x.n, .string x.name, .slice xa xn xc] rfl rfl NC.out (by simp [Value.oneCell']) (by rw [HFL.out]; unfold maxLen; omega) (by rw [HFL.out]; omega) Y2.out.size ?_
                    intro v' w' hown hgrow _ _
                    obtain ⟨va', vn', vc', rfl⟩ := own_shape hown
                    have NX := hid (Y2.out.grow (f := ⟨wordB i, 1, 1, 0, x⟩) hown hgrow (K2.out.sx.mono (K := fun _ => False) (fun _ (h : False) => h.elim)) HOK.out)
                    have hkk := OX.grown K2.out Y2.out hgrow
                    obtain ⟨c0, c1, c2, c3⟩ := hkk
                    obtain ⟨p2, p3⟩ := Y2.out.pcell hgrow
                    clear hown hgrow
                    refine hK.out _ _ ⟨c0, c1, c2, c3⟩ (fun hHeld4 => ?_)
                    clear hK K
                    (try simp only [Act.put, List.setIfInBounds_toArray, List.set_cons_zero, List.set_cons_succ])
                    refine wpAnyH_take (i := 8) (oi := { dst := some 76, op := Go.Op.fieldAddr 26 (Go.Operand.tmp 5) 2, type := 0, pos := _, after := #[{ on := 0, ground := Go.Ground.phase }, { on := 1, ground := Go.Ground.phase }, { on := 2, ground := Go.Ground.phase }, { on := 3, ground := Go.Ground.phase }, { on := 4, ground := Go.Ground.phase }, { on := 5, ground := Go.Ground.phase }, { on := 6, ground := Go.Ground.phase }, { on := 7, ground := Go.Ground.phase }], guard := none }) (v := ?_) rfl (by kernel_rfl) (by kernel_rfl) (by kernel_rfl) (fun _ _ _ h => h) (Or.inl ⟨by rfl, ?_⟩) (by assumption) ?_
                    rotate_left
                    · intro w hSw; (try dsimp only at hSw); go_simp <;> with_reducible rfl
                    simp only [Act.put, List.setIfInBounds_toArray, List.set_cons_zero, List.set_cons_succ]
                    refine wpAnyH_ready (rs := [9]) (by kernel_rfl) (by simp) ?_
                    refine AllReadyH.cons (o := { dst := none, op := Go.Op.store 23 (Go.Operand.tmp 76) (Go.Operand.tmp 75), type := 0, pos := _, after := #[{ on := 8, ground := Go.Ground.data }, { on := 7, ground := Go.Ground.data }, { on := 7, ground := Go.Ground.chain }, { on := 0, ground := Go.Ground.phase }, { on := 1, ground := Go.Ground.phase }, { on := 2, ground := Go.Ground.phase }, { on := 3, ground := Go.Ground.phase }, { on := 4, ground := Go.Ground.phase }, { on := 5, ground := Go.Ground.phase }, { on := 6, ground := Go.Ground.phase }, { on := 7, ground := Go.Ground.phase }], guard := none }) rfl (fun K hK => ?_) AllReadyH.nil
                    go_simp
                    go_wp2_with fail
                    refine hK.out _ _ ⟨(cell_set HKP.out).trans c0, (cell_set HKP.out).trans c1, (cell_set HKP.out).trans c2, (cell_set HKP.out).trans c3⟩ (fun hHeldZ => ?_)
                    clear hK K c0 c1 c2 c3 p2 p3
                    refine wpAnyH_done (by kernel_rfl) ?_ _
                    generalize w'.setCell ⟨w.heap.size + 1, 2, none⟩ (.slice va' vn' vc') = V9 at *
                    go_wp2_with (fail)
                    go_roundw
                    case rel => exact ⟨i + 1, by omega, by go_num, hid ⟨_, _, NX.out, by rw [List.map_append, HFS.out, List.range_succ, List.map_append]; exact congrArg (fun z => _ ++ [z]) (HRW.out.trans HFB.out).symm⟩⟩
                    case measure => simp [intOf]; omega
    · have hlt' : ¬ (i : Int) < (now.length : Int) := by omega
      obtain rfl : i = now.length := by omega
      have HPG : Hid (fs.map (·.1) = (ofP now ago).flows) := hid HFS.out
      obtain ⟨va', vn', vc', rfl⟩ := own_shape YK.out.own
      obtain ⟨q0, q1, q2, q3⟩ := YK.out.cells
      go_wp2_with (refine wpList_store_row rfl 26 _ _ rfl w.heap.size #[.int .i64 1, .slice none 0 0, .slice va' vn' vc', .slice none 0 0] rfl rfl 26 _ YK.out.res info26 rfl (by simp [Value.oneCell']) ?_)
      have HD := hid (YK.out.done (by rw [HFL.out]; omega) #[.int .i64 1, .slice none 0 0, .slice va' vn' vc', .slice none 0 0])
      refine bodyPost_ret (results_cell_row rfl _ _ w.heap.size 26 #[.int .i64 1, .slice none 0 0, .slice va' vn' vc', .slice none 0 0] (0, 0) _ rfl (setRow_heap _ _ _ _ _ _ YK.out.res) Tryd.underlying26 rfl info26) rfl ⟨_, rfl, ⟨?_, ?_, ?_, ?_⟩, HD.out.2⟩
      · exact ⟨by show (-9223372036854775808 : Int) ≤ 1; omega, by show (1 : Int) ≤ _; omega⟩
      · exact ⟨none, 0, rfl, by show (0 : Nat) ≤ _; omega, Nat.le_refl _, (fun x hx => by cases hx), .inl rfl⟩
      · rw [← HPG.out]; exact HD.out.1
      · exact ⟨none, 0, rfl, by show (0 : Nat) ≤ _; omega, Nat.le_refl _, (fun x hx => by cases hx), .inl rfl⟩
end Go.Proofs.YtjdlmhkfaodkgaaDoor.Lex
namespace Go.Proofs.YtjdlmhkfaodkgaaDoor.Lex
open Go.RowKit
/-- All blocks lie as they lay, but some. -/
structure Buts (own : Nat → Prop) (W W' : World) : Prop where
  size : W.heap.size ≤ W'.heap.size
  same : ∀ b, b < W.heap.size → ¬ own b → W'.heap[b]? = W.heap[b]?
theorem Buts.refl (own : Nat → Prop) (W : World) : Buts own W W := ⟨Nat.le_refl _, fun _ _ _ => rfl⟩
theorem Buts.trans {own : Nat → Prop} {A B C : World} (h : Buts own A B) (k : Buts own B C) : Buts own A C :=
  ⟨Nat.le_trans h.size k.size, fun b hb hn => (k.same b (Nat.lt_of_lt_of_le hb h.size) hn).trans (h.same b hb hn)⟩
theorem Buts.mono {own own' : Nat → Prop} {A B : World} (h : Buts own A B) (hi : ∀ b, own b → own' b) : Buts own' A B := ⟨h.size, fun b hb hn => h.same b hb (fun ho => hn (hi b ho))⟩
theorem Buts.below {own : Nat → Prop} {A B : World} (h : Below A.heap.size A B) : Buts own A B := ⟨h.size, fun b hb _ => h.block b hb⟩
theorem Buts.put {own : Nat → Prop} (W : World) (r : Nat) (o : Obj) (h : own r) : Buts own W (W.putObj r o) := ⟨by simp, fun b _ hn => World.putObj_heap_other (fun e => hn (by rw [e]; exact h))⟩
/-- It speaks of blocks up to one alone. -/
def Low {β : Type} (B : Nat) (J : β → World → Prop) : Prop := ∀ s A C, J s A → Below B A C → J s C
/-- What a function promises that has memory of its own: it turns that alone; each round leaves as they were the blocks that are kept, and all that were laid since it began. -/
def SeqOwn {α : Type} (F : Fence) (n : Nat) (P : Program) (g : Nat) (lb : Array Value) (encs : α → Array Value) (kept : Nat → Prop) (S Sp : List α → Prop) (N : Nat) (w : World) : Prop :=
  ∀ (l : Nat) (J Jx : List α → World → Prop) (W : World), Below w.heap.size w W → Low W.heap.size J → Low W.heap.size Jx →
    (∀ pre x W1, J pre W1 → pre.length < N → Sp (pre ++ [x]) → YieldAt F (n - 1) P l (encs x) W1 fun e W' =>
      (e = .returned (.bool true) ∧ J (pre ++ [x]) W' ∧ Buts (fun b => b < W.heap.size ∧ ¬ kept b) W1 W') ∨ (e = .returned (.bool false) ∧ Jx (pre ++ [x]) W')) →
    J [] W →
    CallsIn F n P g (#[.func (.yield l) #[] #[]] ++ lb) W fun e W' => (∃ v, e = .returned v) ∧ ((∃ xs, S xs ∧ J xs W') ∨ (∃ pre, Sp pre ∧ Jx pre W'))
/-- How the body may be left. -/
def leftBy {α : Type} (own : Nat → Prop) (I : List α → World → Prop) (Ix : Code → List α → World → Prop) (xs : List α) (W : World) : Exit → Act → World → Prop
  | .normal, _, W' => Buts own W W' ∧ I xs W'
  | .ret, _, W' => Buts own W W' ∧ Ix .ret xs W'
  | .exit id, _, W' => Buts own W W' ∧ Ix (.exit id) xs W'
  | .goto t, _, W' => Buts own W W' ∧ Ix (.goto t) xs W'
  | .panic _, _, _ => False
  | .outgrown, _, _ => False
variable {F : Fence} {n : Nat} {P : Program}
theorem range_own {α : Type} {g : Operand} {ps : Array Tmp} {assign body : Code} {Q : Exit → Act → World → Prop} {a : Act} {w : World}
    (hro : F.round = none) (h1 : 1 ≤ n) {gf : Nat} {lb : Array Value} (hg : a.eval g = .func (.func gf) #[] lb) (hFg : F.fn gf) (eg : ∀ args w, (callFunc gf args).run P w = .ok (.enter gf args) w)
    {encs : α → Array Value} {kept own : Nat → Prop} {S Sp : List α → Prop} {N : Nat} {w0 : World} (hseq : SeqOwn F (n - 1) P gf lb encs kept S Sp N w0) (hb0 : Below w0.heap.size w0 w) (hps : ∀ x, (encs x).size = ps.size)
    (hown : ∀ b, own b → b < w.heap.size ∧ ¬ kept b) (hkept : ∀ b, kept b → b < w.heap.size)
    (I : List α → World → Prop) (Ix : Code → List α → World → Prop) (hI : Low w.heap.size I) (hIx : ∀ c, Low w.heap.size (Ix c)) (h0 : I [] w) (a₁ : α → Act)
    (hassign : ∀ (l : Nat) (x : α) (W : World) (K : Act → World → Prop), K (a₁ x) W →
      assign.wpIn (F.inRound l) (n - 1 - 1) P (Exit.then K (fun _ _ _ => False)) { tmps := (ps.zip (encs x)).foldl (fun t (p, v) => t.setIfInBounds p v) a.tmps, defers := [] } W)
    (hbody : ∀ (l : Nat) (pre : List α) (x : α) (W : World), w.heap.size + 2 ≤ W.heap.size → I pre W → pre.length < N → Sp (pre ++ [x]) → body.wpIn (F.inRound l) (n - 1 - 1) P (leftBy own I Ix (pre ++ [x]) W) (a₁ x) W)
    (hdone : ∀ (D : Nat) (xs : List α) (W : World), w.heap.size ≤ D → S xs → I xs W → W.heap[D]? = some (.deferred (some [])) → Q .normal { a with defers := { target := .collected D, args := #[] } :: a.defers } W)
    (hstop : ∀ (D : Nat) (c : Code) (pre : List α) (W : World), w.heap.size ≤ D → Sp pre → Ix c pre W → W.heap[D]? = some (.deferred (some [])) → c.wpIn F n P Q { a with defers := { target := .collected D, args := #[] } :: a.defers } W) :
    (Code.rangeFunc g ps assign body).wpIn F n P Q a w := by
  refine wpIn_rangeFunc fun fn hfn => ?_
  rw [hro]
  have hmk : ∃ mk : LoopState → Option Code → Obj, mk = fun st pe => .loop { state := st, pending := pe, fn := fn, tmps := a.tmps, params := ps, assign := assign, body := body, defers := w.heap.size } := ⟨_, rfl⟩
  obtain ⟨mk, hmk⟩ := hmk
  have hV : ∃ V, V = (w.alloc (.deferred (some []))).alloc (mk .ready none) := ⟨_, rfl⟩
  obtain ⟨V, hV⟩ := hV
  have sV : V.heap.size = w.heap.size + 2 := by rw [hV]; simp
  have bV : Below w.heap.size w V := by rw [hV]; exact ((Below.refl _ w).alloc (Nat.le_refl _) _).alloc (by simp) _
  have dV : V.heap[w.heap.size]? = some (.deferred (some [])) := by rw [hV]; exact (Below.heap_alloc _ _ _ (by simp)).trans (World.alloc_heap_new w _)
  have lV : V.heap[w.heap.size + 1]? = some (mk .ready none) := by
    have := World.alloc_heap_new (w.alloc (.deferred (some []))) (mk .ready none)
    rw [hV]
    rwa [World.size_alloc] at this
  refine ⟨w.heap.size + 1, [{ target := .collected w.heap.size, args := #[] }], V, { target := .fn (.func gf) lb, args := #[.func (.yield (w.heap.size + 1)) #[] #[]] }, V, gf, #[.func (.yield (w.heap.size + 1)) #[] #[]] ++ lb, V, ?_, ?_, ?_, ?_, fun _ => h1, ?_⟩
  · rw [hV, hmk]; exact run_enterLoop_outer _ _ _ _ _
  · simp only [resolve, hg]
    simp [go_sem]
  · intro f' hf'
    simp [Target.leads] at hf'
    subst hf'
    exact hFg
  · simp [invoke, go_sem, eg]
  have lowP : ∀ {β : Type} {J : β → World → Prop} (_ : Low w.heap.size J) (s : β) (W : World) (r : Nat) (o : Obj), w.heap.size ≤ r → J s W → J s (W.putObj r o) := fun hJ s W r o hr h => hJ s W _ h ⟨rfl, rfl, rfl, by simp, fun b hb => World.putObj_heap_other (by omega)⟩
  refine (hseq (w.heap.size + 1) (fun pre W => I pre W ∧ W.heap[w.heap.size + 1]? = some (mk .ready none) ∧ W.heap[w.heap.size]? = some (.deferred (some [])))
    (fun pre W => ∃ c, Ix c pre W ∧ W.heap[w.heap.size + 1]? = some (mk .done (some c)) ∧ W.heap[w.heap.size]? = some (.deferred (some []))) V (hb0.trans (bV.mono hb0.size)) ?_ ?_ ?_ ⟨hI [] w V h0 bV, lV, dV⟩).mono ?_
  · rintro s A C ⟨x1, x2, x3⟩ hb
    exact ⟨hI s A C x1 (hb.mono (by omega)), (hb.block _ (by omega)).trans x2, (hb.block _ (by omega)).trans x3⟩
  · rintro s A C ⟨c, x1, x2, x3⟩ hb
    exact ⟨c, hIx c s A C x1 (hb.mono (by omega)), (hb.block _ (by omega)).trans x2, (hb.block _ (by omega)).trans x3⟩
  · rintro pre x W ⟨hi, hl, hk⟩ hlen hsp
    have hlt : w.heap.size + 1 < W.heap.size := (Array.getElem?_eq_some_iff.1 hl).1
    have hl' := hl
    rw [hmk] at hl'
    refine ⟨fn, _, assign, body, run_yield hl' (hps x), roundIn_of_wpIn hfn (hassign _ x W _ ?_)⟩
    refine ⟨_, run_beginRound hl' rfl, ?_⟩
    have hm2 : ∃ busy : Obj, busy = .loop { state := .busy, pending := none, fn := fn, tmps := a.tmps, params := ps, assign := assign, body := body, defers := w.heap.size } := ⟨_, rfl⟩
    obtain ⟨busy, hbusy⟩ := hm2
    show body.wpIn _ _ P _ _ (W.putObj (w.heap.size + 1) (.loop { state := .busy, pending := none, fn := fn, tmps := a.tmps, params := ps, assign := assign, body := body, defers := w.heap.size }))
    rw [← hbusy]
    refine wpIn_mono (hbody _ pre x (W.putObj (w.heap.size + 1) busy) (by simp; omega) (lowP hI _ _ _ _ (by omega) hi) hlen hsp) ?_
    have hno : ¬ own (w.heap.size + 1) := fun ho => by have := (hown _ ho).1; omega
    have hno' : ¬ own w.heap.size := fun ho => by have := (hown _ ho).1; omega
    have fin : ∀ (jump : Option Code) (W3 : World), Buts own (W.putObj (w.heap.size + 1) busy) W3 →
        (Instr.endRound (w.heap.size + 1) jump).run P W3 = .ok (.bool jump.isNone) (W3.putObj (w.heap.size + 1) (mk (if jump.isNone then .ready else .done) jump)) ∧
        (W3.putObj (w.heap.size + 1) (mk (if jump.isNone then .ready else .done) jump)).heap[w.heap.size + 1]? = some (mk (if jump.isNone then .ready else .done) jump) ∧
        (W3.putObj (w.heap.size + 1) (mk (if jump.isNone then .ready else .done) jump)).heap[w.heap.size]? = some (.deferred (some [])) := fun jump W3 hk3 => by
      have e1 : W3.heap[w.heap.size + 1]? = some busy := (hk3.same _ (by simp; omega) hno).trans (World.putObj_heap_same hlt)
      have e2 : W3.heap[w.heap.size]? = some (.deferred (some [])) := (hk3.same _ (by simp; omega) hno').trans ((World.putObj_heap_other (by omega)).trans hk)
      have hr := e1
      rw [hbusy] at hr
      refine ⟨?_, World.putObj_heap_same (Array.getElem?_eq_some_iff.1 e1).1, (World.putObj_heap_other (by omega)).trans e2⟩
      rw [hmk]
      exact run_endRound jump hr
    rintro e a3 W3 hp
    cases e with
    | normal =>
      obtain ⟨hk3, hi3⟩ := hp
      obtain ⟨hr, hl4, hk4⟩ := fin none W3 hk3
      refine ⟨_, _, hr, .inl ⟨rfl, ⟨lowP hI _ _ _ _ (by omega) hi3, hl4, hk4⟩, ?_⟩⟩
      have hk1 : ¬ kept (w.heap.size + 1) := fun hk => by have := hkept _ hk; omega
      refine ((Buts.put W (w.heap.size + 1) busy ?_).trans (hk3.mono fun b hb => ?_)).trans (Buts.put W3 _ _ ?_)
      · exact ⟨by omega, hk1⟩
      · have := hown b hb; exact ⟨by omega, this.2⟩
      · exact ⟨by omega, hk1⟩
    | ret =>
      obtain ⟨hk3, hi3⟩ := hp
      obtain ⟨hr, hl4, hk4⟩ := fin (some .ret) W3 hk3
      exact ⟨_, _, hr, .inr ⟨rfl, .ret, lowP (hIx _) _ _ _ _ (by omega) hi3, hl4, hk4⟩⟩
    | exit id =>
      obtain ⟨hk3, hi3⟩ := hp
      obtain ⟨hr, hl4, hk4⟩ := fin (some (.exit id)) W3 hk3
      exact ⟨_, _, hr, .inr ⟨rfl, .exit id, lowP (hIx _) _ _ _ _ (by omega) hi3, hl4, hk4⟩⟩
    | goto t =>
      obtain ⟨hk3, hi3⟩ := hp
      obtain ⟨hr, hl4, hk4⟩ := fin (some (.goto t)) W3 hk3
      exact ⟨_, _, hr, .inr ⟨rfl, .goto t, lowP (hIx _) _ _ _ _ (by omega) hi3, hl4, hk4⟩⟩
    | panic ch => exact hp.elim
    | outgrown => exact hp.elim
  · rintro e W2 ⟨⟨v, rfl⟩, ⟨xs, hS, hi, hl, hk⟩ | ⟨pre, hSp, c, hi, hl, hk⟩⟩
    · rw [hmk] at hl
      exact ⟨none, _, run_endLoop hl (by simp), hdone _ xs _ (Nat.le_refl _) hS (lowP hI _ _ _ _ (by omega) hi) ((World.putObj_heap_other (by omega)).trans hk)⟩
    · rw [hmk] at hl
      exact ⟨some c, _, run_endLoop hl (by simp), hstop _ c pre _ (Nat.le_refl _) hSp (lowP (hIx c) _ _ _ _ (by omega) hi) ((World.putObj_heap_other (by omega)).trans hk)⟩
end Go.Proofs.YtjdlmhkfaodkgaaDoor.Lex
