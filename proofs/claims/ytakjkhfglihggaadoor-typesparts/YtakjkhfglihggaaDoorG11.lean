/-
  The document's of: the contract that its Of and Check ask for.
-/
import Derived.Test.YtakjkhfglihggaaDoorG10
import Derived.Deep.AppendLies
namespace Go.Proofs.YtakjkhfglihggaaDoor.Lex
open Go.ChangeShapes Go.WideShapes Go.ChangeAt Go.RowKit Go.Joins
theorem com_snoc (l : List Nat) (t : Nat) (h : 0 < l.length) : com (l ++ [t]) = if t = com l then com l else 0 := by
  obtain ⟨a, l, rfl⟩ : ∃ a l', l = a :: l' := by cases l with | nil => simp at h | cons a l => exact ⟨a, l, rfl⟩
  have e : com (a :: l ++ [t]) = if (l.all (fun t => t == a) && t == a) = true then a else 0 := by unfold com; simp [List.all_append]
  have e2 : com (a :: l) = if l.all (fun t => t == a) = true then a else 0 := by unfold com; simp
  rw [e, e2]
  cases hl : l.all (fun t => t == a) with
  | true =>
    by_cases ht : t = a
    · simp [ht]
    · simp [ht]
  | false => simp
theorem YL.shape {w1 W : World} {l : List Nat} {v : Value} (h : YL w1 l v W) : ∃ va vc, v = .slice va l.length vc := by
  rcases h.own.2 with ⟨e, e0⟩ | ⟨g, gc, cur, e, _⟩
  · exact ⟨none, 0, by rw [e, e0]⟩
  · exact ⟨_, _, e⟩
theorem ok_op {d : Nat} {x : Ex} (h : okD (d + 1) x) : 1 ≤ x.op ∧ x.op ≤ 19 := by
  by_cases h1 : x.op = 1
  · omega
  by_cases h2 : x.op = 2
  · omega
  by_cases h3 : x.op = 3
  · omega
  have := ok_parts h.1 h1 h2 h3
  omega
set_option maxRecDepth 100000 in
set_option maxHeartbeats 8000000 in
theorem rof_any (p : Pg) (d : Nat) (ih : ∀ x, okD d x → RTyC p x) (x : Ex) (hx : okD (d + 1) x) : RTyC p x := by
  intro w s A B C hP hS
  obtain ⟨ao, cap, sl, rfl, hop, hn, hnm, hlen, _, hc, hs⟩ := hS.out
  have HS := hid hs
  have HC := hid hc
  have HI := hid (fun i (hi : i < x.args.length) => ih x.args[i] (hx.2 _ (List.getElem_mem hi)))
  have HF := hid hx.1
  have HO := hid (ok_op hx)
  have HLN := hid hlen
  have B2 := hid (bstep ((Below.refl w.heap.size w).alloc (Nat.le_refl _) (.cells (pgC p A B C) 26)) ((Below.refl _ _).alloc (Nat.le_refl _) (.cells #[.int .u8 (x.op : Int), .int .i64 x.n, .string x.name, .slice ao x.args.length cap] 30)))
  have HP := hid hP
  have RP := hid (show ((w.alloc (.cells (pgC p A B C) 26)).alloc (.cells #[.int .u8 (x.op : Int), .int .i64 x.n, .string x.name, .slice ao x.args.length cap] 30)).heap[w.heap.size]? = some (.cells (pgC p A B C) 26 (0, 0)) from push_old (push_new _ _ _ rfl))
  have RX := hid (show ((w.alloc (.cells (pgC p A B C) 26)).alloc (.cells #[.int .u8 (x.op : Int), .int .i64 x.n, .string x.name, .slice ao x.args.length cap] 30)).heap[w.heap.size + 1]? = some (.cells #[.int .u8 (x.op : Int), .int .i64 x.n, .string x.name, .slice ao x.args.length cap] 30 (0, 0)) from push_new _ _ _ (by simp))
  obtain ⟨i0, hi, hz0, hz1, hz2⟩ := info_parts inf35
  clear hs hc ih hx hS hP hop hn hnm hlen
  go_enter Tryd.func36, Tryd.ntmps36
  go_wp2_with (fail)
  generalize ((w.alloc (.cells (pgC p A B C) 26)).alloc (.cells #[.int .u8 (x.op : Int), .int .i64 x.n, .string x.name, .slice ao x.args.length cap] 30)) = W2 at *
  have R0 := (cell_of_row W2 w.heap.size 0 _ 26 (0, 0) RP.out).trans (show _ = some (.int .i64 p.st) from rfl)
  have R1 := (cell_of_row W2 w.heap.size 1 _ 26 (0, 0) RP.out).trans (show _ = some A from rfl)
  have R2 := (cell_of_row W2 w.heap.size 2 _ 26 (0, 0) RP.out).trans (show _ = some B from rfl)
  have R3 := (cell_of_row W2 w.heap.size 3 _ 26 (0, 0) RP.out).trans (show _ = some C from rfl)
  have Q0 := (cell_of_row W2 (w.heap.size + 1) 0 _ 30 (0, 0) RX.out).trans (show _ = some (.int .u8 (x.op : Int)) from rfl)
  have Q2 := (cell_of_row W2 (w.heap.size + 1) 2 _ 30 (0, 0) RX.out).trans (show _ = some (.string x.name) from rfl)
  have Q3 := (cell_of_row W2 (w.heap.size + 1) 3 _ 30 (0, 0) RX.out).trans (show _ = some (.slice ao x.args.length cap) from rfl)
  clear RP RX
  go_loopw [5, 6] (fun v i wr => ∃ k : Nat, k ≤ x.args.length ∧ i = .int .i64 (k : Int) ∧ Hid (YL W2 ((x.args.take k).map (tyE p)) v wr)) (fun _ i _ => x.args.length - (intOf i).toNat)
  case atStart => exact ⟨0, Nat.zero_le _, rfl, hid (by simpa using YL.start W2)⟩
  case round =>
    obtain ⟨k, hk, rfl, HY⟩ := hrel
    by_cases hlt : k < x.args.length
    · have hlt' : (k : Int) < (x.args.length : Int) := by omega
      have hk0 : (0 : Int) ≤ (k : Int) := by omega
      have hln := HLN.out
      obtain ⟨bb, o, rfl, hc⟩ := HC.out.resolve_left (by omega)
      obtain ⟨g0, g1, g2, g3⟩ := hc k hlt
      have Y0 := cell_kept g0 B2.out
      have Y1 := cell_kept g1 B2.out
      have Y2 := cell_kept g2 B2.out
      have Y3 := cell_kept g3 B2.out
      obtain ⟨a4, c4, _, e4, _⟩ := (HS.out k hlt).out
      rw [e4] at Y3
      have HT : Hid ((x.args.take (k + 1)).map (tyE p) = (x.args.take k).map (tyE p) ++ [tyE p x.args[k]]) := hid (by rw [List.take_succ_eq_append_getElem hlt, List.map_append]; rfl)
      have hll : ((x.args.take k).map (tyE p)).length ≤ 2513169434843 := by have := HLN.out; simp; omega
      have HST := hid (e4 ▸ HS.out k hlt)
      have HIK := hid (HI.out k hlt)
      have HBW := hid (bstep B2.out HY.out.below)
      have q3 := cell_kept Q3 HY.out.below
      clear g0 g1 g2 g3 hc e4
      generalize x.args[k] = y at *
      have c36 := HIK.out wr.drew _ A B C ((HP.out.keep HBW.out).keep (Below.refl _ _).drew) ((HST.out.keep HBW.out).keep (Below.refl _ _).drew)
      generalize tyE p y = ty at *
      generalize (x.args.take k).map (tyE p) = ll at *
      have hmx : ll.length + 1 ≤ maxLen := by unfold maxLen; omega
      go_wp2_with (fail)
      refine wp_region_held_drew (S := fun W => W.cell? ⟨w.heap.size, 0, none⟩ = some (.int .i64 p.st) ∧ W.cell? ⟨w.heap.size, 1, none⟩ = some (A) ∧ W.cell? ⟨w.heap.size, 2, none⟩ = some (B) ∧ W.cell? ⟨w.heap.size, 3, none⟩ = some (C) ∧ W.cell? ⟨w.heap.size + 1, 3, none⟩ = some (.slice (some ⟨bb, o, none⟩) x.args.length cap) ∧ W.cell? ⟨bb, o + k * 4, none⟩ = some (.int .u8 (y.op : Int)) ∧ W.cell? ⟨bb, o + k * 4 + 1, none⟩ = some (.int .i64 y.n) ∧ W.cell? ⟨bb, o + k * 4 + 2, none⟩ = some (.string y.name) ∧ W.cell? ⟨bb, o + k * 4 + 3, none⟩ = some (.slice a4 y.args.length c4)) (by kernel_rfl) ?_ (fun hHeld => ?_)
      · exact ⟨cell_kept R0 HY.out.below.drew, cell_kept R1 HY.out.below.drew, cell_kept R2 HY.out.below.drew, cell_kept R3 HY.out.below.drew, cell_kept Q3 HY.out.below.drew, cell_kept Y0 HY.out.below.drew, cell_kept Y1 HY.out.below.drew, cell_kept Y2 HY.out.below.drew, cell_kept Y3 HY.out.below.drew⟩
      refine wpAnyH_take (i := 0) (oi := { dst := some 20, op := Go.Op.move (Go.Operand.tmp 5), type := 45, pos := _, after := #[], guard := none }) (v := ?_) rfl (by kernel_rfl) (by kernel_rfl) (by kernel_rfl) (fun _ _ _ h => h) (Or.inl ⟨by rfl, ?_⟩) (by assumption) ?_
      rotate_left
      · intro w hSw; (try dsimp only at hSw); go_simp <;> first | with_reducible rfl | (rw [if_neg (by first | omega | (simp only [ByteArray.size_append] at *; omega))])
      simp only [Act.put, List.setIfInBounds_toArray, List.set_cons_zero, List.set_cons_succ]
      refine wpAnyH_take (i := 1) (oi := { dst := some 21, op := Go.Op.load 26 (Go.Operand.tmp 2), type := 26, pos := _, after := #[], guard := none }) (v := ?_) rfl (by kernel_rfl) (by kernel_rfl) (by kernel_rfl) (fun _ _ _ h => h) (Or.inl ⟨by rfl, ?_⟩) (by assumption) ?_
      rotate_left
      · intro w hSw; (try dsimp only at hSw); go_simp <;> first | with_reducible rfl | (rw [if_neg (by first | omega | (simp only [ByteArray.size_append] at *; omega))])
      simp only [Act.put, List.setIfInBounds_toArray, List.set_cons_zero, List.set_cons_succ]
      refine wpAnyH_take (i := 2) (oi := { dst := some 22, op := Go.Op.fieldAddr 30 (Go.Operand.tmp 3) 3, type := 0, pos := _, after := #[], guard := none }) (v := ?_) rfl (by kernel_rfl) (by kernel_rfl) (by kernel_rfl) (fun _ _ _ h => h) (Or.inl ⟨by rfl, ?_⟩) (by assumption) ?_
      rotate_left
      · intro w hSw; (try dsimp only at hSw); go_simp <;> first | with_reducible rfl | (rw [if_neg (by first | omega | (simp only [ByteArray.size_append] at *; omega))])
      simp only [Act.put, List.setIfInBounds_toArray, List.set_cons_zero, List.set_cons_succ]
      refine wpAnyH_take (i := 3) (oi := { dst := some 23, op := Go.Op.load 28 (Go.Operand.tmp 22), type := 28, pos := _, after := #[{ on := 2, ground := Go.Ground.data }], guard := none }) (v := ?_) rfl (by kernel_rfl) (by kernel_rfl) (by kernel_rfl) (fun _ _ _ h => h) (Or.inl ⟨by rfl, ?_⟩) (by assumption) ?_
      rotate_left
      · intro w hSw; (try dsimp only at hSw); go_simp <;> first | with_reducible rfl | (rw [if_neg (by first | omega | (simp only [ByteArray.size_append] at *; omega))])
      simp only [Act.put, List.setIfInBounds_toArray, List.set_cons_zero, List.set_cons_succ]
      refine wpAnyH_take (i := 4) (oi := { dst := some 24, op := Go.Op.move (Go.Operand.tmp 6), type := 3, pos := _, after := #[], guard := none }) (v := ?_) rfl (by kernel_rfl) (by kernel_rfl) (by kernel_rfl) (fun _ _ _ h => h) (Or.inl ⟨by rfl, ?_⟩) (by assumption) ?_
      rotate_left
      · intro w hSw; (try dsimp only at hSw); go_simp <;> first | with_reducible rfl | (rw [if_neg (by first | omega | (simp only [ByteArray.size_append] at *; omega))])
      simp only [Act.put, List.setIfInBounds_toArray, List.set_cons_zero, List.set_cons_succ]
      refine wpAnyH_take (i := 5) (oi := { dst := some 25, op := Go.Op.indexAddr 28 (Go.Operand.tmp 23) (Go.Operand.tmp 24), type := 0, pos := _, after := #[{ on := 3, ground := Go.Ground.data }, { on := 4, ground := Go.Ground.data }], guard := none }) (v := ?_) rfl (by kernel_rfl) (by kernel_rfl) (by kernel_rfl) (fun _ _ _ h => h) (Or.inl ⟨by rfl, ?_⟩) (by assumption) ?_
      rotate_left
      · intro w hSw; (try dsimp only at hSw); go_simp <;> first | with_reducible rfl | (rw [if_neg (by first | omega | (simp only [ByteArray.size_append] at *; omega))])
      simp only [Act.put, List.setIfInBounds_toArray, List.set_cons_zero, List.set_cons_succ]
      refine wpAnyH_take (i := 6) (oi := { dst := some 26, op := Go.Op.load 30 (Go.Operand.tmp 25), type := 30, pos := _, after := #[{ on := 5, ground := Go.Ground.data }], guard := none }) (v := ?_) rfl (by kernel_rfl) (by kernel_rfl) (by kernel_rfl) (fun _ _ _ h => h) (Or.inl ⟨by rfl, ?_⟩) (by assumption) ?_
      rotate_left
      · intro w hSw; (try dsimp only at hSw); go_simp <;> first | with_reducible rfl | (rw [if_neg (by first | omega | (simp only [ByteArray.size_append] at *; omega))])
      simp only [Act.put, List.setIfInBounds_toArray, List.set_cons_zero, List.set_cons_succ]
      refine wpAnyH_ready (rs := [7]) (by kernel_rfl) (by simp) ?_
      refine AllReadyH.cons (o := { dst := some 27, op := Go.Op.call { callee := Go.Callee.value (Go.Operand.func 36), args := #[Go.Operand.tmp 21, Go.Operand.tmp 26], argTypes := #[26, 30] }, type := 35, pos := _, after := #[{ on := 1, ground := Go.Ground.data }, { on := 6, ground := Go.Ground.data }], guard := none }) rfl (fun K hK => ?_) AllReadyH.nil
      go_simp
      refine c36.mono ?_
      rintro e w3 ⟨rfl, hb3'⟩
      have hb3 : Below wr.heap.size wr w3 := (Below.refl _ _).drew.trans (hb3'.mono (by simp))
      have YY3 := hid (HY.out.keep hb3)
      go_wp2_with fail
      refine hK.out _ _ ?_ (fun hHeld1 => ?_)
      · exact ⟨cell_kept R0 YY3.out.below, cell_kept R1 YY3.out.below, cell_kept R2 YY3.out.below, cell_kept R3 YY3.out.below, cell_kept Q3 YY3.out.below, cell_kept Y0 YY3.out.below, cell_kept Y1 YY3.out.below, cell_kept Y2 YY3.out.below, cell_kept Y3 YY3.out.below⟩
      clear hK K
      have N2 := hid (YY3.out.keep ((Below.refl w3.heap.size w3).alloc (Nat.le_refl _) (.cells #[.int .u8 (ty : Int)] 35)))
      have W5 := hid (next_cells w3 [.int .u8 (ty : Int)] 35)
      refine wpAnyH_ready (rs := [8]) (by kernel_rfl) (by simp) ?_
      refine AllReadyH.cons (o := { dst := some 28, op := Go.Op.buildSlice 45 1 #[(0, Go.Operand.tmp 27)], type := 45, pos := _, after := #[{ on := 7, ground := Go.Ground.data }], guard := none }) rfl (fun K hK => ?_) AllReadyH.nil
      go_simp
      go_wp2_with fail
      refine hK.out _ _ ?_ (fun hHeld2 => ?_)
      · exact ⟨cell_kept R0 N2.out.below, cell_kept R1 N2.out.below, cell_kept R2 N2.out.below, cell_kept R3 N2.out.below, cell_kept Q3 N2.out.below, cell_kept Y0 N2.out.below, cell_kept Y1 N2.out.below, cell_kept Y2 N2.out.below, cell_kept Y3 N2.out.below⟩
      clear hK K
      refine wpAnyH_ready (rs := [9]) (by kernel_rfl) (by simp) ?_
      refine AllReadyH.cons (o := { dst := some 29, op := Go.Op.call { callee := Go.Callee.builtin Go.Builtin.append, args := #[Go.Operand.tmp 20, Go.Operand.tmp 28], argTypes := #[45, 45] }, type := 45, pos := _, after := #[{ on := 0, ground := Go.Ground.data }, { on := 8, ground := Go.Ground.data }, { on := 7, ground := Go.Ground.chain }], guard := none }) rfl (fun K hK => ?_) AllReadyH.nil
      refine step_append_lies _ (by rfl) _ _ _ (by rfl) W2.heap.size 35 i0 _ 1 1 Tryd.underlying45 hi hz0 hz1 hz2 rfl (by decide) _ _ _ (by rfl) N2.out.own ⟨w3.heap.size, 0, none⟩ 1 1 [.int .u8 (ty : Int)] (by rfl) (by rfl) W5.out (by simp [Value.oneCell']) (by omega) hmx (by omega) N2.out.below.size (w3.heap.size + 1) (by simp) ?_
      intro g5 cap5 w6 hown6 hgrow6 _ _
      have N3 := hid (N2.out.grow hown6 hgrow6)
      clear hown6 hgrow6
      refine hK.out _ _ ?_ (fun hHeld3 => ?_)
      · exact ⟨cell_kept R0 N3.out.below, cell_kept R1 N3.out.below, cell_kept R2 N3.out.below, cell_kept R3 N3.out.below, cell_kept Q3 N3.out.below, cell_kept Y0 N3.out.below, cell_kept Y1 N3.out.below, cell_kept Y2 N3.out.below, cell_kept Y3 N3.out.below⟩
      clear hK K
      refine wpAnyH_take (i := 10) (oi := { dst := some 5, op := Go.Op.assign (Go.Operand.tmp 29), type := 45, pos := _, after := #[{ on := 9, ground := Go.Ground.data }, { on := 9, ground := Go.Ground.chain }, { on := 0, ground := Go.Ground.phase }, { on := 1, ground := Go.Ground.phase }, { on := 2, ground := Go.Ground.phase }, { on := 3, ground := Go.Ground.phase }, { on := 4, ground := Go.Ground.phase }, { on := 5, ground := Go.Ground.phase }, { on := 6, ground := Go.Ground.phase }, { on := 7, ground := Go.Ground.phase }, { on := 8, ground := Go.Ground.phase }, { on := 9, ground := Go.Ground.phase }], guard := none }) (v := ?_) rfl (by kernel_rfl) (by kernel_rfl) (by kernel_rfl) (fun _ _ _ h => h) (Or.inl ⟨by rfl, ?_⟩) (by assumption) ?_
      rotate_left
      · intro w hSw; (try dsimp only at hSw); go_simp <;> first | with_reducible rfl | (rw [if_neg (by omega)])
      simp only [Act.put, List.setIfInBounds_toArray, List.set_cons_zero, List.set_cons_succ]
      refine wpAnyH_done (by kernel_rfl) ?_ _
      go_wp2_with (fail)
      go_roundw
      case rel => exact ⟨k + 1, by omega, by go_num, hid (by rw [HT.out]; exact N3.out)⟩
      case measure => simp [intOf]; omega
    · have hlt' : ¬ (k : Int) < (x.args.length : Int) := by omega
      obtain rfl : k = x.args.length := by omega
      have HTS : Hid (x.args.map (tyE p) = (x.args.take x.args.length).map (tyE p)) := hid (by rw [List.take_length])
      have HTL : Hid (((x.args.take x.args.length).map (tyE p)).length = x.args.length) := hid (by simp)
      have q3 := cell_kept Q3 HY.out.below
      have HLL : ((x.args.take x.args.length).map (tyE p)).length ≤ 2513169434843 := by rw [HTL.out]; exact HLN.out
      have HVV := HY.out.shape
      have HAT := hid (fun h => HY.out.at h)
      clear hk hlt
      generalize (x.args.take x.args.length).map (tyE p) = ts at *
      obtain ⟨va, vc, rfl⟩ := HVV
      by_cases h0 : 0 < ts.length
      · have h0' : (0 : Int) < (ts.length : Int) := by omega
        obtain ⟨g, gc, e, hgc, hty⟩ := HAT.out h0
        injection e with e1 e2 e3
        subst e1
        have z0 := hty 0 h0
        rw [Nat.add_zero] at z0
        have HTY := hid hty
        have hc1 : Hid (com (ts.take 1) = ts[0]) := hid (by
          cases ts with
          | nil => simp at h0
          | cons a l => simp [com])
        clear hty hgc e2 e3
        rw [← hc1.out] at z0
        clear hc1
        go_wp2_with (fail)
        go_loopw [7, 8] (fun a i wr' => ∃ k : Nat, 1 ≤ k ∧ k ≤ ts.length ∧ i = .int .i64 (k : Int) ∧ a = .int .u8 (com (ts.take k) : Int) ∧ wr' = wr) (fun _ i _ => ts.length - (intOf i).toNat)
        case atStart => exact ⟨1, by omega, by omega, rfl, rfl, rfl⟩
        case round =>
          obtain ⟨k, hk1, hk, rfl, rfl, rfl⟩ := hrel
          by_cases hlt : k < ts.length
          · have hlt' : (k : Int) < (ts.length : Int) := by omega
            have hk0 : (0 : Int) ≤ (k : Int) := by omega
            have zk := HTY.out k hlt
            rw [Nat.zero_add] at zk
            have HC2 : Hid (com (ts.take (k + 1)) = if ts[k] = com (ts.take k) then com (ts.take k) else 0) := hid (by rw [List.take_succ_eq_append_getElem hlt]; exact com_snoc _ _ (by rw [List.length_take]; omega))
            clear z0
            generalize ts[k] = tk at *
            generalize com (ts.take k) = tc at *
            by_cases he : tk = tc
            · have e1 : ((tk : Int) != (tc : Int)) = false := by rw [bne_eq_false_iff_eq]; omega
              have HC3 : Hid (com (ts.take (k + 1)) = tc) := hid (by rw [HC2.out, if_pos he])
              clear he
              go_wp2_with (fail)
              go_roundw
              case rel => exact ⟨k + 1, by omega, by omega, by go_num, by rw [HC3.out], by first | rfl | trivial⟩
              case measure => simp [intOf]; omega
            · have e1 : ((tk : Int) != (tc : Int)) = true := by simp; omega
              have HC3 : Hid (com (ts.take (k + 1)) = 0) := hid (by rw [HC2.out, if_neg he])
              clear he
              go_wp2_with (fail)
              go_roundw
              case rel => exact ⟨k + 1, by omega, by omega, by go_num, by rw [HC3.out]; rfl, by first | rfl | trivial⟩
              case measure => simp [intOf]; omega
          · have hlt' : ¬ (k : Int) < (ts.length : Int) := by omega
            obtain rfl : k = ts.length := by omega
            rw [List.take_length]
            have hcs : ∀ n, x.op = n → n = n := fun _ _ => rfl
            have q2 := cell_kept Q2 HY.out.below
            clear z0 hk hk1 hlt
            obtain hop' | hop' | hop' | hop' | hop' | hop' | hop' | hop' | hop' | hop' | hop' | hop' | hop' | hop' | hop' | hop' | hop' | hop' | hop' : x.op = 1 ∨ x.op = 2 ∨ x.op = 3 ∨ x.op = 4 ∨ x.op = 5 ∨ x.op = 6 ∨ x.op = 7 ∨ x.op = 8 ∨ x.op = 9 ∨ x.op = 10 ∨ x.op = 11 ∨ x.op = 12 ∨ x.op = 13 ∨ x.op = 14 ∨ x.op = 15 ∨ x.op = 16 ∨ x.op = 17 ∨ x.op = 18 ∨ x.op = 19 := by have := HO.out; omega
            · have q0 : wr.cell? ⟨w.heap.size + 1, 0, none⟩ = some (.int .u8 1) := by rw [cell_kept Q0 HY.out.below, hop']; rfl
              have HV : Hid (tyE p x = 1) := hid (by rw [tyE_eq]; simp [hop'])
              have HBW := hid (bstep B2.out HY.out.below)
              go_wp2_with (fail)
              go_ret
              exact ⟨by rw [HV.out]; rfl, HBW.out⟩
            · have q0 : wr.cell? ⟨w.heap.size + 1, 0, none⟩ = some (.int .u8 2) := by rw [cell_kept Q0 HY.out.below, hop']; rfl
              have HV : Hid (tyE p x = 2) := hid (by rw [tyE_eq]; simp [hop'])
              have HBW := hid (bstep B2.out HY.out.below)
              go_wp2_with (fail)
              go_ret
              exact ⟨by rw [HV.out]; rfl, HBW.out⟩
            · have q0 : wr.cell? ⟨w.heap.size + 1, 0, none⟩ = some (.int .u8 3) := by rw [cell_kept Q0 HY.out.below, hop']; rfl
              have HV : Hid (tyE p x = tyN p x.name) := hid (by rw [tyE_eq]; simp [hop'])
              have HBW := hid (bstep B2.out HY.out.below)
              have r0 := cell_kept R0 HY.out.below
              have r1 := cell_kept R1 HY.out.below
              have r2 := cell_kept R2 HY.out.below
              have r3 := cell_kept R3 HY.out.below
              have c35 := rfind p x.name _ _ _ _ (HP.out.keep HBW.out)
              obtain ⟨v1, v2, v3, v4, hfo, hty⟩ : ∃ (v1 : Int) (v2 : Nat) (v3 : Int) (v4 : Bool), foV (findT (thingsL p) x.name) = #[.int .i64 v1, .int .u8 (v2 : Int), .int .i64 v3, .bool v4] ∧ tyN p x.name = if v2 = 1 ∨ v2 = 2 then v2 else 0 := by
                unfold tyN
                cases findT (thingsL p) x.name with
                | none => exact ⟨0, 0, 0, false, rfl, rfl⟩
                | some z => exact ⟨z.2.st, z.2.ty, z.1, true, rfl, rfl⟩
              rw [hfo] at c35
              have HTY := hid hty
              clear hty hfo
              go_wp2_with (fail)
              refine c35.mono ?_
              rintro e w4 ⟨rfl, hb4⟩
              have HB4 := hid (bstep HBW.out hb4)
              clear hb4
              by_cases h1 : v2 = 1
              · have e1 : ((v2 : Int) == 1) = true := by rw [beq_iff_eq]; omega
                have HV2 : Hid (tyE p x = v2) := hid (by rw [HV.out, HTY.out, if_pos (.inl h1)])
                clear h1
                go_wp2_with (fail)
                go_ret
                exact ⟨by rw [HV2.out]; rfl, HB4.out⟩
              · have e1 : ((v2 : Int) == 1) = false := by rw [beq_eq_false_iff_ne]; omega
                by_cases h2 : v2 = 2
                · have e2 : ((v2 : Int) == 2) = true := by rw [beq_iff_eq]; omega
                  have HV2 : Hid (tyE p x = v2) := hid (by rw [HV.out, HTY.out, if_pos (.inr h2)])
                  clear h1 h2
                  go_wp2_with (fail)
                  go_ret
                  exact ⟨by rw [HV2.out]; rfl, HB4.out⟩
                · have e2 : ((v2 : Int) == 2) = false := by rw [beq_eq_false_iff_ne]; omega
                  have HV2 : Hid (tyE p x = 0) := hid (by rw [HV.out, HTY.out, if_neg (by omega)])
                  clear h1 h2
                  go_wp2_with (fail)
                  go_ret
                  exact ⟨by rw [HV2.out]; rfl, HB4.out⟩
            · have q0 : wr.cell? ⟨w.heap.size + 1, 0, none⟩ = some (.int .u8 4) := by rw [cell_kept Q0 HY.out.below, hop']; rfl
              by_cases ha : com ts = 1
              · have ea : ((com ts : Int) == 1) = true := by rw [beq_iff_eq]; omega
                have HV : Hid (tyE p x = 1) := hid (by rw [tyE_eq, HTS.out]; simp [hop', ruleT, ha])
                have HBW := hid (bstep B2.out HY.out.below)
                clear ha
                generalize com ts = tc at *
                go_wp2_with (fail)
                go_ret
                exact ⟨by rw [HV.out]; rfl, HBW.out⟩
              · have ea : ((com ts : Int) == 1) = false := by rw [beq_eq_false_iff_ne]; omega
                have HV : Hid (tyE p x = 0) := hid (by rw [tyE_eq, HTS.out]; simp [hop', ruleT, ha])
                have HBW := hid (bstep B2.out HY.out.below)
                clear ha
                generalize com ts = tc at *
                go_wp2_with (fail)
                go_ret
                exact ⟨by rw [HV.out]; rfl, HBW.out⟩
            · have q0 : wr.cell? ⟨w.heap.size + 1, 0, none⟩ = some (.int .u8 5) := by rw [cell_kept Q0 HY.out.below, hop']; rfl
              by_cases ha : com ts = 2
              · have ea : ((com ts : Int) == 2) = true := by rw [beq_iff_eq]; omega
                have HV : Hid (tyE p x = 2) := hid (by rw [tyE_eq, HTS.out]; simp [hop', ruleT, ha])
                have HBW := hid (bstep B2.out HY.out.below)
                clear ha
                generalize com ts = tc at *
                go_wp2_with (fail)
                go_ret
                exact ⟨by rw [HV.out]; rfl, HBW.out⟩
              · have ea : ((com ts : Int) == 2) = false := by rw [beq_eq_false_iff_ne]; omega
                have HV : Hid (tyE p x = 0) := hid (by rw [tyE_eq, HTS.out]; simp [hop', ruleT, ha])
                have HBW := hid (bstep B2.out HY.out.below)
                clear ha
                generalize com ts = tc at *
                go_wp2_with (fail)
                go_ret
                exact ⟨by rw [HV.out]; rfl, HBW.out⟩
            · have q0 : wr.cell? ⟨w.heap.size + 1, 0, none⟩ = some (.int .u8 6) := by rw [cell_kept Q0 HY.out.below, hop']; rfl
              by_cases ha : com ts = 1
              · have ea : ((com ts : Int) == 1) = true := by rw [beq_iff_eq]; omega
                have HV : Hid (tyE p x = 1) := hid (by rw [tyE_eq, HTS.out]; simp [hop', ruleT, ha])
                have HBW := hid (bstep B2.out HY.out.below)
                clear ha
                generalize com ts = tc at *
                go_wp2_with (fail)
                go_ret
                exact ⟨by rw [HV.out]; rfl, HBW.out⟩
              · have ea : ((com ts : Int) == 1) = false := by rw [beq_eq_false_iff_ne]; omega
                have HV : Hid (tyE p x = 0) := hid (by rw [tyE_eq, HTS.out]; simp [hop', ruleT, ha])
                have HBW := hid (bstep B2.out HY.out.below)
                clear ha
                generalize com ts = tc at *
                go_wp2_with (fail)
                go_ret
                exact ⟨by rw [HV.out]; rfl, HBW.out⟩
            · have q0 : wr.cell? ⟨w.heap.size + 1, 0, none⟩ = some (.int .u8 7) := by rw [cell_kept Q0 HY.out.below, hop']; rfl
              by_cases ha : com ts = 1
              · have ea : ((com ts : Int) == 1) = true := by rw [beq_iff_eq]; omega
                have HV : Hid (tyE p x = 1) := hid (by rw [tyE_eq, HTS.out]; simp [hop', ruleT, ha])
                have HBW := hid (bstep B2.out HY.out.below)
                clear ha
                generalize com ts = tc at *
                go_wp2_with (fail)
                go_ret
                exact ⟨by rw [HV.out]; rfl, HBW.out⟩
              · have ea : ((com ts : Int) == 1) = false := by rw [beq_eq_false_iff_ne]; omega
                have HV : Hid (tyE p x = 0) := hid (by rw [tyE_eq, HTS.out]; simp [hop', ruleT, ha])
                have HBW := hid (bstep B2.out HY.out.below)
                clear ha
                generalize com ts = tc at *
                go_wp2_with (fail)
                go_ret
                exact ⟨by rw [HV.out]; rfl, HBW.out⟩
            · have q0 : wr.cell? ⟨w.heap.size + 1, 0, none⟩ = some (.int .u8 8) := by rw [cell_kept Q0 HY.out.below, hop']; rfl
              by_cases ha : com ts = 1
              · have ea : ((com ts : Int) == 1) = true := by rw [beq_iff_eq]; omega
                have HV : Hid (tyE p x = 1) := hid (by rw [tyE_eq, HTS.out]; simp [hop', ruleT, ha])
                have HBW := hid (bstep B2.out HY.out.below)
                clear ha
                generalize com ts = tc at *
                go_wp2_with (fail)
                go_ret
                exact ⟨by rw [HV.out]; rfl, HBW.out⟩
              · have ea : ((com ts : Int) == 1) = false := by rw [beq_eq_false_iff_ne]; omega
                have HV : Hid (tyE p x = 0) := hid (by rw [tyE_eq, HTS.out]; simp [hop', ruleT, ha])
                have HBW := hid (bstep B2.out HY.out.below)
                clear ha
                generalize com ts = tc at *
                go_wp2_with (fail)
                go_ret
                exact ⟨by rw [HV.out]; rfl, HBW.out⟩
            · have q0 : wr.cell? ⟨w.heap.size + 1, 0, none⟩ = some (.int .u8 9) := by rw [cell_kept Q0 HY.out.below, hop']; rfl
              by_cases ha : com ts = 1
              · have ea : ((com ts : Int) == 1) = true := by rw [beq_iff_eq]; omega
                have HV : Hid (tyE p x = 1) := hid (by rw [tyE_eq, HTS.out]; simp [hop', ruleT, ha])
                have HBW := hid (bstep B2.out HY.out.below)
                clear ha
                generalize com ts = tc at *
                go_wp2_with (fail)
                go_ret
                exact ⟨by rw [HV.out]; rfl, HBW.out⟩
              · have ea : ((com ts : Int) == 1) = false := by rw [beq_eq_false_iff_ne]; omega
                have HV : Hid (tyE p x = 0) := hid (by rw [tyE_eq, HTS.out]; simp [hop', ruleT, ha])
                have HBW := hid (bstep B2.out HY.out.below)
                clear ha
                generalize com ts = tc at *
                go_wp2_with (fail)
                go_ret
                exact ⟨by rw [HV.out]; rfl, HBW.out⟩
            · have q0 : wr.cell? ⟨w.heap.size + 1, 0, none⟩ = some (.int .u8 10) := by rw [cell_kept Q0 HY.out.below, hop']; rfl
              by_cases ha : com ts = 1
              · have ea : ((com ts : Int) == 1) = true := by rw [beq_iff_eq]; omega
                have HV : Hid (tyE p x = 1) := hid (by rw [tyE_eq, HTS.out]; simp [hop', ruleT, ha])
                have HBW := hid (bstep B2.out HY.out.below)
                clear ha
                generalize com ts = tc at *
                go_wp2_with (fail)
                go_ret
                exact ⟨by rw [HV.out]; rfl, HBW.out⟩
              · have ea : ((com ts : Int) == 1) = false := by rw [beq_eq_false_iff_ne]; omega
                have HV : Hid (tyE p x = 0) := hid (by rw [tyE_eq, HTS.out]; simp [hop', ruleT, ha])
                have HBW := hid (bstep B2.out HY.out.below)
                clear ha
                generalize com ts = tc at *
                go_wp2_with (fail)
                go_ret
                exact ⟨by rw [HV.out]; rfl, HBW.out⟩
            · have q0 : wr.cell? ⟨w.heap.size + 1, 0, none⟩ = some (.int .u8 11) := by rw [cell_kept Q0 HY.out.below, hop']; rfl
              by_cases ha : com ts = 0
              · have ea : ((com ts : Int) != 0) = false := by rw [bne_eq_false_iff_eq]; omega
                have HV : Hid (tyE p x = 0) := hid (by rw [tyE_eq, HTS.out]; simp [hop', ruleT, ha])
                have HBW := hid (bstep B2.out HY.out.below)
                clear ha
                generalize com ts = tc at *
                go_wp2_with (fail)
                go_ret
                exact ⟨by rw [HV.out]; rfl, HBW.out⟩
              · have ea : ((com ts : Int) != 0) = true := by simp; omega
                have HV : Hid (tyE p x = 2) := hid (by rw [tyE_eq, HTS.out]; simp [hop', ruleT, ha])
                have HBW := hid (bstep B2.out HY.out.below)
                clear ha
                generalize com ts = tc at *
                go_wp2_with (fail)
                go_ret
                exact ⟨by rw [HV.out]; rfl, HBW.out⟩
            · have q0 : wr.cell? ⟨w.heap.size + 1, 0, none⟩ = some (.int .u8 12) := by rw [cell_kept Q0 HY.out.below, hop']; rfl
              by_cases ha : com ts = 0
              · have ea : ((com ts : Int) != 0) = false := by rw [bne_eq_false_iff_eq]; omega
                have HV : Hid (tyE p x = 0) := hid (by rw [tyE_eq, HTS.out]; simp [hop', ruleT, ha])
                have HBW := hid (bstep B2.out HY.out.below)
                clear ha
                generalize com ts = tc at *
                go_wp2_with (fail)
                go_ret
                exact ⟨by rw [HV.out]; rfl, HBW.out⟩
              · have ea : ((com ts : Int) != 0) = true := by simp; omega
                have HV : Hid (tyE p x = 2) := hid (by rw [tyE_eq, HTS.out]; simp [hop', ruleT, ha])
                have HBW := hid (bstep B2.out HY.out.below)
                clear ha
                generalize com ts = tc at *
                go_wp2_with (fail)
                go_ret
                exact ⟨by rw [HV.out]; rfl, HBW.out⟩
            · have q0 : wr.cell? ⟨w.heap.size + 1, 0, none⟩ = some (.int .u8 13) := by rw [cell_kept Q0 HY.out.below, hop']; rfl
              by_cases ha : com ts = 1
              · have ea : ((com ts : Int) == 1) = true := by rw [beq_iff_eq]; omega
                have HV : Hid (tyE p x = 2) := hid (by rw [tyE_eq, HTS.out]; simp [hop', ruleT, ha])
                have HBW := hid (bstep B2.out HY.out.below)
                clear ha
                generalize com ts = tc at *
                go_wp2_with (fail)
                go_ret
                exact ⟨by rw [HV.out]; rfl, HBW.out⟩
              · have ea : ((com ts : Int) == 1) = false := by rw [beq_eq_false_iff_ne]; omega
                have HV : Hid (tyE p x = 0) := hid (by rw [tyE_eq, HTS.out]; simp [hop', ruleT, ha])
                have HBW := hid (bstep B2.out HY.out.below)
                clear ha
                generalize com ts = tc at *
                go_wp2_with (fail)
                go_ret
                exact ⟨by rw [HV.out]; rfl, HBW.out⟩
            · have q0 : wr.cell? ⟨w.heap.size + 1, 0, none⟩ = some (.int .u8 14) := by rw [cell_kept Q0 HY.out.below, hop']; rfl
              by_cases ha : com ts = 1
              · have ea : ((com ts : Int) == 1) = true := by rw [beq_iff_eq]; omega
                have HV : Hid (tyE p x = 2) := hid (by rw [tyE_eq, HTS.out]; simp [hop', ruleT, ha])
                have HBW := hid (bstep B2.out HY.out.below)
                clear ha
                generalize com ts = tc at *
                go_wp2_with (fail)
                go_ret
                exact ⟨by rw [HV.out]; rfl, HBW.out⟩
              · have ea : ((com ts : Int) == 1) = false := by rw [beq_eq_false_iff_ne]; omega
                have HV : Hid (tyE p x = 0) := hid (by rw [tyE_eq, HTS.out]; simp [hop', ruleT, ha])
                have HBW := hid (bstep B2.out HY.out.below)
                clear ha
                generalize com ts = tc at *
                go_wp2_with (fail)
                go_ret
                exact ⟨by rw [HV.out]; rfl, HBW.out⟩
            · have q0 : wr.cell? ⟨w.heap.size + 1, 0, none⟩ = some (.int .u8 15) := by rw [cell_kept Q0 HY.out.below, hop']; rfl
              by_cases ha : com ts = 2
              · have ea : ((com ts : Int) == 2) = true := by rw [beq_iff_eq]; omega
                have HV : Hid (tyE p x = 2) := hid (by rw [tyE_eq, HTS.out]; simp [hop', ruleT, ha])
                have HBW := hid (bstep B2.out HY.out.below)
                clear ha
                generalize com ts = tc at *
                go_wp2_with (fail)
                go_ret
                exact ⟨by rw [HV.out]; rfl, HBW.out⟩
              · have ea : ((com ts : Int) == 2) = false := by rw [beq_eq_false_iff_ne]; omega
                have HV : Hid (tyE p x = 0) := hid (by rw [tyE_eq, HTS.out]; simp [hop', ruleT, ha])
                have HBW := hid (bstep B2.out HY.out.below)
                clear ha
                generalize com ts = tc at *
                go_wp2_with (fail)
                go_ret
                exact ⟨by rw [HV.out]; rfl, HBW.out⟩
            · have q0 : wr.cell? ⟨w.heap.size + 1, 0, none⟩ = some (.int .u8 16) := by rw [cell_kept Q0 HY.out.below, hop']; rfl
              by_cases ha : com ts = 2
              · have ea : ((com ts : Int) == 2) = true := by rw [beq_iff_eq]; omega
                have HV : Hid (tyE p x = 2) := hid (by rw [tyE_eq, HTS.out]; simp [hop', ruleT, ha])
                have HBW := hid (bstep B2.out HY.out.below)
                clear ha
                generalize com ts = tc at *
                go_wp2_with (fail)
                go_ret
                exact ⟨by rw [HV.out]; rfl, HBW.out⟩
              · have ea : ((com ts : Int) == 2) = false := by rw [beq_eq_false_iff_ne]; omega
                have HV : Hid (tyE p x = 0) := hid (by rw [tyE_eq, HTS.out]; simp [hop', ruleT, ha])
                have HBW := hid (bstep B2.out HY.out.below)
                clear ha
                generalize com ts = tc at *
                go_wp2_with (fail)
                go_ret
                exact ⟨by rw [HV.out]; rfl, HBW.out⟩
            · have q0 : wr.cell? ⟨w.heap.size + 1, 0, none⟩ = some (.int .u8 17) := by rw [cell_kept Q0 HY.out.below, hop']; rfl
              have hl3 : x.args.length = 3 := (ok_parts HF.out (by rw [hop']; decide) (by rw [hop']; decide) (by rw [hop']; decide)).2.2.2.2 hop'
              have hts : ts.length = 3 := HTL.out.trans hl3
              obtain ⟨t0, t1, t2, rfl⟩ : ∃ t0 t1 t2, ts = [t0, t1, t2] := by
                match ts, hts with
                | [a, b, c], _ => exact ⟨a, b, c, rfl⟩
              have HV0 : Hid (tyE p x = if t0 = 2 then com [t1, t2] else 0) := hid (by rw [tyE_eq, HTS.out]; simp [hop', ruleT])
              have z0 := HTY.out 0 (by simp)
              have z1 := HTY.out 1 (by simp)
              have z2 := HTY.out 2 (by simp)
              simp only [List.getElem_cons_zero, List.getElem_cons_succ, Nat.zero_add] at z0 z1 z2
              have HBW := hid (bstep B2.out HY.out.below)
              clear hts hl3
              generalize com [t0, t1, t2] = tc at *
              by_cases h0 : t0 = 2
              · have e0 : ((t0 : Int) == 2) = true := by rw [beq_iff_eq]; omega
                by_cases h1 : t1 = t2
                · have e1 : ((t1 : Int) == (t2 : Int)) = true := by rw [beq_iff_eq]; omega
                  have HV : Hid (tyE p x = t1) := hid (by rw [HV0.out, if_pos h0]; simp [com, h1])
                  clear h0 h1 HV0
                  go_wp2_with (fail)
                  refine wp_region_held_drew (S := fun W => W.cell? ⟨g, 0, none⟩ = some (.int .u8 (t0 : Int)) ∧ W.cell? ⟨g, 1, none⟩ = some (.int .u8 (t1 : Int)) ∧ W.cell? ⟨g, 2, none⟩ = some (.int .u8 (t2 : Int))) (by kernel_rfl) ?_ (fun hHeld => ?_)
                  · exact ⟨z0, z1, z2⟩
                  refine wpAnyH_take (i := 0) (oi := { dst := some 99, op := Go.Op.move (Go.Operand.tmp 5), type := 45, pos := _, after := #[], guard := none }) (v := ?_) rfl (by kernel_rfl) (by kernel_rfl) (by kernel_rfl) (fun _ _ _ h => h) (Or.inl ⟨by rfl, ?_⟩) (by assumption) ?_
                  rotate_left
                  · intro w hSw; (try dsimp only at hSw); go_simp <;> first | with_reducible rfl | (rw [if_neg (by first | omega | (simp only [ByteArray.size_append] at *; omega))])
                  simp only [Act.put, List.setIfInBounds_toArray, List.set_cons_zero, List.set_cons_succ]
                  refine wpAnyH_take (i := 1) (oi := { dst := some 100, op := Go.Op.indexAddr 45 (Go.Operand.tmp 99) (Go.Operand.const (Go.Value.int Go.IntKind.i64 0)), type := 0, pos := _, after := #[{ on := 0, ground := Go.Ground.data }], guard := none }) (v := ?_) rfl (by kernel_rfl) (by kernel_rfl) (by kernel_rfl) (fun _ _ _ h => h) (Or.inl ⟨by rfl, ?_⟩) (by assumption) ?_
                  rotate_left
                  · intro w hSw; (try dsimp only at hSw); go_simp <;> first | with_reducible rfl | (rw [if_neg (by first | omega | (simp only [ByteArray.size_append] at *; omega))])
                  simp only [Act.put, List.setIfInBounds_toArray, List.set_cons_zero, List.set_cons_succ]
                  refine wpAnyH_take (i := 2) (oi := { dst := some 101, op := Go.Op.load 35 (Go.Operand.tmp 100), type := 35, pos := _, after := #[{ on := 1, ground := Go.Ground.data }], guard := none }) (v := ?_) rfl (by kernel_rfl) (by kernel_rfl) (by kernel_rfl) (fun _ _ _ h => h) (Or.inl ⟨by rfl, ?_⟩) (by assumption) ?_
                  rotate_left
                  · intro w hSw; (try dsimp only at hSw); go_simp <;> first | with_reducible rfl | (rw [if_neg (by first | omega | (simp only [ByteArray.size_append] at *; omega))])
                  simp only [Act.put, List.setIfInBounds_toArray, List.set_cons_zero, List.set_cons_succ]
                  refine wpAnyH_take (i := 3) (oi := { dst := some 102, op := Go.Op.binOp Go.BinOp.eql 35 (Go.Operand.tmp 101) (Go.Operand.const (Go.Value.int Go.IntKind.u8 2)) 35, type := 4, pos := _, after := #[{ on := 2, ground := Go.Ground.data }], guard := none }) (v := ?_) rfl (by kernel_rfl) (by kernel_rfl) (by kernel_rfl) (fun _ _ _ h => h) (Or.inl ⟨by rfl, ?_⟩) (by assumption) ?_
                  rotate_left
                  · intro w hSw; (try dsimp only at hSw); go_simp <;> first | with_reducible rfl | (rw [if_neg (by first | omega | (simp only [ByteArray.size_append] at *; omega))])
                  simp only [Act.put, List.setIfInBounds_toArray, List.set_cons_zero, List.set_cons_succ]
                  refine wpAnyH_take (i := 4) (oi := { dst := some 103, op := Go.Op.move (Go.Operand.tmp 102), type := 4, pos := _, after := #[{ on := 3, ground := Go.Ground.data }], guard := none }) (v := ?_) rfl (by kernel_rfl) (by kernel_rfl) (by kernel_rfl) (fun _ _ _ h => h) (Or.inl ⟨by rfl, ?_⟩) (by assumption) ?_
                  rotate_left
                  · intro w hSw; (try dsimp only at hSw); go_simp <;> first | with_reducible rfl | (rw [if_neg (by first | omega | (simp only [ByteArray.size_append] at *; omega))])
                  simp only [Act.put, List.setIfInBounds_toArray, List.set_cons_zero, List.set_cons_succ]
                  refine wpAnyH_take (i := 5) (oi := { dst := some 104, op := Go.Op.move (Go.Operand.tmp 5), type := 45, pos := _, after := #[{ on := 4, ground := Go.Ground.guard }], guard := some (4, true) }) (v := ?_) rfl (by kernel_rfl) (by kernel_rfl) (by kernel_rfl) (fun _ _ _ h => h) (Or.inl ⟨by rfl, ?_⟩) (by assumption) ?_
                  rotate_left
                  · intro w hSw; (try dsimp only at hSw); go_simp <;> first | with_reducible rfl | (rw [if_neg (by first | omega | (simp only [ByteArray.size_append] at *; omega))])
                  simp only [Act.put, List.setIfInBounds_toArray, List.set_cons_zero, List.set_cons_succ]
                  refine wpAnyH_take (i := 6) (oi := { dst := some 105, op := Go.Op.indexAddr 45 (Go.Operand.tmp 104) (Go.Operand.const (Go.Value.int Go.IntKind.i64 1)), type := 0, pos := _, after := #[{ on := 5, ground := Go.Ground.data }, { on := 4, ground := Go.Ground.guard }], guard := some (4, true) }) (v := ?_) rfl (by kernel_rfl) (by kernel_rfl) (by kernel_rfl) (fun _ _ _ h => h) (Or.inl ⟨by rfl, ?_⟩) (by assumption) ?_
                  rotate_left
                  · intro w hSw; (try dsimp only at hSw); go_simp <;> first | with_reducible rfl | (rw [if_neg (by first | omega | (simp only [ByteArray.size_append] at *; omega))])
                  simp only [Act.put, List.setIfInBounds_toArray, List.set_cons_zero, List.set_cons_succ]
                  refine wpAnyH_take (i := 7) (oi := { dst := some 106, op := Go.Op.load 35 (Go.Operand.tmp 105), type := 35, pos := _, after := #[{ on := 6, ground := Go.Ground.data }, { on := 4, ground := Go.Ground.guard }], guard := some (4, true) }) (v := ?_) rfl (by kernel_rfl) (by kernel_rfl) (by kernel_rfl) (fun _ _ _ h => h) (Or.inl ⟨by rfl, ?_⟩) (by assumption) ?_
                  rotate_left
                  · intro w hSw; (try dsimp only at hSw); go_simp <;> first | with_reducible rfl | (rw [if_neg (by first | omega | (simp only [ByteArray.size_append] at *; omega))])
                  simp only [Act.put, List.setIfInBounds_toArray, List.set_cons_zero, List.set_cons_succ]
                  refine wpAnyH_take (i := 8) (oi := { dst := some 107, op := Go.Op.move (Go.Operand.tmp 5), type := 45, pos := _, after := #[{ on := 4, ground := Go.Ground.guard }], guard := some (4, true) }) (v := ?_) rfl (by kernel_rfl) (by kernel_rfl) (by kernel_rfl) (fun _ _ _ h => h) (Or.inl ⟨by rfl, ?_⟩) (by assumption) ?_
                  rotate_left
                  · intro w hSw; (try dsimp only at hSw); go_simp <;> first | with_reducible rfl | (rw [if_neg (by first | omega | (simp only [ByteArray.size_append] at *; omega))])
                  simp only [Act.put, List.setIfInBounds_toArray, List.set_cons_zero, List.set_cons_succ]
                  refine wpAnyH_take (i := 9) (oi := { dst := some 108, op := Go.Op.indexAddr 45 (Go.Operand.tmp 107) (Go.Operand.const (Go.Value.int Go.IntKind.i64 2)), type := 0, pos := _, after := #[{ on := 8, ground := Go.Ground.data }, { on := 4, ground := Go.Ground.guard }], guard := some (4, true) }) (v := ?_) rfl (by kernel_rfl) (by kernel_rfl) (by kernel_rfl) (fun _ _ _ h => h) (Or.inl ⟨by rfl, ?_⟩) (by assumption) ?_
                  rotate_left
                  · intro w hSw; (try dsimp only at hSw); go_simp <;> first | with_reducible rfl | (rw [if_neg (by first | omega | (simp only [ByteArray.size_append] at *; omega))])
                  simp only [Act.put, List.setIfInBounds_toArray, List.set_cons_zero, List.set_cons_succ]
                  refine wpAnyH_take (i := 10) (oi := { dst := some 109, op := Go.Op.load 35 (Go.Operand.tmp 108), type := 35, pos := _, after := #[{ on := 9, ground := Go.Ground.data }, { on := 4, ground := Go.Ground.guard }], guard := some (4, true) }) (v := ?_) rfl (by kernel_rfl) (by kernel_rfl) (by kernel_rfl) (fun _ _ _ h => h) (Or.inl ⟨by rfl, ?_⟩) (by assumption) ?_
                  rotate_left
                  · intro w hSw; (try dsimp only at hSw); go_simp <;> first | with_reducible rfl | (rw [if_neg (by first | omega | (simp only [ByteArray.size_append] at *; omega))])
                  simp only [Act.put, List.setIfInBounds_toArray, List.set_cons_zero, List.set_cons_succ]
                  refine wpAnyH_take (i := 11) (oi := { dst := some 110, op := Go.Op.binOp Go.BinOp.eql 35 (Go.Operand.tmp 106) (Go.Operand.tmp 109) 35, type := 4, pos := _, after := #[{ on := 7, ground := Go.Ground.data }, { on := 10, ground := Go.Ground.data }, { on := 4, ground := Go.Ground.guard }], guard := some (4, true) }) (v := ?_) rfl (by kernel_rfl) (by kernel_rfl) (by kernel_rfl) (fun _ _ _ h => h) (Or.inl ⟨by rfl, ?_⟩) (by assumption) ?_
                  rotate_left
                  · intro w hSw; (try dsimp only at hSw); go_simp <;> first | with_reducible rfl | (rw [if_neg (by first | omega | (simp only [ByteArray.size_append] at *; omega))])
                  simp only [Act.put, List.setIfInBounds_toArray, List.set_cons_zero, List.set_cons_succ]
                  refine wpAnyH_take (i := 12) (oi := { dst := some 111, op := Go.Op.pick (Go.Operand.tmp 103) (Go.Operand.tmp 110) (Go.Operand.const (Go.Value.bool false)), type := 4, pos := _, after := #[{ on := 4, ground := Go.Ground.data }, { on := 11, ground := Go.Ground.data }], guard := none }) (v := ?_) rfl (by kernel_rfl) (by kernel_rfl) (by kernel_rfl) (fun _ _ _ h => h) (Or.inl ⟨by rfl, ?_⟩) (by assumption) ?_
                  rotate_left
                  · intro w hSw; (try dsimp only at hSw); go_simp <;> first | with_reducible rfl | (rw [if_neg (by first | omega | (simp only [ByteArray.size_append] at *; omega))])
                  simp only [Act.put, List.setIfInBounds_toArray, List.set_cons_zero, List.set_cons_succ]
                  refine wpAnyH_done (by kernel_rfl) ?_ _
                  go_wp2_with (fail)
                  go_ret
                  exact ⟨by rw [HV.out]; rfl, below_drewN HBW.out _⟩
                · have e1 : ((t1 : Int) == (t2 : Int)) = false := by rw [beq_eq_false_iff_ne]; omega
                  have HV : Hid (tyE p x = 0) := hid (by rw [HV0.out, if_pos h0]; have : ¬ t2 = t1 := fun h => h1 h.symm; simp [com, this])
                  clear h0 h1 HV0
                  go_wp2_with (fail)
                  refine wp_region_held_drew (S := fun W => W.cell? ⟨g, 0, none⟩ = some (.int .u8 (t0 : Int)) ∧ W.cell? ⟨g, 1, none⟩ = some (.int .u8 (t1 : Int)) ∧ W.cell? ⟨g, 2, none⟩ = some (.int .u8 (t2 : Int))) (by kernel_rfl) ?_ (fun hHeld => ?_)
                  · exact ⟨z0, z1, z2⟩
                  refine wpAnyH_take (i := 0) (oi := { dst := some 99, op := Go.Op.move (Go.Operand.tmp 5), type := 45, pos := _, after := #[], guard := none }) (v := ?_) rfl (by kernel_rfl) (by kernel_rfl) (by kernel_rfl) (fun _ _ _ h => h) (Or.inl ⟨by rfl, ?_⟩) (by assumption) ?_
                  rotate_left
                  · intro w hSw; (try dsimp only at hSw); go_simp <;> first | with_reducible rfl | (rw [if_neg (by first | omega | (simp only [ByteArray.size_append] at *; omega))])
                  simp only [Act.put, List.setIfInBounds_toArray, List.set_cons_zero, List.set_cons_succ]
                  refine wpAnyH_take (i := 1) (oi := { dst := some 100, op := Go.Op.indexAddr 45 (Go.Operand.tmp 99) (Go.Operand.const (Go.Value.int Go.IntKind.i64 0)), type := 0, pos := _, after := #[{ on := 0, ground := Go.Ground.data }], guard := none }) (v := ?_) rfl (by kernel_rfl) (by kernel_rfl) (by kernel_rfl) (fun _ _ _ h => h) (Or.inl ⟨by rfl, ?_⟩) (by assumption) ?_
                  rotate_left
                  · intro w hSw; (try dsimp only at hSw); go_simp <;> first | with_reducible rfl | (rw [if_neg (by first | omega | (simp only [ByteArray.size_append] at *; omega))])
                  simp only [Act.put, List.setIfInBounds_toArray, List.set_cons_zero, List.set_cons_succ]
                  refine wpAnyH_take (i := 2) (oi := { dst := some 101, op := Go.Op.load 35 (Go.Operand.tmp 100), type := 35, pos := _, after := #[{ on := 1, ground := Go.Ground.data }], guard := none }) (v := ?_) rfl (by kernel_rfl) (by kernel_rfl) (by kernel_rfl) (fun _ _ _ h => h) (Or.inl ⟨by rfl, ?_⟩) (by assumption) ?_
                  rotate_left
                  · intro w hSw; (try dsimp only at hSw); go_simp <;> first | with_reducible rfl | (rw [if_neg (by first | omega | (simp only [ByteArray.size_append] at *; omega))])
                  simp only [Act.put, List.setIfInBounds_toArray, List.set_cons_zero, List.set_cons_succ]
                  refine wpAnyH_take (i := 3) (oi := { dst := some 102, op := Go.Op.binOp Go.BinOp.eql 35 (Go.Operand.tmp 101) (Go.Operand.const (Go.Value.int Go.IntKind.u8 2)) 35, type := 4, pos := _, after := #[{ on := 2, ground := Go.Ground.data }], guard := none }) (v := ?_) rfl (by kernel_rfl) (by kernel_rfl) (by kernel_rfl) (fun _ _ _ h => h) (Or.inl ⟨by rfl, ?_⟩) (by assumption) ?_
                  rotate_left
                  · intro w hSw; (try dsimp only at hSw); go_simp <;> first | with_reducible rfl | (rw [if_neg (by first | omega | (simp only [ByteArray.size_append] at *; omega))])
                  simp only [Act.put, List.setIfInBounds_toArray, List.set_cons_zero, List.set_cons_succ]
                  refine wpAnyH_take (i := 4) (oi := { dst := some 103, op := Go.Op.move (Go.Operand.tmp 102), type := 4, pos := _, after := #[{ on := 3, ground := Go.Ground.data }], guard := none }) (v := ?_) rfl (by kernel_rfl) (by kernel_rfl) (by kernel_rfl) (fun _ _ _ h => h) (Or.inl ⟨by rfl, ?_⟩) (by assumption) ?_
                  rotate_left
                  · intro w hSw; (try dsimp only at hSw); go_simp <;> first | with_reducible rfl | (rw [if_neg (by first | omega | (simp only [ByteArray.size_append] at *; omega))])
                  simp only [Act.put, List.setIfInBounds_toArray, List.set_cons_zero, List.set_cons_succ]
                  refine wpAnyH_take (i := 5) (oi := { dst := some 104, op := Go.Op.move (Go.Operand.tmp 5), type := 45, pos := _, after := #[{ on := 4, ground := Go.Ground.guard }], guard := some (4, true) }) (v := ?_) rfl (by kernel_rfl) (by kernel_rfl) (by kernel_rfl) (fun _ _ _ h => h) (Or.inl ⟨by rfl, ?_⟩) (by assumption) ?_
                  rotate_left
                  · intro w hSw; (try dsimp only at hSw); go_simp <;> first | with_reducible rfl | (rw [if_neg (by first | omega | (simp only [ByteArray.size_append] at *; omega))])
                  simp only [Act.put, List.setIfInBounds_toArray, List.set_cons_zero, List.set_cons_succ]
                  refine wpAnyH_take (i := 6) (oi := { dst := some 105, op := Go.Op.indexAddr 45 (Go.Operand.tmp 104) (Go.Operand.const (Go.Value.int Go.IntKind.i64 1)), type := 0, pos := _, after := #[{ on := 5, ground := Go.Ground.data }, { on := 4, ground := Go.Ground.guard }], guard := some (4, true) }) (v := ?_) rfl (by kernel_rfl) (by kernel_rfl) (by kernel_rfl) (fun _ _ _ h => h) (Or.inl ⟨by rfl, ?_⟩) (by assumption) ?_
                  rotate_left
                  · intro w hSw; (try dsimp only at hSw); go_simp <;> first | with_reducible rfl | (rw [if_neg (by first | omega | (simp only [ByteArray.size_append] at *; omega))])
                  simp only [Act.put, List.setIfInBounds_toArray, List.set_cons_zero, List.set_cons_succ]
                  refine wpAnyH_take (i := 7) (oi := { dst := some 106, op := Go.Op.load 35 (Go.Operand.tmp 105), type := 35, pos := _, after := #[{ on := 6, ground := Go.Ground.data }, { on := 4, ground := Go.Ground.guard }], guard := some (4, true) }) (v := ?_) rfl (by kernel_rfl) (by kernel_rfl) (by kernel_rfl) (fun _ _ _ h => h) (Or.inl ⟨by rfl, ?_⟩) (by assumption) ?_
                  rotate_left
                  · intro w hSw; (try dsimp only at hSw); go_simp <;> first | with_reducible rfl | (rw [if_neg (by first | omega | (simp only [ByteArray.size_append] at *; omega))])
                  simp only [Act.put, List.setIfInBounds_toArray, List.set_cons_zero, List.set_cons_succ]
                  refine wpAnyH_take (i := 8) (oi := { dst := some 107, op := Go.Op.move (Go.Operand.tmp 5), type := 45, pos := _, after := #[{ on := 4, ground := Go.Ground.guard }], guard := some (4, true) }) (v := ?_) rfl (by kernel_rfl) (by kernel_rfl) (by kernel_rfl) (fun _ _ _ h => h) (Or.inl ⟨by rfl, ?_⟩) (by assumption) ?_
                  rotate_left
                  · intro w hSw; (try dsimp only at hSw); go_simp <;> first | with_reducible rfl | (rw [if_neg (by first | omega | (simp only [ByteArray.size_append] at *; omega))])
                  simp only [Act.put, List.setIfInBounds_toArray, List.set_cons_zero, List.set_cons_succ]
                  refine wpAnyH_take (i := 9) (oi := { dst := some 108, op := Go.Op.indexAddr 45 (Go.Operand.tmp 107) (Go.Operand.const (Go.Value.int Go.IntKind.i64 2)), type := 0, pos := _, after := #[{ on := 8, ground := Go.Ground.data }, { on := 4, ground := Go.Ground.guard }], guard := some (4, true) }) (v := ?_) rfl (by kernel_rfl) (by kernel_rfl) (by kernel_rfl) (fun _ _ _ h => h) (Or.inl ⟨by rfl, ?_⟩) (by assumption) ?_
                  rotate_left
                  · intro w hSw; (try dsimp only at hSw); go_simp <;> first | with_reducible rfl | (rw [if_neg (by first | omega | (simp only [ByteArray.size_append] at *; omega))])
                  simp only [Act.put, List.setIfInBounds_toArray, List.set_cons_zero, List.set_cons_succ]
                  refine wpAnyH_take (i := 10) (oi := { dst := some 109, op := Go.Op.load 35 (Go.Operand.tmp 108), type := 35, pos := _, after := #[{ on := 9, ground := Go.Ground.data }, { on := 4, ground := Go.Ground.guard }], guard := some (4, true) }) (v := ?_) rfl (by kernel_rfl) (by kernel_rfl) (by kernel_rfl) (fun _ _ _ h => h) (Or.inl ⟨by rfl, ?_⟩) (by assumption) ?_
                  rotate_left
                  · intro w hSw; (try dsimp only at hSw); go_simp <;> first | with_reducible rfl | (rw [if_neg (by first | omega | (simp only [ByteArray.size_append] at *; omega))])
                  simp only [Act.put, List.setIfInBounds_toArray, List.set_cons_zero, List.set_cons_succ]
                  refine wpAnyH_take (i := 11) (oi := { dst := some 110, op := Go.Op.binOp Go.BinOp.eql 35 (Go.Operand.tmp 106) (Go.Operand.tmp 109) 35, type := 4, pos := _, after := #[{ on := 7, ground := Go.Ground.data }, { on := 10, ground := Go.Ground.data }, { on := 4, ground := Go.Ground.guard }], guard := some (4, true) }) (v := ?_) rfl (by kernel_rfl) (by kernel_rfl) (by kernel_rfl) (fun _ _ _ h => h) (Or.inl ⟨by rfl, ?_⟩) (by assumption) ?_
                  rotate_left
                  · intro w hSw; (try dsimp only at hSw); go_simp <;> first | with_reducible rfl | (rw [if_neg (by first | omega | (simp only [ByteArray.size_append] at *; omega))])
                  simp only [Act.put, List.setIfInBounds_toArray, List.set_cons_zero, List.set_cons_succ]
                  refine wpAnyH_take (i := 12) (oi := { dst := some 111, op := Go.Op.pick (Go.Operand.tmp 103) (Go.Operand.tmp 110) (Go.Operand.const (Go.Value.bool false)), type := 4, pos := _, after := #[{ on := 4, ground := Go.Ground.data }, { on := 11, ground := Go.Ground.data }], guard := none }) (v := ?_) rfl (by kernel_rfl) (by kernel_rfl) (by kernel_rfl) (fun _ _ _ h => h) (Or.inl ⟨by rfl, ?_⟩) (by assumption) ?_
                  rotate_left
                  · intro w hSw; (try dsimp only at hSw); go_simp <;> first | with_reducible rfl | (rw [if_neg (by first | omega | (simp only [ByteArray.size_append] at *; omega))])
                  simp only [Act.put, List.setIfInBounds_toArray, List.set_cons_zero, List.set_cons_succ]
                  refine wpAnyH_done (by kernel_rfl) ?_ _
                  go_wp2_with (fail)
                  go_ret
                  exact ⟨by rw [HV.out]; rfl, below_drewN HBW.out _⟩
              · have e0 : ((t0 : Int) == 2) = false := by rw [beq_eq_false_iff_ne]; omega
                have HV : Hid (tyE p x = 0) := hid (by rw [HV0.out, if_neg h0])
                clear h0 HV0
                go_wp2_with (fail)
                refine wp_region_held_drew (S := fun W => W.cell? ⟨g, 0, none⟩ = some (.int .u8 (t0 : Int)) ∧ W.cell? ⟨g, 1, none⟩ = some (.int .u8 (t1 : Int)) ∧ W.cell? ⟨g, 2, none⟩ = some (.int .u8 (t2 : Int))) (by kernel_rfl) ?_ (fun hHeld => ?_)
                · exact ⟨z0, z1, z2⟩
                refine wpAnyH_take (i := 0) (oi := { dst := some 99, op := Go.Op.move (Go.Operand.tmp 5), type := 45, pos := _, after := #[], guard := none }) (v := ?_) rfl (by kernel_rfl) (by kernel_rfl) (by kernel_rfl) (fun _ _ _ h => h) (Or.inl ⟨by rfl, ?_⟩) (by assumption) ?_
                rotate_left
                · intro w hSw; (try dsimp only at hSw); go_simp <;> first | with_reducible rfl | (rw [if_neg (by first | omega | (simp only [ByteArray.size_append] at *; omega))])
                simp only [Act.put, List.setIfInBounds_toArray, List.set_cons_zero, List.set_cons_succ]
                refine wpAnyH_take (i := 1) (oi := { dst := some 100, op := Go.Op.indexAddr 45 (Go.Operand.tmp 99) (Go.Operand.const (Go.Value.int Go.IntKind.i64 0)), type := 0, pos := _, after := #[{ on := 0, ground := Go.Ground.data }], guard := none }) (v := ?_) rfl (by kernel_rfl) (by kernel_rfl) (by kernel_rfl) (fun _ _ _ h => h) (Or.inl ⟨by rfl, ?_⟩) (by assumption) ?_
                rotate_left
                · intro w hSw; (try dsimp only at hSw); go_simp <;> first | with_reducible rfl | (rw [if_neg (by first | omega | (simp only [ByteArray.size_append] at *; omega))])
                simp only [Act.put, List.setIfInBounds_toArray, List.set_cons_zero, List.set_cons_succ]
                refine wpAnyH_take (i := 2) (oi := { dst := some 101, op := Go.Op.load 35 (Go.Operand.tmp 100), type := 35, pos := _, after := #[{ on := 1, ground := Go.Ground.data }], guard := none }) (v := ?_) rfl (by kernel_rfl) (by kernel_rfl) (by kernel_rfl) (fun _ _ _ h => h) (Or.inl ⟨by rfl, ?_⟩) (by assumption) ?_
                rotate_left
                · intro w hSw; (try dsimp only at hSw); go_simp <;> first | with_reducible rfl | (rw [if_neg (by first | omega | (simp only [ByteArray.size_append] at *; omega))])
                simp only [Act.put, List.setIfInBounds_toArray, List.set_cons_zero, List.set_cons_succ]
                refine wpAnyH_take (i := 3) (oi := { dst := some 102, op := Go.Op.binOp Go.BinOp.eql 35 (Go.Operand.tmp 101) (Go.Operand.const (Go.Value.int Go.IntKind.u8 2)) 35, type := 4, pos := _, after := #[{ on := 2, ground := Go.Ground.data }], guard := none }) (v := ?_) rfl (by kernel_rfl) (by kernel_rfl) (by kernel_rfl) (fun _ _ _ h => h) (Or.inl ⟨by rfl, ?_⟩) (by assumption) ?_
                rotate_left
                · intro w hSw; (try dsimp only at hSw); go_simp <;> first | with_reducible rfl | (rw [if_neg (by first | omega | (simp only [ByteArray.size_append] at *; omega))])
                simp only [Act.put, List.setIfInBounds_toArray, List.set_cons_zero, List.set_cons_succ]
                refine wpAnyH_take (i := 4) (oi := { dst := some 103, op := Go.Op.move (Go.Operand.tmp 102), type := 4, pos := _, after := #[{ on := 3, ground := Go.Ground.data }], guard := none }) (v := ?_) rfl (by kernel_rfl) (by kernel_rfl) (by kernel_rfl) (fun _ _ _ h => h) (Or.inl ⟨by rfl, ?_⟩) (by assumption) ?_
                rotate_left
                · intro w hSw; (try dsimp only at hSw); go_simp <;> first | with_reducible rfl | (rw [if_neg (by first | omega | (simp only [ByteArray.size_append] at *; omega))])
                simp only [Act.put, List.setIfInBounds_toArray, List.set_cons_zero, List.set_cons_succ]
                refine wpAnyH_take (i := 5) (oi := { dst := some 104, op := Go.Op.move (Go.Operand.tmp 5), type := 45, pos := _, after := #[{ on := 4, ground := Go.Ground.guard }], guard := some (4, true) }) (v := undef) rfl (by kernel_rfl) (by kernel_rfl) (by kernel_rfl) (fun _ _ _ h => h) (Or.inr ⟨by rfl, rfl⟩) (by assumption) ?_
                simp only [Act.put, List.setIfInBounds_toArray, List.set_cons_zero, List.set_cons_succ]
                refine wpAnyH_take (i := 6) (oi := { dst := some 105, op := Go.Op.indexAddr 45 (Go.Operand.tmp 104) (Go.Operand.const (Go.Value.int Go.IntKind.i64 1)), type := 0, pos := _, after := #[{ on := 5, ground := Go.Ground.data }, { on := 4, ground := Go.Ground.guard }], guard := some (4, true) }) (v := undef) rfl (by kernel_rfl) (by kernel_rfl) (by kernel_rfl) (fun _ _ _ h => h) (Or.inr ⟨by rfl, rfl⟩) (by assumption) ?_
                simp only [Act.put, List.setIfInBounds_toArray, List.set_cons_zero, List.set_cons_succ]
                refine wpAnyH_take (i := 7) (oi := { dst := some 106, op := Go.Op.load 35 (Go.Operand.tmp 105), type := 35, pos := _, after := #[{ on := 6, ground := Go.Ground.data }, { on := 4, ground := Go.Ground.guard }], guard := some (4, true) }) (v := undef) rfl (by kernel_rfl) (by kernel_rfl) (by kernel_rfl) (fun _ _ _ h => h) (Or.inr ⟨by rfl, rfl⟩) (by assumption) ?_
                simp only [Act.put, List.setIfInBounds_toArray, List.set_cons_zero, List.set_cons_succ]
                refine wpAnyH_take (i := 8) (oi := { dst := some 107, op := Go.Op.move (Go.Operand.tmp 5), type := 45, pos := _, after := #[{ on := 4, ground := Go.Ground.guard }], guard := some (4, true) }) (v := undef) rfl (by kernel_rfl) (by kernel_rfl) (by kernel_rfl) (fun _ _ _ h => h) (Or.inr ⟨by rfl, rfl⟩) (by assumption) ?_
                simp only [Act.put, List.setIfInBounds_toArray, List.set_cons_zero, List.set_cons_succ]
                refine wpAnyH_take (i := 9) (oi := { dst := some 108, op := Go.Op.indexAddr 45 (Go.Operand.tmp 107) (Go.Operand.const (Go.Value.int Go.IntKind.i64 2)), type := 0, pos := _, after := #[{ on := 8, ground := Go.Ground.data }, { on := 4, ground := Go.Ground.guard }], guard := some (4, true) }) (v := undef) rfl (by kernel_rfl) (by kernel_rfl) (by kernel_rfl) (fun _ _ _ h => h) (Or.inr ⟨by rfl, rfl⟩) (by assumption) ?_
                simp only [Act.put, List.setIfInBounds_toArray, List.set_cons_zero, List.set_cons_succ]
                refine wpAnyH_take (i := 10) (oi := { dst := some 109, op := Go.Op.load 35 (Go.Operand.tmp 108), type := 35, pos := _, after := #[{ on := 9, ground := Go.Ground.data }, { on := 4, ground := Go.Ground.guard }], guard := some (4, true) }) (v := undef) rfl (by kernel_rfl) (by kernel_rfl) (by kernel_rfl) (fun _ _ _ h => h) (Or.inr ⟨by rfl, rfl⟩) (by assumption) ?_
                simp only [Act.put, List.setIfInBounds_toArray, List.set_cons_zero, List.set_cons_succ]
                refine wpAnyH_take (i := 11) (oi := { dst := some 110, op := Go.Op.binOp Go.BinOp.eql 35 (Go.Operand.tmp 106) (Go.Operand.tmp 109) 35, type := 4, pos := _, after := #[{ on := 7, ground := Go.Ground.data }, { on := 10, ground := Go.Ground.data }, { on := 4, ground := Go.Ground.guard }], guard := some (4, true) }) (v := undef) rfl (by kernel_rfl) (by kernel_rfl) (by kernel_rfl) (fun _ _ _ h => h) (Or.inr ⟨by rfl, rfl⟩) (by assumption) ?_
                simp only [Act.put, List.setIfInBounds_toArray, List.set_cons_zero, List.set_cons_succ]
                refine wpAnyH_take (i := 12) (oi := { dst := some 111, op := Go.Op.pick (Go.Operand.tmp 103) (Go.Operand.tmp 110) (Go.Operand.const (Go.Value.bool false)), type := 4, pos := _, after := #[{ on := 4, ground := Go.Ground.data }, { on := 11, ground := Go.Ground.data }], guard := none }) (v := ?_) rfl (by kernel_rfl) (by kernel_rfl) (by kernel_rfl) (fun _ _ _ h => h) (Or.inl ⟨by rfl, ?_⟩) (by assumption) ?_
                rotate_left
                · intro w hSw; (try dsimp only at hSw); go_simp <;> first | with_reducible rfl | (rw [if_neg (by first | omega | (simp only [ByteArray.size_append] at *; omega))])
                simp only [Act.put, List.setIfInBounds_toArray, List.set_cons_zero, List.set_cons_succ]
                refine wpAnyH_done (by kernel_rfl) ?_ _
                go_wp2_with (fail)
                go_ret
                exact ⟨by rw [HV.out]; rfl, below_drewN HBW.out _⟩
            · have q0 : wr.cell? ⟨w.heap.size + 1, 0, none⟩ = some (.int .u8 18) := by rw [cell_kept Q0 HY.out.below, hop']; rfl
              have HV : Hid (tyE p x = com ts) := hid (by rw [tyE_eq, HTS.out]; simp [hop', ruleT])
              have HBW := hid (bstep B2.out HY.out.below)
              generalize com ts = tc at *
              go_wp2_with (fail)
              go_ret
              exact ⟨by rw [HV.out]; rfl, HBW.out⟩
            · have q0 : wr.cell? ⟨w.heap.size + 1, 0, none⟩ = some (.int .u8 19) := by rw [cell_kept Q0 HY.out.below, hop']; rfl
              have HV : Hid (tyE p x = com ts) := hid (by rw [tyE_eq, HTS.out]; simp [hop', ruleT])
              have HBW := hid (bstep B2.out HY.out.below)
              generalize com ts = tc at *
              go_wp2_with (fail)
              go_ret
              exact ⟨by rw [HV.out]; rfl, HBW.out⟩
      · have h0' : ¬ (0 : Int) < (ts.length : Int) := by omega
        have hts : ts = [] := List.eq_nil_of_length_eq_zero (by omega)
        have q2 := cell_kept Q2 HY.out.below
        have hopp : x.op = 1 ∨ x.op = 2 ∨ x.op = 3 := by
          by_cases h1 : x.op = 1
          · omega
          by_cases h2 : x.op = 2
          · omega
          by_cases h3 : x.op = 3
          · omega
          have := ok_parts HF.out h1 h2 h3
          have := HTL.out
          omega
        subst hts
        go_wp2_with (fail)
        go_loopw [8] (fun i wr' => i = .int .i64 1 ∧ wr' = wr) (fun _ _ => 0)
        case atStart => exact ⟨rfl, rfl⟩
        case round =>
          obtain ⟨rfl, rfl⟩ := hrel
          obtain hop' | hop' | hop' := hopp
          · have q0 : wr.cell? ⟨w.heap.size + 1, 0, none⟩ = some (.int .u8 1) := by rw [cell_kept Q0 HY.out.below, hop']; rfl
            have HV : Hid (tyE p x = 1) := hid (by rw [tyE_eq]; simp [hop'])
            have HBW := hid (bstep B2.out HY.out.below)
            go_wp2_with (fail)
            go_ret
            exact ⟨by rw [HV.out]; rfl, HBW.out⟩
          · have q0 : wr.cell? ⟨w.heap.size + 1, 0, none⟩ = some (.int .u8 2) := by rw [cell_kept Q0 HY.out.below, hop']; rfl
            have HV : Hid (tyE p x = 2) := hid (by rw [tyE_eq]; simp [hop'])
            have HBW := hid (bstep B2.out HY.out.below)
            go_wp2_with (fail)
            go_ret
            exact ⟨by rw [HV.out]; rfl, HBW.out⟩
          · have q0 : wr.cell? ⟨w.heap.size + 1, 0, none⟩ = some (.int .u8 3) := by rw [cell_kept Q0 HY.out.below, hop']; rfl
            have HV : Hid (tyE p x = tyN p x.name) := hid (by rw [tyE_eq]; simp [hop'])
            have HBW := hid (bstep B2.out HY.out.below)
            have r0 := cell_kept R0 HY.out.below
            have r1 := cell_kept R1 HY.out.below
            have r2 := cell_kept R2 HY.out.below
            have r3 := cell_kept R3 HY.out.below
            have c35 := rfind p x.name _ _ _ _ (HP.out.keep HBW.out)
            obtain ⟨v1, v2, v3, v4, hfo, hty⟩ : ∃ (v1 : Int) (v2 : Nat) (v3 : Int) (v4 : Bool), foV (findT (thingsL p) x.name) = #[.int .i64 v1, .int .u8 (v2 : Int), .int .i64 v3, .bool v4] ∧ tyN p x.name = if v2 = 1 ∨ v2 = 2 then v2 else 0 := by
              unfold tyN
              cases findT (thingsL p) x.name with
              | none => exact ⟨0, 0, 0, false, rfl, rfl⟩
              | some z => exact ⟨z.2.st, z.2.ty, z.1, true, rfl, rfl⟩
            rw [hfo] at c35
            have HTY := hid hty
            clear hty hfo
            go_wp2_with (fail)
            refine c35.mono ?_
            rintro e w4 ⟨rfl, hb4⟩
            have HB4 := hid (bstep HBW.out hb4)
            clear hb4
            by_cases h1 : v2 = 1
            · have e1 : ((v2 : Int) == 1) = true := by rw [beq_iff_eq]; omega
              have HV2 : Hid (tyE p x = v2) := hid (by rw [HV.out, HTY.out, if_pos (.inl h1)])
              clear h1
              go_wp2_with (fail)
              go_ret
              exact ⟨by rw [HV2.out]; rfl, HB4.out⟩
            · have e1 : ((v2 : Int) == 1) = false := by rw [beq_eq_false_iff_ne]; omega
              by_cases h2 : v2 = 2
              · have e2 : ((v2 : Int) == 2) = true := by rw [beq_iff_eq]; omega
                have HV2 : Hid (tyE p x = v2) := hid (by rw [HV.out, HTY.out, if_pos (.inr h2)])
                clear h1 h2
                go_wp2_with (fail)
                go_ret
                exact ⟨by rw [HV2.out]; rfl, HB4.out⟩
              · have e2 : ((v2 : Int) == 2) = false := by rw [beq_eq_false_iff_ne]; omega
                have HV2 : Hid (tyE p x = 0) := hid (by rw [HV.out, HTY.out, if_neg (by omega)])
                clear h1 h2
                go_wp2_with (fail)
                go_ret
                exact ⟨by rw [HV2.out]; rfl, HB4.out⟩
theorem rof_d (p : Pg) : ∀ (d : Nat) (x : Ex), okD d x → RTyC p x
  | 0, _, h => h.elim
  | d + 1, x, h => rof_any p d (fun y hy => rof_d p d y hy) x h
theorem rof_ok (p : Pg) (x : Ex) (h : chk x = true) : RTyC p x := rof_d p 32 x (chk_ok h)
end Go.Proofs.YtakjkhfglihggaaDoor.Lex
