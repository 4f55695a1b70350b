/-
  Whether the twin of a program's rows is as it was: the contracts of LeftIns, LeftTexts, LeftFlow, LeftFlows and LeftProg.
-/
import Derived.Test.YtilpoiihoikhlaaTwinPg
import Derived.Test.YtilpoiihoikhlaaLeft
import Derived.Deep.QuietTactic
namespace Go.Proofs.Ytilpoiihoikhlaa.Lex
open Go.ChangeShapes Go.WideShapes Go.ChangeAt Go.RowKit Go.Joins
theorem below_drewN {B : Nat} {a w : World} (h : Below B a w) (n : Nat) : Below B a (w.drewN n) := h.trans ⟨rfl, rfl, rfl, Nat.le_refl _, fun _ _ => rfl⟩
set_option maxRecDepth 100000 in
set_option maxHeartbeats 2000000 in
theorem left_ins (l : List Hd) (w : World) (lo : Nat) (st s : Value) (hT : TwIns w lo l st) (hS : InsAt w l s) :
    Calls Try.prog 15 #[st, s] w fun e w' => e = .returned (.bool true) ∧ Below w.heap.size w w' := by
  obtain ⟨ao, cap, rfl, hlen, _, _, hc⟩ := hS
  obtain ⟨b, cp, rfl, _, _, hcp, _, htc, hsp⟩ := hT
  have HC := hid hc
  have HT := hid htc
  have HP := hid hsp
  have hne : ((l.length : Int) != (l.length : Int)) = false := by simp
  have hcp' : ¬ (cp : Int) ≤ (l.length : Int) := by omega
  clear hc htc hsp
  go_enter Try.func15, Try.ntmps15
  go_wp2
  go_loopw [5] (fun i wr => ∃ k : Nat, k ≤ l.length ∧ i = .int .i64 (k : Int) ∧ Hid (Below w.heap.size w wr)) (fun i _ => l.length - (intOf i).toNat)
  case atStart => exact ⟨0, Nat.zero_le _, rfl, Below.refl _ _⟩
  case round =>
    obtain ⟨k, hk, rfl, hB⟩ := hrel
    by_cases hlt : k < l.length
    · have hlt' : (k : Int) < (l.length : Int) := by omega
      have hk0 : (0 : Int) ≤ (k : Int) := by omega
      obtain ⟨bb, o, rfl, hcc⟩ := HC.out.resolve_left (by omega)
      obtain ⟨v0, v1, v2⟩ := (hcc k hlt).keep hB.out
      obtain ⟨u0, u1, u2⟩ := (HT.out k hlt).keep hB.out
      clear hcc
      generalize l[k] = y at *
      generalize y.name = N at *
      generalize y.ty = Y at *
      generalize y.st = Z at *
      go_wp2
      go_quiet (fail)
      go_wp2
      go_roundw
      case rel => exact ⟨k + 1, by omega, by go_num, below_drewN hB.out _⟩
      case measure => simp [intOf]; omega
    · have hlt' : ¬ (k : Int) < (l.length : Int) := by omega
      obtain ⟨q0, q1, q2⟩ := HP.out.keep hB.out
      unfold spare at q0
      have hle1 : (l.length : Int) + 1 ≤ (cp : Int) := by omega
      have hle2 : (l.length : Int) < (l.length : Int) + 1 := by omega
      have hle3 : (0 : Int) ≤ (l.length : Int) := by omega
      go_wp2
      go_ret
      exact ⟨rfl, bstep hB.out ((Below.refl _ _).alloc (Nat.le_refl _) _)⟩
set_option maxRecDepth 100000 in
set_option maxHeartbeats 2000000 in
theorem left_texts (l : List ByteArray) (w : World) (lo : Nat) (st s : Value) (hT : TwTexts w lo l st) (hS : TextsAt w l s) :
    Calls Try.prog 17 #[st, s] w fun e w' => e = .returned (.bool true) ∧ Below w.heap.size w w' := by
  obtain ⟨ao, cap, rfl, hlen, _, _, hc⟩ := hS
  obtain ⟨b, cp, rfl, _, _, hcp, _, htc, hsp⟩ := hT
  have HC := hid hc
  have HT := hid htc
  have HP := hid hsp
  have hne : ((l.length : Int) != (l.length : Int)) = false := by simp
  have hcp' : ¬ (cp : Int) ≤ (l.length : Int) := by omega
  clear hc htc hsp
  go_enter Try.func17, Try.ntmps17
  go_wp2
  go_loopw [5] (fun i wr => ∃ k : Nat, k ≤ l.length ∧ i = .int .i64 (k : Int) ∧ Hid (Below w.heap.size w wr)) (fun i _ => l.length - (intOf i).toNat)
  case atStart => exact ⟨0, Nat.zero_le _, rfl, Below.refl _ _⟩
  case round =>
    obtain ⟨k, hk, rfl, hB⟩ := hrel
    by_cases hlt : k < l.length
    · have hlt' : (k : Int) < (l.length : Int) := by omega
      have hk0 : (0 : Int) ≤ (k : Int) := by omega
      obtain ⟨bb, o, rfl, hcc⟩ := HC.out.resolve_left (by omega)
      have v0 := cell_kept (hcc k hlt) hB.out
      have u0 := cell_kept (HT.out k hlt) hB.out
      clear hcc
      generalize l[k] = N at *
      go_wp2
      go_quiet (fail)
      go_wp2
      go_roundw
      case rel => exact ⟨k + 1, by omega, by go_num, below_drewN hB.out _⟩
      case measure => simp [intOf]; omega
    · have hlt' : ¬ (k : Int) < (l.length : Int) := by omega
      have q0 := cell_kept HP.out hB.out
      unfold spare at q0
      have hle1 : (l.length : Int) + 1 ≤ (cp : Int) := by omega
      have hle2 : (l.length : Int) < (l.length : Int) + 1 := by omega
      have hle3 : (0 : Int) ≤ (l.length : Int) := by omega
      go_wp2
      go_ret
      exact ⟨rfl, hB.out⟩
set_option maxRecDepth 100000 in
set_option maxHeartbeats 1000000 in
theorem left_flow (x : Fl) (w : World) (lo : Nat) (st s : Value) (hT : Tw w lo x.body st) (hS : St w x.body s) :
    Calls Try.prog 23 #[flV x st, flV x s] w fun e w' => e = .returned (.bool true) ∧ Below w.heap.size w w' := by
  have hs := fun W hT hS => left_any _ x.body (Nat.le_refl _) W lo st s hT hS
  obtain ⟨ao, cap, sl, rfl, _⟩ := hS.out
  obtain ⟨b, cp, tl, rfl, _⟩ := hT.out
  have e0 : (x.name.toList == x.name.toList) = true := by simp
  have e1 : ((x.ty : Int) == (x.ty : Int)) = true := by simp
  have e2 : (x.st == x.st) = true := by simp
  have e3 : (x.df == x.df) = true := by simp
  have b1 := (Below.refl w.heap.size w).alloc (Nat.le_refl _) (.cells #[.string x.name, .int .u8 (x.ty : Int), .int .i64 x.st, .int .i64 x.df, .int .u8 (x.body.op : Int), .int .i64 x.body.n, .string x.body.name, .slice (some ⟨b, 0, none⟩) x.body.args.length cp] 50)
  have b2 := bstep b1 ((Below.refl _ _).alloc (Nat.le_refl _) (.cells #[.string x.name, .int .u8 (x.ty : Int), .int .i64 x.st, .int .i64 x.df, .int .u8 (x.body.op : Int), .int .i64 x.body.n, .string x.body.name, .slice ao x.body.args.length cap] 50))
  have HT := hid (hT.keep b2)
  have HS := hid (hS.keep b2)
  have HB := hid b2
  clear hT hS b1 b2
  go_enter Try.func23, Try.ntmps23
  go_wp2_with (go_at_call 26; refine (hs _ HT.out HS.out).mono ?_; rintro e w2 ⟨rfl, hb2⟩)
  go_ret
  exact ⟨rfl, bstep HB.out hb2⟩
set_option maxRecDepth 100000 in
set_option maxHeartbeats 2000000 in
theorem left_flows (l : List Fl) (w : World) (lo : Nat) (st s : Value) (hT : TwFlows w lo l st) (hS : FlowsAt w l s) :
    Calls Try.prog 16 #[st, s] w fun e w' => e = .returned (.bool true) ∧ Below w.heap.size w w' := by
  obtain ⟨ao, cap, sl, rfl, hlen, _, _, hc, hs⟩ := hS
  obtain ⟨b, cp, tl, rfl, _, _, hcp, _, htc, hsp, hts⟩ := hT
  have HC := hid hc
  have HT := hid htc
  have HP := hid hsp
  have HS := hid hs
  have HTS := hid hts
  have hne : ((l.length : Int) != (l.length : Int)) = false := by simp
  have hcp' : ¬ (cp : Int) ≤ (l.length : Int) := by omega
  clear hc htc hsp hs hts
  go_enter Try.func16, Try.ntmps16
  go_wp2
  go_loopw [5] (fun i wr => ∃ k : Nat, k ≤ l.length ∧ i = .int .i64 (k : Int) ∧ Hid (Below w.heap.size w wr)) (fun i _ => l.length - (intOf i).toNat)
  case atStart => exact ⟨0, Nat.zero_le _, rfl, Below.refl _ _⟩
  case round =>
    obtain ⟨k, hk, rfl, hB⟩ := hrel
    by_cases hlt : k < l.length
    · have hlt' : (k : Int) < (l.length : Int) := by omega
      have hk0 : (0 : Int) ≤ (k : Int) := by omega
      obtain ⟨bb, o, rfl, hcc⟩ := HC.out.resolve_left (by omega)
      have X := (hcc k hlt).keep hB.out
      have Y := (HT.out k hlt).keep hB.out
      have hst := HS.out k hlt
      have htw := HTS.out k hlt
      clear hcc
      generalize l[k] = y at *
      generalize sl k = sv at *
      generalize tl k = tv at *
      obtain ⟨a3, c3, _, rfl, _⟩ := hst.out
      obtain ⟨b2, c2, _, rfl, _⟩ := htw.out
      obtain ⟨v0, v1, v2, v3, v4, v5, v6, v7⟩ := X
      obtain ⟨u0, u1, u2, u3, u4, u5, u6, u7⟩ := Y
      have c := fun W (hb : Below w.heap.size w W) => left_flow y W lo _ _ (htw.keep hb) (hst.keep hb)
      clear hst htw
      go_wp2
      refine wp_region_held_drew (S := fun W => (W.cell? ⟨b, k * 8, none⟩ = some (.string y.name) ∧ W.cell? ⟨b, k * 8 + 1, none⟩ = some (.int .u8 (y.ty : Int)) ∧ W.cell? ⟨b, k * 8 + 2, none⟩ = some (.int .i64 y.st) ∧ W.cell? ⟨b, k * 8 + 3, none⟩ = some (.int .i64 y.df) ∧ W.cell? ⟨b, k * 8 + 4, none⟩ = some (.int .u8 (y.body.op : Int)) ∧ W.cell? ⟨b, k * 8 + 5, none⟩ = some (.int .i64 y.body.n) ∧ W.cell? ⟨b, k * 8 + 6, none⟩ = some (.string y.body.name) ∧ W.cell? ⟨b, k * 8 + 7, none⟩ = some (.slice (some ⟨b2, 0, none⟩) y.body.args.length c2)) ∧ W.cell? ⟨bb, o + k * 8, none⟩ = some (.string y.name) ∧ W.cell? ⟨bb, o + k * 8 + 1, none⟩ = some (.int .u8 (y.ty : Int)) ∧ W.cell? ⟨bb, o + k * 8 + 2, none⟩ = some (.int .i64 y.st) ∧ W.cell? ⟨bb, o + k * 8 + 3, none⟩ = some (.int .i64 y.df) ∧ W.cell? ⟨bb, o + k * 8 + 4, none⟩ = some (.int .u8 (y.body.op : Int)) ∧ W.cell? ⟨bb, o + k * 8 + 5, none⟩ = some (.int .i64 y.body.n) ∧ W.cell? ⟨bb, o + k * 8 + 6, none⟩ = some (.string y.body.name) ∧ W.cell? ⟨bb, o + k * 8 + 7, none⟩ = some (.slice a3 y.body.args.length c3)) (by kernel_rfl) ?_ (fun hHeld => ?_)
      · exact ⟨⟨u0, u1, u2, u3, u4, u5, u6, u7⟩, v0, v1, v2, v3, v4, v5, v6, v7⟩
      refine wpAnyH_take (i := 0) (oi := { dst := some 25, op := Go.Op.move (Go.Operand.tmp 0), type := 23, pos := _, after := #[], guard := none }) (v := ?_) rfl (by kernel_rfl) (by kernel_rfl) (by kernel_rfl) (fun _ _ _ h => h) (Or.inl ⟨by rfl, ?_⟩) (by assumption) ?_
      rotate_left
      · intro w hSw; (try dsimp only at hSw); go_simp <;> first | with_reducible rfl | (rw [if_neg (by first | omega | (simp only [ByteArray.size_append] at *; omega))])
      simp only [Act.put, List.setIfInBounds_toArray, List.set_cons_zero, List.set_cons_succ]
      refine wpAnyH_take (i := 1) (oi := { dst := some 26, op := Go.Op.move (Go.Operand.tmp 5), type := 3, pos := _, after := #[], guard := none }) (v := ?_) rfl (by kernel_rfl) (by kernel_rfl) (by kernel_rfl) (fun _ _ _ h => h) (Or.inl ⟨by rfl, ?_⟩) (by assumption) ?_
      rotate_left
      · intro w hSw; (try dsimp only at hSw); go_simp <;> first | with_reducible rfl | (rw [if_neg (by first | omega | (simp only [ByteArray.size_append] at *; omega))])
      simp only [Act.put, List.setIfInBounds_toArray, List.set_cons_zero, List.set_cons_succ]
      refine wpAnyH_take (i := 2) (oi := { dst := some 27, op := Go.Op.indexAddr 23 (Go.Operand.tmp 25) (Go.Operand.tmp 26), type := 0, pos := _, after := #[{ on := 0, ground := Go.Ground.data }, { on := 1, ground := Go.Ground.data }], guard := none }) (v := ?_) rfl (by kernel_rfl) (by kernel_rfl) (by kernel_rfl) (fun _ _ _ h => h) (Or.inl ⟨by rfl, ?_⟩) (by assumption) ?_
      rotate_left
      · intro w hSw; (try dsimp only at hSw); go_simp <;> first | with_reducible rfl | (rw [if_neg (by first | omega | (simp only [ByteArray.size_append] at *; omega))])
      simp only [Act.put, List.setIfInBounds_toArray, List.set_cons_zero, List.set_cons_succ]
      refine wpAnyH_take (i := 3) (oi := { dst := some 28, op := Go.Op.load 50 (Go.Operand.tmp 27), type := 50, pos := _, after := #[{ on := 2, ground := Go.Ground.data }], guard := none }) (v := ?_) rfl (by kernel_rfl) (by kernel_rfl) (by kernel_rfl) (fun _ _ _ h => h) (Or.inl ⟨by rfl, ?_⟩) (by assumption) ?_
      rotate_left
      · intro w hSw; (try dsimp only at hSw); go_simp <;> first | with_reducible rfl | (rw [if_neg (by first | omega | (simp only [ByteArray.size_append] at *; omega))])
      simp only [Act.put, List.setIfInBounds_toArray, List.set_cons_zero, List.set_cons_succ]
      refine wpAnyH_take (i := 4) (oi := { dst := some 29, op := Go.Op.move (Go.Operand.tmp 1), type := 23, pos := _, after := #[], guard := none }) (v := ?_) rfl (by kernel_rfl) (by kernel_rfl) (by kernel_rfl) (fun _ _ _ h => h) (Or.inl ⟨by rfl, ?_⟩) (by assumption) ?_
      rotate_left
      · intro w hSw; (try dsimp only at hSw); go_simp <;> first | with_reducible rfl | (rw [if_neg (by first | omega | (simp only [ByteArray.size_append] at *; omega))])
      simp only [Act.put, List.setIfInBounds_toArray, List.set_cons_zero, List.set_cons_succ]
      refine wpAnyH_take (i := 5) (oi := { dst := some 30, op := Go.Op.move (Go.Operand.tmp 5), type := 3, pos := _, after := #[], guard := none }) (v := ?_) rfl (by kernel_rfl) (by kernel_rfl) (by kernel_rfl) (fun _ _ _ h => h) (Or.inl ⟨by rfl, ?_⟩) (by assumption) ?_
      rotate_left
      · intro w hSw; (try dsimp only at hSw); go_simp <;> first | with_reducible rfl | (rw [if_neg (by first | omega | (simp only [ByteArray.size_append] at *; omega))])
      simp only [Act.put, List.setIfInBounds_toArray, List.set_cons_zero, List.set_cons_succ]
      refine wpAnyH_take (i := 6) (oi := { dst := some 31, op := Go.Op.indexAddr 23 (Go.Operand.tmp 29) (Go.Operand.tmp 30), type := 0, pos := _, after := #[{ on := 4, ground := Go.Ground.data }, { on := 5, ground := Go.Ground.data }], guard := none }) (v := ?_) rfl (by kernel_rfl) (by kernel_rfl) (by kernel_rfl) (fun _ _ _ h => h) (Or.inl ⟨by rfl, ?_⟩) (by assumption) ?_
      rotate_left
      · intro w hSw; (try dsimp only at hSw); go_simp <;> first | with_reducible rfl | (rw [if_neg (by first | omega | (simp only [ByteArray.size_append] at *; omega))])
      simp only [Act.put, List.setIfInBounds_toArray, List.set_cons_zero, List.set_cons_succ]
      refine wpAnyH_take (i := 7) (oi := { dst := some 32, op := Go.Op.load 50 (Go.Operand.tmp 31), type := 50, pos := _, after := #[{ on := 6, ground := Go.Ground.data }], guard := none }) (v := ?_) rfl (by kernel_rfl) (by kernel_rfl) (by kernel_rfl) (fun _ _ _ h => h) (Or.inl ⟨by rfl, ?_⟩) (by assumption) ?_
      rotate_left
      · intro w hSw; (try dsimp only at hSw); go_simp <;> first | with_reducible rfl | (rw [if_neg (by first | omega | (simp only [ByteArray.size_append] at *; omega))])
      simp only [Act.put, List.setIfInBounds_toArray, List.set_cons_zero, List.set_cons_succ]
      refine wpAnyH_ready (rs := [8]) (by kernel_rfl) (by simp) ?_
      refine AllReadyH.cons (o := { dst := some 33, op := Go.Op.call { callee := Go.Callee.value (Go.Operand.func 23), args := #[Go.Operand.tmp 28, Go.Operand.tmp 32], argTypes := #[50, 50] }, type := 4, pos := _, after := #[{ on := 3, ground := Go.Ground.data }, { on := 7, ground := Go.Ground.data }], guard := none }) rfl (fun K hK => ?_) AllReadyH.nil
      go_simp
      refine (c _ (hB.out.drew)).mono ?_
      rintro e w4 ⟨rfl, hb4⟩
      go_wp2_with fail
      refine hK.out _ _ ?_ (fun hHeld1 => ?_)
      · exact ⟨⟨cell_kept (w := wr.drew) u0 hb4, cell_kept (w := wr.drew) u1 hb4, cell_kept (w := wr.drew) u2 hb4, cell_kept (w := wr.drew) u3 hb4, cell_kept (w := wr.drew) u4 hb4, cell_kept (w := wr.drew) u5 hb4, cell_kept (w := wr.drew) u6 hb4, cell_kept (w := wr.drew) u7 hb4⟩, cell_kept (w := wr.drew) v0 hb4, cell_kept (w := wr.drew) v1 hb4, cell_kept (w := wr.drew) v2 hb4, cell_kept (w := wr.drew) v3 hb4, cell_kept (w := wr.drew) v4 hb4, cell_kept (w := wr.drew) v5 hb4, cell_kept (w := wr.drew) v6 hb4, cell_kept (w := wr.drew) v7 hb4⟩
      clear hK K
      refine wpAnyH_take (i := 9) (oi := { dst := some 34, op := Go.Op.unOp Go.UnOp.not 4 (Go.Operand.tmp 33), type := 4, pos := _, after := #[{ on := 8, ground := Go.Ground.data }], guard := none }) (v := ?_) rfl (by kernel_rfl) (by kernel_rfl) (by kernel_rfl) (fun _ _ _ h => h) (Or.inl ⟨by rfl, ?_⟩) (by assumption) ?_
      rotate_left
      · intro w hSw; (try dsimp only at hSw); go_simp <;> first | with_reducible rfl | (rw [if_neg (by first | omega | (simp only [ByteArray.size_append] at *; omega))])
      simp only [Act.put, List.setIfInBounds_toArray, List.set_cons_zero, List.set_cons_succ]
      refine wpAnyH_done (by kernel_rfl) ?_ _
      go_wp2
      go_roundw
      case rel => exact ⟨k + 1, by omega, by go_num, bstep hB.out.drew hb4⟩
      case measure => simp [intOf]; omega
    · have hlt' : ¬ (k : Int) < (l.length : Int) := by omega
      have Q := HP.out.keep hB.out
      simp only [FlCells, spare] at Q
      obtain ⟨q0, q1, q2, q3, q4, q5, q6, q7⟩ := Q
      have hle1 : (l.length : Int) + 1 ≤ (cp : Int) := by omega
      have hle2 : (l.length : Int) < (l.length : Int) + 1 := by omega
      have hle3 : (0 : Int) ≤ (l.length : Int) := by omega
      go_wp2
      go_ret
      exact ⟨rfl, bstep hB.out ((Below.refl _ _).alloc (Nat.le_refl _) _)⟩
set_option maxRecDepth 100000 in
set_option maxHeartbeats 1000000 in
theorem left_prog (p : Pg) (w : World) (lo : Nat) (a b c a' b' c' : Value) (hT : TwPg w lo p a b c) (hP : PgAt w p a' b' c') :
    Calls Try.prog 9 #[pgV p a b c, pgV p a' b' c'] w fun e w' => e = .returned (.bool true) ∧ Below w.heap.size w w' := by
  obtain ⟨a0, a1, rfl, _⟩ := hT.at.ins
  obtain ⟨b0, b1, _, rfl, _⟩ := hT.at.flows
  obtain ⟨c0, c1, rfl, _⟩ := hT.at.outs
  obtain ⟨a2, a3, rfl, _⟩ := hP.ins
  obtain ⟨b2, b3, _, rfl, _⟩ := hP.flows
  obtain ⟨c2, c3, rfl, _⟩ := hP.outs
  have e0 : (p.st == p.st) = true := by simp
  have bb := bstep ((Below.refl w.heap.size w).alloc (Nat.le_refl _) (.cells (pgC p (.slice a0 p.ins.length a1) (.slice b0 p.flows.length b1) (.slice c0 p.outs.length c1)) 26)) ((Below.refl _ _).alloc (Nat.le_refl _) (.cells (pgC p (.slice a2 p.ins.length a3) (.slice b2 p.flows.length b3) (.slice c2 p.outs.length c3)) 26))
  have HT := hid (hT.keep bb)
  have HP := hid (hP.keep bb)
  have HB := hid bb
  have x0 : ∀ j v, (pgC p (.slice a0 p.ins.length a1) (.slice b0 p.flows.length b1) (.slice c0 p.outs.length c1))[j]? = some v → ((w.alloc (.cells (pgC p (.slice a0 p.ins.length a1) (.slice b0 p.flows.length b1) (.slice c0 p.outs.length c1)) 26)).alloc (.cells (pgC p (.slice a2 p.ins.length a3) (.slice b2 p.flows.length b3) (.slice c2 p.outs.length c3)) 26)).cell? ⟨w.heap.size, j, none⟩ = some v := box_first w (pgC p (.slice a0 p.ins.length a1) (.slice b0 p.flows.length b1) (.slice c0 p.outs.length c1)) (pgC p (.slice a2 p.ins.length a3) (.slice b2 p.flows.length b3) (.slice c2 p.outs.length c3)) 26
  have x2 := x0 2 (.slice b0 p.flows.length b1) rfl
  have x3 := x0 3 (.slice c0 p.outs.length c1) rfl
  have y0 := box_at (w.alloc (.cells (pgC p (.slice a0 p.ins.length a1) (.slice b0 p.flows.length b1) (.slice c0 p.outs.length c1)) 26)) (pgC p (.slice a2 p.ins.length a3) (.slice b2 p.flows.length b3) (.slice c2 p.outs.length c3)) 26
  rw [World.size_alloc] at y0
  have y2 := y0 2 (.slice b2 p.flows.length b3) rfl
  have y3 := y0 3 (.slice c2 p.outs.length c3) rfl
  clear hT hP bb x0 y0
  go_enter Try.func9, Try.ntmps9
  go_wp2_with (first
    | (go_at_call 15; refine (left_ins _ _ _ _ _ HT.out.ins HP.out.ins).mono ?_; rintro e w1 ⟨rfl, hb1⟩; have x12 := cell_kept x2 hb1; have x13 := cell_kept x3 hb1; have y12 := cell_kept y2 hb1; have y13 := cell_kept y3 hb1; have HT1 := hid (HT.out.keep hb1); have HP1 := hid (HP.out.keep hb1); have HB1 := hid (bstep HB.out hb1); clear x2 x3 y2 y3 HT HP hb1)
    | (go_at_call 16; refine (left_flows _ _ _ _ _ HT1.out.flows HP1.out.flows).mono ?_; rintro e w2 ⟨rfl, hb2⟩; have x23 := cell_kept x13 hb2; have y23 := cell_kept y13 hb2; have HT2 := hid (HT1.out.keep hb2); have HP2 := hid (HP1.out.keep hb2); have HB2 := hid (bstep HB1.out hb2); clear x12 x13 y12 y13 HT1 HP1 hb2)
    | (go_at_call 17; refine (left_texts _ _ _ _ _ HT2.out.outs HP2.out.outs).mono ?_; rintro e w3 ⟨rfl, hb3⟩; have HB3 := hid (bstep HB2.out hb3); clear x23 y23 HT2 HP2 hb3))
  go_ret
  exact ⟨rfl, HB3.out⟩
end Go.Proofs.Ytilpoiihoikhlaa.Lex
