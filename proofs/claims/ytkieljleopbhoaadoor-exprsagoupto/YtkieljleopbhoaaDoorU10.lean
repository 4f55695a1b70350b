/-
  Whether the twin is as it was: the contracts of LeftExprs and LeftExpr.
  The walk of the law on what is written, whatever it is.
  What is worked out that came in, opened once.
  What the package-level variables hold when the law on what is written begins.
  What the package-level variables hold when a law on what is read begins.
-/
import Derived.Test.YtkieljleopbhoaaDoorU2
import Derived.Test.YtkieljleopbhoaaDoorU9
import Derived.Test.YtkieljleopbhoaaDoorU1
import Derived.Test.YtkieljleopbhoaaDoorTie
import Derived.Test.YtkieljleopbhoaaDoorCards
import Derived.ProofKit
import Derived.OpenShut
import Derived.ShutString
import Derived.ChangeOld
import Derived.LaidMore
import Derived.SizedLaws
import Derived.Lib.LaidTab
import Derived.Lib.SmallJoins
import Derived.Stop.LaidErr
import Derived.Test.YtkieljleopbhoaaDoorU6
import Derived.Test.YtkieljleopbhoaaDoorU7
namespace Go.Proofs.YtkieljleopbhoaaDoor.Lex
open Go.ChangeShapes Go.WideShapes Go.ChangeAt Go.RowKit Go.Joins
def LeftC (x : Ex) : Prop := ∀ (w : World) (lo : Nat) (st s : Value), Tw w lo x st → St w x s → Calls Tryd.prog 13 #[exV x st, exV x s] w fun e w' => e = .returned (.bool true) ∧ Below w.heap.size w w'
theorem Tw.out {w : World} {lo : Nat} {x : Ex} {s : Value} (h : Tw w lo x s) : ∃ (b cap : Nat) (sl : Nat → Value), s = .slice (some ⟨b, 0, none⟩) x.args.length cap ∧ x.args.length ≤ 2513169434843 ∧ x.args.length < cap ∧
    (∀ i (h : i < x.args.length), w.cell? ⟨b, i * 4, none⟩ = some (.int .u8 (x.args[i].op : Int)) ∧ w.cell? ⟨b, i * 4 + 1, none⟩ = some (.int .i64 x.args[i].n) ∧ w.cell? ⟨b, i * 4 + 2, none⟩ = some (.string x.args[i].name) ∧ w.cell? ⟨b, i * 4 + 3, none⟩ = some (sl i)) ∧
    (w.cell? ⟨b, x.args.length * 4, none⟩ = some (.int .u8 0) ∧ w.cell? ⟨b, x.args.length * 4 + 1, none⟩ = some (.int .i64 0) ∧ w.cell? ⟨b, x.args.length * 4 + 2, none⟩ = some (.string spare) ∧ w.cell? ⟨b, x.args.length * 4 + 3, none⟩ = some (.slice none 0 0)) ∧
    ∀ i (h : i < x.args.length), Tw w lo x.args[i] (sl i) := by
  obtain ⟨b, cap, sl, e, _, _, _, _, hlen, hcap, hc, hsp, hs⟩ := h.full
  exact ⟨b, cap, sl, e, hlen, hcap, hc, hsp, hs⟩
set_option maxRecDepth 100000 in
set_option maxHeartbeats 2000000 in
theorem lefts (x : Ex) (ih : ∀ i (h : i < x.args.length), LeftC x.args[i]) (w : World) (lo : Nat) (st s : Value) (hT : Tw w lo x st) (hS : St w x s) :
    Calls Tryd.prog 29 #[st, s] w fun e w' => e = .returned (.bool true) ∧ Below w.heap.size w w' := by
  obtain ⟨ao, cap, sl, rfl, _, _, _, hlen, _, hc, hs⟩ := hS.out
  obtain ⟨b, cp, tl, rfl, _, hcp, htc, hsp, hts⟩ := hT.out
  have HS := hid hs
  have HC := hid hc
  have HI := hid ih
  have HT := hid htc
  have HTS := hid hts
  have HP := hid hsp
  have hne : ((x.args.length : Int) != (x.args.length : Int)) = false := by simp
  have hcp' : ¬ (cp : Int) ≤ (x.args.length : Int) := by omega
  clear hs hc ih hS hT htc hts hsp
  go_enter Tryd.func29, Tryd.ntmps29
  go_wp2
  go_loopw [5] (fun i wr => ∃ k : Nat, k ≤ x.args.length ∧ i = .int .i64 (k : Int) ∧ Hid (Below w.heap.size w wr)) (fun i _ => x.args.length - (intOf i).toNat)
  case atStart => exact ⟨0, Nat.zero_le _, rfl, Below.refl _ _⟩
  case round =>
    obtain ⟨k, hk, rfl, hB⟩ := hrel
    by_cases hlt : k < x.args.length
    · have hlt' : (k : Int) < (x.args.length : Int) := by omega
      have hk0 : (0 : Int) ≤ (k : Int) := by omega
      obtain ⟨bb, o, rfl, hcc⟩ := HC.out.resolve_left (by omega)
      obtain ⟨a0, a1, a2, a3⟩ := hcc k hlt
      obtain ⟨t0, t1, t2, t3⟩ := HT.out k hlt
      have v0 := cell_kept a0 hB.out
      have v1 := cell_kept a1 hB.out
      have v2 := cell_kept a2 hB.out
      have v3 := cell_kept a3 hB.out
      have u0 := cell_kept t0 hB.out
      have u1 := cell_kept t1 hB.out
      have u2 := cell_kept t2 hB.out
      have u3 := cell_kept t3 hB.out
      have hst := HS.out k hlt
      have htw := HTS.out k hlt
      have c0 := HI.out k hlt
      generalize x.args[k] = y at *
      clear a0 a1 a2 a3 hcc t0 t1 t2 t3
      generalize sl k = sv at *
      generalize tl k = tv at *
      obtain ⟨a3, c3, _, rfl, _⟩ := hst.out
      obtain ⟨b2, c2, _, rfl, _⟩ := htw.out
      have c := fun W (hb : Below w.heap.size w W) => c0 W lo _ _ (htw.keep hb) (hst.keep hb)
      clear hst htw c0
      go_wp2
      refine wp_region_held_drew (S := fun W => (W.cell? ⟨b, k * 4, none⟩ = some (.int .u8 (y.op : Int)) ∧ W.cell? ⟨b, k * 4 + 1, none⟩ = some (.int .i64 y.n) ∧ W.cell? ⟨b, k * 4 + 2, none⟩ = some (.string y.name) ∧ W.cell? ⟨b, k * 4 + 3, none⟩ = some (.slice (some ⟨b2, 0, none⟩) y.args.length c2)) ∧ W.cell? ⟨bb, o + k * 4, none⟩ = some (.int .u8 (y.op : Int)) ∧ W.cell? ⟨bb, o + k * 4 + 1, none⟩ = some (.int .i64 y.n) ∧ W.cell? ⟨bb, o + k * 4 + 2, none⟩ = some (.string y.name) ∧ W.cell? ⟨bb, o + k * 4 + 3, none⟩ = some (.slice a3 y.args.length c3)) (by kernel_rfl) ?_ (fun hHeld => ?_)
      · exact ⟨⟨u0, u1, u2, u3⟩, v0, v1, v2, v3⟩
      refine wpAnyH_take (i := 0) (oi := { dst := some 25, op := Go.Op.move (Go.Operand.tmp 0), type := 23, pos := _, after := #[], guard := none }) (v := ?_) rfl (by kernel_rfl) (by kernel_rfl) (by kernel_rfl) (fun _ _ _ h => h) (Or.inl ⟨by rfl, ?_⟩) (by assumption) ?_
      rotate_left
      · intro w hSw; (try dsimp only at hSw); go_simp <;> with_reducible rfl
      simp only [Act.put, List.setIfInBounds_toArray, List.set_cons_zero, List.set_cons_succ]
      refine wpAnyH_take (i := 1) (oi := { dst := some 26, op := Go.Op.move (Go.Operand.tmp 5), type := 3, pos := _, after := #[], guard := none }) (v := ?_) rfl (by kernel_rfl) (by kernel_rfl) (by kernel_rfl) (fun _ _ _ h => h) (Or.inl ⟨by rfl, ?_⟩) (by assumption) ?_
      rotate_left
      · intro w hSw; (try dsimp only at hSw); go_simp <;> with_reducible rfl
      simp only [Act.put, List.setIfInBounds_toArray, List.set_cons_zero, List.set_cons_succ]
      refine wpAnyH_take (i := 2) (oi := { dst := some 27, op := Go.Op.indexAddr 23 (Go.Operand.tmp 25) (Go.Operand.tmp 26), type := 0, pos := _, after := #[{ on := 0, ground := Go.Ground.data }, { on := 1, ground := Go.Ground.data }], guard := none }) (v := ?_) rfl (by kernel_rfl) (by kernel_rfl) (by kernel_rfl) (fun _ _ _ h => h) (Or.inl ⟨by rfl, ?_⟩) (by assumption) ?_
      rotate_left
      · intro w hSw; (try dsimp only at hSw); go_simp <;> with_reducible rfl
      simp only [Act.put, List.setIfInBounds_toArray, List.set_cons_zero, List.set_cons_succ]
      refine wpAnyH_take (i := 3) (oi := { dst := some 28, op := Go.Op.load 25 (Go.Operand.tmp 27), type := 25, pos := _, after := #[{ on := 2, ground := Go.Ground.data }], guard := none }) (v := ?_) rfl (by kernel_rfl) (by kernel_rfl) (by kernel_rfl) (fun _ _ _ h => h) (Or.inl ⟨by rfl, ?_⟩) (by assumption) ?_
      rotate_left
      · intro w hSw; (try dsimp only at hSw); go_simp <;> with_reducible rfl
      simp only [Act.put, List.setIfInBounds_toArray, List.set_cons_zero, List.set_cons_succ]
      refine wpAnyH_take (i := 4) (oi := { dst := some 29, op := Go.Op.move (Go.Operand.tmp 1), type := 23, pos := _, after := #[], guard := none }) (v := ?_) rfl (by kernel_rfl) (by kernel_rfl) (by kernel_rfl) (fun _ _ _ h => h) (Or.inl ⟨by rfl, ?_⟩) (by assumption) ?_
      rotate_left
      · intro w hSw; (try dsimp only at hSw); go_simp <;> with_reducible rfl
      simp only [Act.put, List.setIfInBounds_toArray, List.set_cons_zero, List.set_cons_succ]
      refine wpAnyH_take (i := 5) (oi := { dst := some 30, op := Go.Op.move (Go.Operand.tmp 5), type := 3, pos := _, after := #[], guard := none }) (v := ?_) rfl (by kernel_rfl) (by kernel_rfl) (by kernel_rfl) (fun _ _ _ h => h) (Or.inl ⟨by rfl, ?_⟩) (by assumption) ?_
      rotate_left
      · intro w hSw; (try dsimp only at hSw); go_simp <;> with_reducible rfl
      simp only [Act.put, List.setIfInBounds_toArray, List.set_cons_zero, List.set_cons_succ]
      refine wpAnyH_take (i := 6) (oi := { dst := some 31, op := Go.Op.indexAddr 23 (Go.Operand.tmp 29) (Go.Operand.tmp 30), type := 0, pos := _, after := #[{ on := 4, ground := Go.Ground.data }, { on := 5, ground := Go.Ground.data }], guard := none }) (v := ?_) rfl (by kernel_rfl) (by kernel_rfl) (by kernel_rfl) (fun _ _ _ h => h) (Or.inl ⟨by rfl, ?_⟩) (by assumption) ?_
      rotate_left
      · intro w hSw; (try dsimp only at hSw); go_simp <;> with_reducible rfl
      simp only [Act.put, List.setIfInBounds_toArray, List.set_cons_zero, List.set_cons_succ]
      refine wpAnyH_take (i := 7) (oi := { dst := some 32, op := Go.Op.load 25 (Go.Operand.tmp 31), type := 25, pos := _, after := #[{ on := 6, ground := Go.Ground.data }], guard := none }) (v := ?_) rfl (by kernel_rfl) (by kernel_rfl) (by kernel_rfl) (fun _ _ _ h => h) (Or.inl ⟨by rfl, ?_⟩) (by assumption) ?_
      rotate_left
      · intro w hSw; (try dsimp only at hSw); go_simp <;> with_reducible rfl
      simp only [Act.put, List.setIfInBounds_toArray, List.set_cons_zero, List.set_cons_succ]
      refine wpAnyH_ready (rs := [8]) (by kernel_rfl) (by simp) ?_
      refine AllReadyH.cons (o := { dst := some 33, op := Go.Op.call { callee := Go.Callee.value (Go.Operand.func 13), args := #[Go.Operand.tmp 28, Go.Operand.tmp 32], argTypes := #[25, 25] }, type := 4, pos := _, after := #[{ on := 3, ground := Go.Ground.data }, { on := 7, ground := Go.Ground.data }], guard := none }) rfl (fun K hK => ?_) AllReadyH.nil
      go_simp
      refine (c _ (hB.out.drew)).mono ?_
      rintro e w4 ⟨rfl, hb4⟩
      go_wp2_with fail
      refine hK.out _ _ ?_ (fun hHeld1 => ?_)
      · exact ⟨⟨cell_kept (w := wr.drew) u0 hb4, cell_kept (w := wr.drew) u1 hb4, cell_kept (w := wr.drew) u2 hb4, cell_kept (w := wr.drew) u3 hb4⟩, cell_kept (w := wr.drew) v0 hb4, cell_kept (w := wr.drew) v1 hb4, cell_kept (w := wr.drew) v2 hb4, cell_kept (w := wr.drew) v3 hb4⟩
      clear hK K
      refine wpAnyH_take (i := 9) (oi := { dst := some 34, op := Go.Op.unOp Go.UnOp.not 4 (Go.Operand.tmp 33), type := 4, pos := _, after := #[{ on := 8, ground := Go.Ground.data }], guard := none }) (v := ?_) rfl (by kernel_rfl) (by kernel_rfl) (by kernel_rfl) (fun _ _ _ h => h) (Or.inl ⟨by rfl, ?_⟩) (by assumption) ?_
      rotate_left
      · intro w hSw; (try dsimp only at hSw); go_simp <;> with_reducible rfl
      simp only [Act.put, List.setIfInBounds_toArray, List.set_cons_zero, List.set_cons_succ]
      refine wpAnyH_done (by kernel_rfl) ?_ _
      go_wp2
      go_roundw
      case rel => exact ⟨k + 1, by omega, by go_num, bstep hB.out.drew hb4⟩
      case measure => simp [intOf]; omega
    · have hlt' : ¬ (k : Int) < (x.args.length : Int) := by omega
      obtain ⟨p0, p1, p2, p3⟩ := HP.out
      have q0 := cell_kept p0 hB.out
      have q1 := cell_kept p1 hB.out
      have q2 := cell_kept p2 hB.out
      have q3 := cell_kept p3 hB.out
      unfold spare at q2
      have hle1 : (x.args.length : Int) + 1 ≤ (cp : Int) := by omega
      have hle2 : (x.args.length : Int) < (x.args.length : Int) + 1 := by omega
      have hle3 : (0 : Int) ≤ (x.args.length : Int) := by omega
      clear p0 p1 p2 p3
      go_wp2
      go_ret
      exact ⟨rfl, bstep hB.out ((Below.refl _ _).alloc (Nat.le_refl _) _)⟩
set_option maxRecDepth 100000 in
theorem left_of (x : Ex) (ih : ∀ i (h : i < x.args.length), LeftC x.args[i]) : LeftC x := by
  intro w lo st s hT hS
  have hs := fun W hT hS => lefts x ih W lo st s hT hS
  obtain ⟨ao, cap, sl, rfl, _⟩ := hS.out
  obtain ⟨b, cp, tl, rfl, _⟩ := hT.out
  have e1 : ((x.op : Int) == (x.op : Int)) = true := by simp
  have e2 : (x.n == x.n) = true := by simp
  have e3 : (x.name.toList == x.name.toList) = true := by simp
  have b1 := (Below.refl w.heap.size w).alloc (Nat.le_refl _) (.cells #[.int .u8 (x.op : Int), .int .i64 x.n, .string x.name, .slice (some ⟨b, 0, none⟩) x.args.length cp] 25)
  have b2 := bstep b1 ((Below.refl _ _).alloc (Nat.le_refl _) (.cells #[.int .u8 (x.op : Int), .int .i64 x.n, .string x.name, .slice ao x.args.length cap] 25))
  have HT := hid (hT.keep b2)
  have HS := hid (hS.keep b2)
  have HB := hid b2
  clear hT hS b1 b2 ih
  go_enter Tryd.func13, Tryd.ntmps13
  go_wp2_with (go_at_call 29; refine (hs _ HT.out HS.out).mono ?_; rintro e w2 ⟨rfl, hb2⟩)
  go_ret
  exact ⟨rfl, bstep HB.out hb2⟩
/-- LeftExpr of a twin. -/
theorem left_any : ∀ (m : Nat) (x : Ex), SizeOf.sizeOf x ≤ m → LeftC x := by
  intro m
  induction m with
  | zero => intro x h; obtain ⟨o, n, s, l⟩ := x; simp at h
  | succ m ih => intro x h; exact left_of x fun i hi => ih _ (by have := x.part_lt i hi; omega)
end Go.Proofs.YtkieljleopbhoaaDoor.Lex
namespace Go.Proofs.YtkieljleopbhoaaDoor.Lex
open Go.ChangeShapes Go.WideShapes Go.ChangeAt Go.RowKit Go.Joins
set_option maxRecDepth 100000 in
set_option maxHeartbeats 2000000 in
theorem walk3 (x : Ex) (s : Value) (w : World) (hS : St w x s) (hE : Env w) : Calls Tryd.prog 3 #[exV x s] w fun e w' => e = .returned (.bool true) ∧ Below w.heap.size w w' := by
  obtain ⟨ao, cap, sl, rfl, _⟩ := hS.out
  have b0 := (Below.refl w.heap.size w).alloc (Nat.le_refl _) (.cells #[.int .u8 (x.op : Int), .int .i64 x.n, .string x.name, .slice ao x.args.length cap] 25)
  have S0 := hid (hS.keep b0)
  have E0 := hid (hE.below b0)
  have B0 := hid b0
  have bx := fun j v => box_at w #[.int .u8 (x.op : Int), .int .i64 x.n, .string x.name, .slice ao x.args.length cap] 25 j v
  have x0 := bx 0 _ rfl
  have x1 := bx 1 _ rfl
  have x2 := bx 2 _ rfl
  have x3 := bx 3 _ rfl
  clear hS hE b0 bx
  go_enter Tryd.func3, Tryd.ntmps3
  go_wp2_with (first
    | (go_at_call 7; refine (size_any _ x (Nat.le_refl _) _ _ S0.out).mono ?_; rintro e w1 ⟨⟨m, rfl⟩, hb1⟩; have y0 := cell_kept x0 hb1; have y1 := cell_kept x1 hb1; have y2 := cell_kept x2 hb1; have y3 := cell_kept x3 hb1; have S1 := hid (S0.out.keep hb1); have E1 := hid (E0.out.below hb1); have B1 := hid (bstep B0.out hb1); clear hb1 x0 x1 x2 x3 S0 E0 B0)
    | (go_at_call 8; refine (twin_any _ x (Nat.le_refl _) _ _ S1.out).mono ?_; rintro e w2 ⟨s2, rfl, ht2, hb2⟩; obtain ⟨t2, c2, _, rfl, _⟩ := ht2.st.out; have b2 := bstep hb2 ((Below.refl w2.heap.size w2).alloc (Nat.le_refl _) (.cells #[.int .u8 (x.op : Int), .int .i64 x.n, .string x.name, .slice t2 x.args.length c2] 25)); have T2 := hid (ht2.keep ((Below.refl w2.heap.size w2).alloc (Nat.le_refl _) (.cells #[.int .u8 (x.op : Int), .int .i64 x.n, .string x.name, .slice t2 x.args.length c2] 25))); have S2 := hid (S1.out.keep b2); have E2 := hid (E1.out.below b2); have B2 := hid (bstep B1.out b2); have bx2 := fun j v => box_at w2 #[.int .u8 (x.op : Int), .int .i64 x.n, .string x.name, .slice t2 x.args.length c2] 25 j v; have z0 := cell_kept y0 b2; have z1 := cell_kept y1 b2; have z2 := cell_kept y2 b2; have z3 := cell_kept y3 b2; have u0 := bx2 0 _ rfl; have u1 := bx2 1 _ rfl; have u2 := bx2 2 _ rfl; have u3 := bx2 3 _ rfl; clear ht2 hb2 b2 S1 E1 bx2 y0 y1 y2 y3)
    | (go_at_call 9; refine (text x _ _ T2.out.st E2.out).mono ?_; rintro e w4 ⟨rfl, hb4⟩; have T4 := hid (T2.out.keep hb4); have S4 := hid (S2.out.keep hb4); have E4 := hid (E2.out.below hb4); have B4 := hid (bstep B2.out hb4); have v0 := cell_kept z0 hb4; have v1 := cell_kept z1 hb4; have v2 := cell_kept z2 hb4; have v3 := cell_kept z3 hb4; have p0 := cell_kept u0 hb4; have p1 := cell_kept u1 hb4; have p2 := cell_kept u2 hb4; have p3 := cell_kept u3 hb4; clear hb4 T2 S2 E2 B2 z0 z1 z2 z3 u0 u1 u2 u3)
    | (go_at_call 10; refine (rtext x _ _ S4.out).mono ?_; rintro e w5 ⟨rfl, hb5⟩; have T5 := hid (T4.out.keep hb5); have S5 := hid (S4.out.keep hb5); have E5 := hid (E4.out.below hb5); have B5 := hid (bstep B4.out hb5); have a0 := cell_kept v0 hb5; have a1 := cell_kept v1 hb5; have a2 := cell_kept v2 hb5; have a3 := cell_kept v3 hb5; have q0 := cell_kept p0 hb5; have q1 := cell_kept p1 hb5; have q2 := cell_kept p2 hb5; have q3 := cell_kept p3 hb5; clear hb5 T4 S4 E4 B4 v0 v1 v2 v3 p0 p1 p2 p3))
  all_goals first | (go_ret; exact ⟨rfl, B1.out⟩) | skip
  have X5 : (w5.drew.cell? ⟨w.heap.size, 0, none⟩ = some (.int .u8 (x.op : Int)) ∧ w5.drew.cell? ⟨w.heap.size, 1, none⟩ = some (.int .i64 x.n) ∧ w5.drew.cell? ⟨w.heap.size, 2, none⟩ = some (.string x.name) ∧ w5.drew.cell? ⟨w.heap.size, 3, none⟩ = some (.slice ao x.args.length cap)) ∧ w5.drew.cell? ⟨w2.heap.size, 0, none⟩ = some (.int .u8 (x.op : Int)) ∧ w5.drew.cell? ⟨w2.heap.size, 1, none⟩ = some (.int .i64 x.n) ∧ w5.drew.cell? ⟨w2.heap.size, 2, none⟩ = some (.string x.name) ∧ w5.drew.cell? ⟨w2.heap.size, 3, none⟩ = some (.slice t2 x.args.length c2) := ⟨⟨a0, a1, a2, a3⟩, q0, q1, q2, q3⟩
  clear a0 a1 a2 a3 q0 q1 q2 q3 B1
  generalize (⟨(txt x).toArray⟩ : ByteArray) = X at *
  refine wp_region_held_drew (S := fun W => (W.cell? ⟨w.heap.size, 0, none⟩ = some (.int .u8 (x.op : Int)) ∧ W.cell? ⟨w.heap.size, 1, none⟩ = some (.int .i64 x.n) ∧ W.cell? ⟨w.heap.size, 2, none⟩ = some (.string x.name) ∧ W.cell? ⟨w.heap.size, 3, none⟩ = some (.slice ao x.args.length cap)) ∧ W.cell? ⟨w2.heap.size, 0, none⟩ = some (.int .u8 (x.op : Int)) ∧ W.cell? ⟨w2.heap.size, 1, none⟩ = some (.int .i64 x.n) ∧ W.cell? ⟨w2.heap.size, 2, none⟩ = some (.string x.name) ∧ W.cell? ⟨w2.heap.size, 3, none⟩ = some (.slice t2 x.args.length c2)) (by kernel_rfl) ?_ (fun hHeld => ?_)
  · exact X5
  refine wpAnyH_take (i := 0) (oi := { dst := some 23, op := Go.Op.move (Go.Operand.tmp 4), type := 9, pos := _, after := #[], guard := none }) (v := ?_) rfl (by kernel_rfl) (by kernel_rfl) (by kernel_rfl) (fun _ _ _ h => h) (Or.inl ⟨by rfl, ?_⟩) (by assumption) ?_
  rotate_left
  · intro w hSw; (try dsimp only at hSw); go_simp <;> first | with_reducible rfl | (rw [if_neg (by first | omega | (simp only [ByteArray.size_append] at *; omega))])
  simp only [Act.put, List.setIfInBounds_toArray, List.set_cons_zero, List.set_cons_succ]
  refine wpAnyH_take (i := 1) (oi := { dst := some 24, op := Go.Op.move (Go.Operand.tmp 6), type := 9, pos := _, after := #[], guard := none }) (v := ?_) rfl (by kernel_rfl) (by kernel_rfl) (by kernel_rfl) (fun _ _ _ h => h) (Or.inl ⟨by rfl, ?_⟩) (by assumption) ?_
  rotate_left
  · intro w hSw; (try dsimp only at hSw); go_simp <;> first | with_reducible rfl | (rw [if_neg (by first | omega | (simp only [ByteArray.size_append] at *; omega))])
  simp only [Act.put, List.setIfInBounds_toArray, List.set_cons_zero, List.set_cons_succ]
  refine wpAnyH_take (i := 2) (oi := { dst := some 25, op := Go.Op.binOp Go.BinOp.eql 9 (Go.Operand.tmp 23) (Go.Operand.tmp 24) 9, type := 4, pos := _, after := #[{ on := 0, ground := Go.Ground.data }, { on := 1, ground := Go.Ground.data }], guard := none }) (v := ?_) rfl (by kernel_rfl) (by kernel_rfl) (by kernel_rfl) (fun _ _ _ h => h) (Or.inl ⟨by rfl, ?_⟩) (by assumption) ?_
  rotate_left
  · intro w hSw; (try dsimp only at hSw); go_simp <;> first | with_reducible rfl | (rw [if_neg (by first | omega | (simp only [ByteArray.size_append] at *; omega))])
  simp only [Act.put, List.setIfInBounds_toArray, List.set_cons_zero, List.set_cons_succ]
  refine wpAnyH_take (i := 3) (oi := { dst := some 26, op := Go.Op.move (Go.Operand.tmp 25), type := 4, pos := _, after := #[{ on := 2, ground := Go.Ground.data }], guard := none }) (v := ?_) rfl (by kernel_rfl) (by kernel_rfl) (by kernel_rfl) (fun _ _ _ h => h) (Or.inl ⟨by rfl, ?_⟩) (by assumption) ?_
  rotate_left
  · intro w hSw; (try dsimp only at hSw); go_simp <;> first | with_reducible rfl | (rw [if_neg (by first | omega | (simp only [ByteArray.size_append] at *; omega))])
  simp only [Act.put, List.setIfInBounds_toArray, List.set_cons_zero, List.set_cons_succ]
  refine wpAnyH_take (i := 4) (oi := { dst := some 27, op := Go.Op.move (Go.Operand.tmp 5), type := 28, pos := _, after := #[{ on := 3, ground := Go.Ground.guard }], guard := some (3, true) }) (v := ?_) rfl (by kernel_rfl) (by kernel_rfl) (by kernel_rfl) (fun _ _ _ h => h) (Or.inl ⟨by rfl, ?_⟩) (by assumption) ?_
  rotate_left
  · intro w hSw; (try dsimp only at hSw); go_simp <;> first | with_reducible rfl | (rw [if_neg (by first | omega | (simp only [ByteArray.size_append] at *; omega))])
  simp only [Act.put, List.setIfInBounds_toArray, List.set_cons_zero, List.set_cons_succ]
  refine wpAnyH_take (i := 5) (oi := { dst := some 28, op := Go.Op.move (Go.Operand.tmp 7), type := 28, pos := _, after := #[{ on := 3, ground := Go.Ground.guard }], guard := some (3, true) }) (v := ?_) rfl (by kernel_rfl) (by kernel_rfl) (by kernel_rfl) (fun _ _ _ h => h) (Or.inl ⟨by rfl, ?_⟩) (by assumption) ?_
  rotate_left
  · intro w hSw; (try dsimp only at hSw); go_simp <;> first | with_reducible rfl | (rw [if_neg (by first | omega | (simp only [ByteArray.size_append] at *; omega))])
  simp only [Act.put, List.setIfInBounds_toArray, List.set_cons_zero, List.set_cons_succ]
  refine wpAnyH_take (i := 6) (oi := { dst := some 29, op := Go.Op.binOp Go.BinOp.eql 28 (Go.Operand.tmp 27) (Go.Operand.tmp 28) 28, type := 4, pos := _, after := #[{ on := 4, ground := Go.Ground.data }, { on := 5, ground := Go.Ground.data }, { on := 3, ground := Go.Ground.guard }], guard := some (3, true) }) (v := ?_) rfl (by kernel_rfl) (by kernel_rfl) (by kernel_rfl) (fun _ _ _ h => h) (Or.inl ⟨by rfl, ?_⟩) (by assumption) ?_
  rotate_left
  · intro w hSw; (try dsimp only at hSw); go_simp <;> first | with_reducible rfl | (rw [if_neg (by first | omega | (simp only [ByteArray.size_append] at *; omega))])
  simp only [Act.put, List.setIfInBounds_toArray, List.set_cons_zero, List.set_cons_succ]
  refine wpAnyH_take (i := 7) (oi := { dst := some 30, op := Go.Op.pick (Go.Operand.tmp 26) (Go.Operand.tmp 29) (Go.Operand.const (Go.Value.bool false)), type := 4, pos := _, after := #[{ on := 3, ground := Go.Ground.data }, { on := 6, ground := Go.Ground.data }], guard := none }) (v := ?_) rfl (by kernel_rfl) (by kernel_rfl) (by kernel_rfl) (fun _ _ _ h => h) (Or.inl ⟨by rfl, ?_⟩) (by assumption) ?_
  rotate_left
  · intro w hSw; (try dsimp only at hSw); go_simp <;> first | with_reducible rfl | (rw [if_neg (by first | omega | (simp only [ByteArray.size_append] at *; omega))])
  simp only [Act.put, List.setIfInBounds_toArray, List.set_cons_zero, List.set_cons_succ]
  refine wpAnyH_take (i := 8) (oi := { dst := some 31, op := Go.Op.move (Go.Operand.tmp 30), type := 4, pos := _, after := #[{ on := 7, ground := Go.Ground.data }, { on := 3, ground := Go.Ground.chain }], guard := none }) (v := ?_) rfl (by kernel_rfl) (by kernel_rfl) (by kernel_rfl) (fun _ _ _ h => h) (Or.inl ⟨by rfl, ?_⟩) (by assumption) ?_
  rotate_left
  · intro w hSw; (try dsimp only at hSw); go_simp <;> first | with_reducible rfl | (rw [if_neg (by first | omega | (simp only [ByteArray.size_append] at *; omega))])
  simp only [Act.put, List.setIfInBounds_toArray, List.set_cons_zero, List.set_cons_succ]
  refine wpAnyH_take (i := 9) (oi := { dst := some 32, op := Go.Op.load 25 (Go.Operand.tmp 3), type := 25, pos := _, after := #[{ on := 8, ground := Go.Ground.guard }], guard := some (8, true) }) (v := ?_) rfl (by kernel_rfl) (by kernel_rfl) (by kernel_rfl) (fun _ _ _ h => h) (Or.inl ⟨by rfl, ?_⟩) (by assumption) ?_
  rotate_left
  · intro w hSw; (try dsimp only at hSw); go_simp <;> first | with_reducible rfl | (rw [if_neg (by first | omega | (simp only [ByteArray.size_append] at *; omega))])
  simp only [Act.put, List.setIfInBounds_toArray, List.set_cons_zero, List.set_cons_succ]
  refine wpAnyH_take (i := 11) (oi := { dst := some 34, op := Go.Op.load 25 (Go.Operand.tmp 1), type := 25, pos := _, after := #[{ on := 8, ground := Go.Ground.guard }], guard := some (8, true) }) (v := ?_) rfl (by kernel_rfl) (by kernel_rfl) (by kernel_rfl) (fun _ _ _ h => h) (Or.inl ⟨by rfl, ?_⟩) (by assumption) ?_
  rotate_left
  · intro w hSw; (try dsimp only at hSw); go_simp <;> first | with_reducible rfl | (rw [if_neg (by first | omega | (simp only [ByteArray.size_append] at *; omega))])
  simp only [Act.put, List.setIfInBounds_toArray, List.set_cons_zero, List.set_cons_succ]
  refine wpAnyH_ready (rs := [10]) (by kernel_rfl) (by simp) ?_
  refine AllReadyH.cons (o := { dst := some 33, op := Go.Op.call { callee := Go.Callee.value (Go.Operand.func 11), args := #[Go.Operand.tmp 32], argTypes := #[25] }, type := 4, pos := _, after := #[{ on := 9, ground := Go.Ground.data }, { on := 8, ground := Go.Ground.chain }, { on := 8, ground := Go.Ground.guard }], guard := some (8, true) }) rfl (fun K hK => ?_) AllReadyH.nil
  go_simp
  refine (check x _ _ (T5.out.keep (Below.refl _ _).drew).st (E5.out.below (Below.refl _ _).drew).res (E5.out.below (Below.refl _ _).drew).joins).mono ?_
  rintro e w6 ⟨rfl, hw6⟩
  have T6 := hid ((T5.out.keep (Below.refl _ _).drew).keep hw6)
  have S6 := hid ((S5.out.keep (Below.refl _ _).drew).keep hw6)
  have B6 := hid (bstep B5.out.drew hw6)
  have X6 : (w6.cell? ⟨w.heap.size, 0, none⟩ = some (.int .u8 (x.op : Int)) ∧ w6.cell? ⟨w.heap.size, 1, none⟩ = some (.int .i64 x.n) ∧ w6.cell? ⟨w.heap.size, 2, none⟩ = some (.string x.name) ∧ w6.cell? ⟨w.heap.size, 3, none⟩ = some (.slice ao x.args.length cap)) ∧ w6.cell? ⟨w2.heap.size, 0, none⟩ = some (.int .u8 (x.op : Int)) ∧ w6.cell? ⟨w2.heap.size, 1, none⟩ = some (.int .i64 x.n) ∧ w6.cell? ⟨w2.heap.size, 2, none⟩ = some (.string x.name) ∧ w6.cell? ⟨w2.heap.size, 3, none⟩ = some (.slice t2 x.args.length c2) := ⟨⟨cell_kept (X5).1.1 hw6, cell_kept (X5).1.2.1 hw6, cell_kept (X5).1.2.2.1 hw6, cell_kept (X5).1.2.2.2 hw6⟩, ⟨cell_kept (X5).2.1 hw6, cell_kept (X5).2.2.1 hw6, cell_kept (X5).2.2.2.1 hw6, cell_kept (X5).2.2.2.2 hw6⟩⟩
  go_wp2_with fail
  refine hK.out _ _ ?_ (fun hHeld1 => ?_)
  · exact X6
  clear hK K
  refine wpAnyH_ready (rs := [12]) (by kernel_rfl) (by simp) ?_
  refine AllReadyH.cons (o := { dst := some 35, op := Go.Op.call { callee := Go.Callee.value (Go.Operand.func 12), args := #[Go.Operand.tmp 34], argTypes := #[25] }, type := 4, pos := _, after := #[{ on := 11, ground := Go.Ground.data }, { on := 10, ground := Go.Ground.chain }, { on := 8, ground := Go.Ground.guard }], guard := some (8, true) }) rfl (fun K hK => ?_) AllReadyH.nil
  go_simp
  refine (rcheck x _ _ S6.out).mono ?_
  rintro e w7 ⟨rfl, hw7⟩
  have T7 := hid (T6.out.keep hw7)
  have S7 := hid (S6.out.keep hw7)
  have B7 := hid (bstep B6.out hw7)
  have X7 : (w7.cell? ⟨w.heap.size, 0, none⟩ = some (.int .u8 (x.op : Int)) ∧ w7.cell? ⟨w.heap.size, 1, none⟩ = some (.int .i64 x.n) ∧ w7.cell? ⟨w.heap.size, 2, none⟩ = some (.string x.name) ∧ w7.cell? ⟨w.heap.size, 3, none⟩ = some (.slice ao x.args.length cap)) ∧ w7.cell? ⟨w2.heap.size, 0, none⟩ = some (.int .u8 (x.op : Int)) ∧ w7.cell? ⟨w2.heap.size, 1, none⟩ = some (.int .i64 x.n) ∧ w7.cell? ⟨w2.heap.size, 2, none⟩ = some (.string x.name) ∧ w7.cell? ⟨w2.heap.size, 3, none⟩ = some (.slice t2 x.args.length c2) := ⟨⟨cell_kept (X6).1.1 hw7, cell_kept (X6).1.2.1 hw7, cell_kept (X6).1.2.2.1 hw7, cell_kept (X6).1.2.2.2 hw7⟩, ⟨cell_kept (X6).2.1 hw7, cell_kept (X6).2.2.1 hw7, cell_kept (X6).2.2.2.1 hw7, cell_kept (X6).2.2.2.2 hw7⟩⟩
  go_wp2_with fail
  refine hK.out _ _ ?_ (fun hHeld2 => ?_)
  · exact X7
  clear hK K
  refine wpAnyH_take (i := 13) (oi := { dst := some 36, op := Go.Op.binOp Go.BinOp.eql 4 (Go.Operand.tmp 33) (Go.Operand.tmp 35) 4, type := 4, pos := _, after := #[{ on := 10, ground := Go.Ground.data }, { on := 12, ground := Go.Ground.data }, { on := 8, ground := Go.Ground.guard }], guard := some (8, true) }) (v := ?_) rfl (by kernel_rfl) (by kernel_rfl) (by kernel_rfl) (fun _ _ _ h => h) (Or.inl ⟨by rfl, ?_⟩) (by assumption) ?_
  rotate_left
  · intro w hSw; (try dsimp only at hSw); go_simp <;> first | with_reducible rfl | (rw [if_neg (by first | omega | (simp only [ByteArray.size_append] at *; omega))])
  simp only [Act.put, List.setIfInBounds_toArray, List.set_cons_zero, List.set_cons_succ]
  refine wpAnyH_take (i := 14) (oi := { dst := some 37, op := Go.Op.pick (Go.Operand.tmp 31) (Go.Operand.tmp 36) (Go.Operand.const (Go.Value.bool false)), type := 4, pos := _, after := #[{ on := 8, ground := Go.Ground.data }, { on := 13, ground := Go.Ground.data }], guard := none }) (v := ?_) rfl (by kernel_rfl) (by kernel_rfl) (by kernel_rfl) (fun _ _ _ h => h) (Or.inl ⟨by rfl, ?_⟩) (by assumption) ?_
  rotate_left
  · intro w hSw; (try dsimp only at hSw); go_simp <;> first | with_reducible rfl | (rw [if_neg (by first | omega | (simp only [ByteArray.size_append] at *; omega))])
  simp only [Act.put, List.setIfInBounds_toArray, List.set_cons_zero, List.set_cons_succ]
  refine wpAnyH_take (i := 15) (oi := { dst := some 38, op := Go.Op.move (Go.Operand.tmp 37), type := 4, pos := _, after := #[{ on := 14, ground := Go.Ground.data }, { on := 12, ground := Go.Ground.chain }], guard := none }) (v := ?_) rfl (by kernel_rfl) (by kernel_rfl) (by kernel_rfl) (fun _ _ _ h => h) (Or.inl ⟨by rfl, ?_⟩) (by assumption) ?_
  rotate_left
  · intro w hSw; (try dsimp only at hSw); go_simp <;> first | with_reducible rfl | (rw [if_neg (by first | omega | (simp only [ByteArray.size_append] at *; omega))])
  simp only [Act.put, List.setIfInBounds_toArray, List.set_cons_zero, List.set_cons_succ]
  refine wpAnyH_take (i := 16) (oi := { dst := some 39, op := Go.Op.load 25 (Go.Operand.tmp 3), type := 25, pos := _, after := #[{ on := 15, ground := Go.Ground.guard }], guard := some (15, true) }) (v := ?_) rfl (by kernel_rfl) (by kernel_rfl) (by kernel_rfl) (fun _ _ _ h => h) (Or.inl ⟨by rfl, ?_⟩) (by assumption) ?_
  rotate_left
  · intro w hSw; (try dsimp only at hSw); go_simp <;> first | with_reducible rfl | (rw [if_neg (by first | omega | (simp only [ByteArray.size_append] at *; omega))])
  simp only [Act.put, List.setIfInBounds_toArray, List.set_cons_zero, List.set_cons_succ]
  refine wpAnyH_take (i := 17) (oi := { dst := some 40, op := Go.Op.load 25 (Go.Operand.tmp 1), type := 25, pos := _, after := #[{ on := 15, ground := Go.Ground.guard }], guard := some (15, true) }) (v := ?_) rfl (by kernel_rfl) (by kernel_rfl) (by kernel_rfl) (fun _ _ _ h => h) (Or.inl ⟨by rfl, ?_⟩) (by assumption) ?_
  rotate_left
  · intro w hSw; (try dsimp only at hSw); go_simp <;> first | with_reducible rfl | (rw [if_neg (by first | omega | (simp only [ByteArray.size_append] at *; omega))])
  simp only [Act.put, List.setIfInBounds_toArray, List.set_cons_zero, List.set_cons_succ]
  refine wpAnyH_ready (rs := [18]) (by kernel_rfl) (by simp) ?_
  refine AllReadyH.cons (o := { dst := some 41, op := Go.Op.call { callee := Go.Callee.value (Go.Operand.func 13), args := #[Go.Operand.tmp 39, Go.Operand.tmp 40], argTypes := #[25, 25] }, type := 4, pos := _, after := #[{ on := 16, ground := Go.Ground.data }, { on := 17, ground := Go.Ground.data }, { on := 15, ground := Go.Ground.chain }, { on := 15, ground := Go.Ground.guard }], guard := some (15, true) }) rfl (fun K hK => ?_) AllReadyH.nil
  go_simp
  refine (left_any _ x (Nat.le_refl _) _ _ _ _ T7.out S7.out).mono ?_
  rintro e w8 ⟨rfl, hw8⟩
  have B8 := hid (bstep B7.out hw8)
  have X8 : (w8.cell? ⟨w.heap.size, 0, none⟩ = some (.int .u8 (x.op : Int)) ∧ w8.cell? ⟨w.heap.size, 1, none⟩ = some (.int .i64 x.n) ∧ w8.cell? ⟨w.heap.size, 2, none⟩ = some (.string x.name) ∧ w8.cell? ⟨w.heap.size, 3, none⟩ = some (.slice ao x.args.length cap)) ∧ w8.cell? ⟨w2.heap.size, 0, none⟩ = some (.int .u8 (x.op : Int)) ∧ w8.cell? ⟨w2.heap.size, 1, none⟩ = some (.int .i64 x.n) ∧ w8.cell? ⟨w2.heap.size, 2, none⟩ = some (.string x.name) ∧ w8.cell? ⟨w2.heap.size, 3, none⟩ = some (.slice t2 x.args.length c2) := ⟨⟨cell_kept (X7).1.1 hw8, cell_kept (X7).1.2.1 hw8, cell_kept (X7).1.2.2.1 hw8, cell_kept (X7).1.2.2.2 hw8⟩, ⟨cell_kept (X7).2.1 hw8, cell_kept (X7).2.2.1 hw8, cell_kept (X7).2.2.2.1 hw8, cell_kept (X7).2.2.2.2 hw8⟩⟩
  go_wp2_with fail
  refine hK.out _ _ ?_ (fun hHeld3 => ?_)
  · exact X8
  clear hK K
  refine wpAnyH_take (i := 19) (oi := { dst := some 42, op := Go.Op.pick (Go.Operand.tmp 38) (Go.Operand.tmp 41) (Go.Operand.const (Go.Value.bool false)), type := 4, pos := _, after := #[{ on := 15, ground := Go.Ground.data }, { on := 18, ground := Go.Ground.data }], guard := none }) (v := ?_) rfl (by kernel_rfl) (by kernel_rfl) (by kernel_rfl) (fun _ _ _ h => h) (Or.inl ⟨by rfl, ?_⟩) (by assumption) ?_
  rotate_left
  · intro w hSw; (try dsimp only at hSw); go_simp <;> first | with_reducible rfl | (rw [if_neg (by first | omega | (simp only [ByteArray.size_append] at *; omega))])
  simp only [Act.put, List.setIfInBounds_toArray, List.set_cons_zero, List.set_cons_succ]
  refine wpAnyH_take (i := 20) (oi := { dst := some 2, op := Go.Op.assign (Go.Operand.tmp 42), type := 4, pos := _, after := #[{ on := 19, ground := Go.Ground.data }, { on := 18, ground := Go.Ground.chain }, { on := 0, ground := Go.Ground.phase }, { on := 1, ground := Go.Ground.phase }, { on := 2, ground := Go.Ground.phase }, { on := 3, ground := Go.Ground.phase }, { on := 4, ground := Go.Ground.phase }, { on := 5, ground := Go.Ground.phase }, { on := 6, ground := Go.Ground.phase }, { on := 7, ground := Go.Ground.phase }, { on := 8, ground := Go.Ground.phase }, { on := 9, ground := Go.Ground.phase }, { on := 10, ground := Go.Ground.phase }, { on := 11, ground := Go.Ground.phase }, { on := 12, ground := Go.Ground.phase }, { on := 13, ground := Go.Ground.phase }, { on := 14, ground := Go.Ground.phase }, { on := 15, ground := Go.Ground.phase }, { on := 16, ground := Go.Ground.phase }, { on := 17, ground := Go.Ground.phase }, { on := 18, ground := Go.Ground.phase }, { on := 19, ground := Go.Ground.phase }], guard := none }) (v := ?_) rfl (by kernel_rfl) (by kernel_rfl) (by kernel_rfl) (fun _ _ _ h => h) (Or.inl ⟨by rfl, ?_⟩) (by assumption) ?_
  rotate_left
  · intro w hSw; (try dsimp only at hSw); go_simp <;> first | with_reducible rfl | (rw [if_neg (by first | omega | (simp only [ByteArray.size_append] at *; omega))])
  simp only [Act.put, List.setIfInBounds_toArray, List.set_cons_zero, List.set_cons_succ]
  refine wpAnyH_done (by kernel_rfl) ?_ _
  go_wp2
  go_ret
  exact ⟨rfl, B8.out⟩
end Go.Proofs.YtkieljleopbhoaaDoor.Lex
namespace Go.Proofs.YtkieljleopbhoaaDoor.Lex
open Go.ChangeShapes Go.WideShapes Go.ChangeAt Go.RowKit Go.Joins
theorem cells25 : Tryd.prog.cellsOf 25 = 4 := by kernel_rfl
theorem cells22 : Tryd.prog.cellsOf 22 = 1 := by kernel_rfl
theorem cells2 : Tryd.prog.cellsOf 2 = 1 := by kernel_rfl
theorem cells23 : Tryd.prog.cellsOf 23 = 1 := by kernel_rfl
theorem bytes25 : Tryd.prog.bytesOf 25 = 56 := by kernel_rfl
theorem list4 {l : List Value} (h : l.length = 4) : ∃ a b c d, l = [a, b, c, d] := by match l, h with | [a, b, c, d], _ => exact ⟨a, b, c, d, rfl⟩
theorem all_mem {H : Type} {P : Program} {e : TypeId} : ∀ {l : List (DataW H)} {i : Nat} {d : DataW H}, l[i]? = some d → ∀ v ∈ d.weights P e, v ∈ DataW.weightsAll P e l
  | [], i, d, h => by simp at h
  | x :: l, 0, d, h => by simp at h; subst h; intro v hv; rw [DataW.weightsAll]; exact List.mem_append_left _ hv
  | x :: l, i + 1, d, h => by simp at h; intro v hv; rw [DataW.weightsAll]; exact List.mem_append_right _ (all_mem h v hv)
theorem add_off (b o n : Nat) : (⟨b, o, none⟩ : Addr).add n = ⟨b, o + n, none⟩ := by unfold Addr.add; split <;> simp_all
theorem cells4 {w : World} {a : Addr} {l : List Value} (h : w.cells? 0 a 4 = some l) : ∃ v0 v1 v2 v3, l = [v0, v1, v2, v3] ∧ w.cell? (a.add 0) = some v0 ∧ w.cell? (a.add 1) = some v1 ∧ w.cell? (a.add 2) = some v2 ∧ w.cell? (a.add 3) = some v3 := by
  unfold World.cells? at h
  rw [if_pos (Nat.zero_le _)] at h
  have hl : l.length = 4 := by have := Lib.mapM_length h; simpa using this
  obtain ⟨v0, v1, v2, v3, rfl⟩ := list4 hl
  have g : ∀ i, i < 4 → w.cell? (a.add i) = [v0, v1, v2, v3][i]? := fun i hi => by
    obtain ⟨b, hb, hf⟩ := Lib.mapM_at h i i (by simp [hi])
    rw [hf, hb]
  exact ⟨v0, v1, v2, v3, rfl, g 0 (by omega), g 1 (by omega), g 2 (by omega), g 3 (by omega)⟩
/-- What came in, as a tree. -/
theorem viewT {H : Type} {enc : TypeId × Value → H} {W : World} : ∀ (m fuel : Nat) (cs : List Value) (d : DataW H) (p : List MemPlace), fuel ≤ m → DataW.trod enc Tryd.prog W 0 (fun _ => true) true fuel 25 cs = some (d, p) → (∀ v ∈ d.weights Tryd.prog 25, v ≤ reachBytes) →
    ∃ (x : Ex) (s : Value), cs = [.int .u8 (x.op : Int), .int .i64 x.n, .string x.name, s] ∧ St W x s := by
  intro m
  induction m with
  | zero => intro fuel cs d p hm h; obtain rfl : fuel = 0 := by omega
            simp [DataW.trod] at h
  | succ m ih =>
    intro fuel cs d p hm h hw
    obtain ⟨xs, n, hn, hx, hl, hlen, hfs⟩ := DataW.trod_struct Tryd.underlying25 h
    rw [cells25] at hl
    obtain ⟨c0, c1, c2, c3, rfl⟩ := list4 hl
    match xs, hlen with
    | [y0, y1, y2, y3], _ =>
      have h0 : DataW.trod enc Tryd.prog W 0 (fun _ => true) true n 22 [c0] = some y0 := by simpa [cells22] using hfs 0 _ rfl
      have h1 : DataW.trod enc Tryd.prog W 0 (fun _ => true) true n 2 [c1] = some y1 := by simpa [cells2] using hfs 1 _ rfl
      have h2 : DataW.trod enc Tryd.prog W 0 (fun _ => true) true n 9 [c2] = some y2 := by simpa [cells9] using hfs 2 _ rfl
      have h3 : DataW.trod enc Tryd.prog W 0 (fun _ => true) true n 23 [c3] = some y3 := by simpa [cells23] using hfs 3 _ rfl
      obtain ⟨op, e0, _, w0⟩ := DataW.trod_int Tryd.underlying22 h0
      obtain ⟨k, e1, _, w1⟩ := DataW.trod_int Tryd.underlying2 h1
      obtain ⟨nm, e2, hy2, _⟩ := DataW.trod_string Tryd.underlying9 h2
      simp only [List.cons.injEq, and_true] at e0 e1 e2
      subst e0 e1 e2
      simp only [Prod.mk.injEq] at hx
      obtain ⟨rfl, _⟩ := hx
      have hw2 : ∀ v ∈ y2.1.weights Tryd.prog 9, v ≤ reachBytes := fun v hv => hw v (by simp [DataW.weights, Tryd.underlying25, DataW.weightsEach]; right; right; left; exact hv)
      have hw3 : ∀ v ∈ y3.1.weights Tryd.prog 23, v ≤ reachBytes := fun v hv => hw v (by simp [DataW.weights, Tryd.underlying25, DataW.weightsEach]; right; right; right; exact hv)
      have hnm : nm.size ≤ 140737488355328 := by
        have := hw2 nm.data.toList.length (by rw [hy2]; simp [DataW.weights])
        rw [← Lib.size_eq] at this
        unfold reachBytes at this
        omega
      have hop : 0 ≤ op ∧ op < 256 := by
        simp [Lit.wf, IntKind.min, IntKind.max, IntKind.signed, IntKind.bits] at w0
        omega
      have hk : -9223372036854775808 ≤ k ∧ k ≤ 9223372036854775807 := by
        simp [Lit.wf, IntKind.min, IntKind.max, IntKind.signed, IntKind.bits] at w1
        omega
      obtain ⟨u, rfl⟩ : ∃ u : Nat, op = (u : Int) := ⟨op.toNat, by omega⟩
      rcases DataW.trod_slice Tryd.underlying23 h3 with ⟨hc, _⟩ | ⟨a, len, cap, elems, rest, n', hn', hc, hy3, hb, hlc, hcm, hel, helem, hsp, _⟩
      · simp only [List.cons.injEq, and_true] at hc
        subst hc
        exact ⟨.mk u k nm [], .slice none 0 0, rfl, St.intro (.mk u k nm []) none 0 (fun _ => .slice none 0 0) (by show u < 256; omega) hk hnm (by show 0 ≤ _; omega) (Nat.le_refl _) (.inl rfl) (fun i hi => by cases hi)⟩
      · simp only [List.cons.injEq, and_true] at hc
        subst hc
        rw [cells25] at helem
        have hwl : (len + rest.length) * 56 ≤ reachBytes := by
          have := hw3 ((elems.map (·.1)).length + (rest.map (·.1)).length |> (· * 56)) (by rw [hy3]; simp [DataW.weights, Tryd.underlying23, bytes25])
          simpa [hel] using this
        have hlen2 : len ≤ 2513169434843 := by unfold reachBytes at hwl; omega
        have each : ∀ i, ∃ q : Ex × Value, i < len → (∃ v0 v1 v2 v3, W.cell? ((a.add (i * 4)).add 0) = some v0 ∧ W.cell? ((a.add (i * 4)).add 1) = some v1 ∧ W.cell? ((a.add (i * 4)).add 2) = some v2 ∧ W.cell? ((a.add (i * 4)).add 3) = some v3 ∧ [v0, v1, v2, v3] = [.int .u8 (q.1.op : Int), .int .i64 q.1.n, .string q.1.name, q.2]) ∧ St W q.1 q.2 := by
          intro i
          by_cases hi : i < len
          · have he := helem i hi
            rw [List.getElem?_eq_getElem (by omega)] at he
            obtain ⟨l, hl1, hl2⟩ := Option.bind_eq_some_iff.1 he
            obtain ⟨v0, v1, v2, v3, rfl, g0, g1, g2, g3⟩ := cells4 hl1
            obtain ⟨x, s, ex, hs⟩ := ih n' _ _ _ (by omega) (show DataW.trod enc Tryd.prog W 0 (fun _ => true) true n' 25 [v0, v1, v2, v3] = some ((elems[i]'(by omega)).1, (elems[i]'(by omega)).2) from hl2) (fun v hv => hw3 v (by
              rw [hy3]
              simp only [DataW.weights, Tryd.underlying23]
              refine List.mem_cons_of_mem _ (List.mem_append_left _ (all_mem (i := i) (d := (elems[i]'(by omega)).1) ?_ v hv))
              rw [List.getElem?_map, List.getElem?_eq_getElem (by omega)]
              rfl))
            exact ⟨(x, s), fun _ => ⟨⟨v0, v1, v2, v3, g0, g1, g2, g3, ex⟩, hs⟩⟩
          · exact ⟨(.mk 0 0 ByteArray.empty [], .slice none 0 0), fun h => absurd h hi⟩
        obtain ⟨f, hf⟩ := Classical.axiomOfChoice each
        have hargs : ((List.range len).map fun i => (f i).1).length = len := by simp
        have hget : ∀ i (hi : i < ((List.range len).map fun i => (f i).1).length), ((List.range len).map fun i => (f i).1)[i] = (f i).1 := fun i hi => by simp
        refine ⟨.mk u k nm ((List.range len).map fun i => (f i).1), .slice (some a) len cap, rfl, ?_⟩
        have key : St W (.mk u k nm ((List.range len).map fun i => (f i).1)) (.slice (some a) ((List.range len).map fun i => (f i).1).length cap) := by
          refine St.intro (.mk u k nm ((List.range len).map fun i => (f i).1)) (some a) cap (fun i => (f i).2) (by show u < 256; omega) hk hnm (by show ((List.range len).map fun i => (f i).1).length ≤ _; omega) (by show ((List.range len).map fun i => (f i).1).length ≤ _; omega) ?_ (fun i hi => ?_)
          · by_cases h00 : len = 0
            · exact .inl (by show ((List.range len).map fun i => (f i).1).length = 0; omega)
            · right
              obtain ⟨b, o, sp⟩ := a
              have hspt : sp = none := by
                obtain ⟨⟨v0, _, _, _, g0, _⟩, _⟩ := hf 0 (by omega)
                simpa [Addr.add] using World.cell?_spot g0
              subst hspt
              refine ⟨b, o, rfl, fun i hi => ?_⟩
              have hi' : i < len := by have : i < ((List.range len).map fun i => (f i).1).length := hi; omega
              obtain ⟨⟨v0, v1, v2, v3, g0, g1, g2, g3, ex⟩, _⟩ := hf i hi'
              simp only [List.cons.injEq, and_true] at ex
              obtain ⟨rfl, rfl, rfl, rfl⟩ := ex
              rw [add_off, add_off] at g0 g1 g2 g3
              have e : (Ex.mk u k nm ((List.range len).map fun i => (f i).1)).args[i] = (f i).1 := hget i hi
              rw [e]
              exact ⟨g0, g1, g2, g3⟩
          · have hi' : i < len := by have : i < ((List.range len).map fun i => (f i).1).length := hi; omega
            have e : (Ex.mk u k nm ((List.range len).map fun i => (f i).1)).args[i] = (f i).1 := hget i hi
            rw [e]
            exact (hf i hi').2
        rwa [hargs] at key
theorem array4 {c : Array Value} (h : c.size = 4) : ∃ a b d e, c = #[a, b, d, e] := by
  obtain ⟨l⟩ := c
  obtain ⟨a, b, d, e, rfl⟩ := list4 (by simpa using h)
  exact ⟨a, b, d, e, rfl⟩
set_option maxRecDepth 100000 in
/-- An api.Expr that came in, opened once. -/
theorem viewE {H : Type} {enc : TypeId × Value → H} {W : World} {r : Reach} {b0 : Nat} {v : Value} {d : DataW H} {p : List MemPlace} {ts : List TypeId} {ds : List (DataW H)} {j : Nat}
    (hv : Value.okWide Tryd.prog W r b0 25 v) (h : DataW.Trod enc Tryd.prog W 0 (fun _ => true) true 25 v d p)
    (hsz : (DataW.weightsEach Tryd.prog ts ds).all (· ≤ reachBytes) = true) (ht : ts[j]? = some 25) (hj : ds[j]? = some d) : ∃ (x : Ex) (s : Value), v = exV x s ∧ St W x s := by
  obtain ⟨cs, rfl, hz⟩ := okWide_struct Tryd.underlying25 hv
  obtain ⟨c0, c1, c2, c3, rfl⟩ := array4 (by rw [hz]; exact cells25)
  obtain ⟨fuel, hf⟩ := h
  obtain ⟨x, s, e, hs⟩ := viewT fuel fuel _ d p (Nat.le_refl _) hf (fun v hv => by
    have := List.all_eq_true.1 hsz _ (DataW.weights_mem_each ht hj v hv)
    simpa using this)
  have e' : [c0, c1, c2, c3] = [.int .u8 (x.op : Int), .int .i64 x.n, .string x.name, s] := by simpa [Value.cells] using e
  simp only [List.cons.injEq, and_true] at e'
  obtain ⟨rfl, rfl, rfl, rfl⟩ := e'
  exact ⟨x, _, rfl, hs⟩
end Go.Proofs.YtkieljleopbhoaaDoor.Lex
namespace Go.Proofs.YtkieljleopbhoaaDoor.Lex
open Go.ChangeShapes Go.WideShapes Go.ChangeAt Go.RowKit Go.Joins
theorem ownGo : ownKnob Tryd.prog.godebug = none := by kernel_rfl
theorem gRes : Tryd.prog.globalNamed "belfry/tokens.reserved" = some 3 := by kernel_rfl
theorem tRes : (Tryd.prog.globals[3]?).map (·.type) = some 129 := by kernel_rfl
theorem gJoin : Tryd.prog.globalNamed "belfry/exprs.joins" = some 0 := by kernel_rfl
theorem tJoin : (Tryd.prog.globals[0]?).map (·.type) = some 96 := by kernel_rfl
theorem tPow : (Tryd.prog.globals[2]?).map (·.type) = some 123 := by kernel_rfl
theorem cells129 : Tryd.prog.cellsOf 129 = 17 := by kernel_rfl
theorem cells123 : Tryd.prog.cellsOf 123 = 20 := by kernel_rfl
theorem cells110 : Tryd.prog.cellsOf 110 = 1 := by kernel_rfl
theorem cells96 : Tryd.prog.cellsOf 96 = 72 := by kernel_rfl
theorem cells83 : Tryd.prog.cellsOf 83 = 6 := by kernel_rfl
/-- An array of strings that reads as a table holds the table's strings, cell for cell. -/
theorem cells_of_strs {H : Type} {enc : TypeId × Value → H} {P : Program} {w : World} {base : Nat} {sp : Nat → Bool} {held : Bool} {fuel : Nat} {t e : TypeId} {n : Nat} {cs : List Value} {zs : List (List UInt8)} {p : List MemPlace}
    (ht : P.underlying t = some (.array n e)) (he : P.underlying e = some .string) (hce : P.cellsOf e = 1) (hct : P.cellsOf t = n)
    (h : DataW.trod enc P w base sp held fuel t cs = some (.agg (zs.map fun z => .lit (.string z)), p)) : cs = zs.map fun z => Value.string ⟨z.toArray⟩ := by
  cases fuel with
  | zero => simp [DataW.trod] at h
  | succ fuel =>
    simp only [DataW.trod, ht, hce, hct, Nat.mul_one] at h
    split at h
    · rename_i hl
      obtain ⟨xs, hm, hx⟩ := Option.map_eq_some_iff.1 h
      have hxs : xs.map (·.1) = zs.map fun z => (DataW.lit (.string z) : DataW H) := by
        have := congrArg Prod.fst hx
        simpa using this
      have hxl : xs.length = n := by simpa using Lib.mapM_length hm
      have hzl : zs.length = n := by
        have := congrArg List.length hxs
        simp at this
        omega
      apply List.ext_getElem?
      intro i
      by_cases hi : i < n
      · obtain ⟨b, hb, hf⟩ := Lib.mapM_at hm i i (by simp [hi])
        obtain ⟨z, hc, rfl, _⟩ := DataW.trod_string he hf
        have h1 : cs[i]? = some (.string z) := by
          have := congrArg (·[0]?) hc
          simpa [List.getElem?_take, List.getElem?_drop] using this
        have h2 : (xs.map (·.1))[i]? = some (DataW.lit (.string z.data.toList) : DataW H) := by simp [hb]
        rw [hxs] at h2
        simp only [List.getElem?_map, Option.map_eq_some_iff, DataW.lit.injEq, Lit.string.injEq] at h2
        obtain ⟨z', hz', rfl⟩ := h2
        simp [h1, hz']
      · rw [List.getElem?_eq_none (by omega), List.getElem?_eq_none (by simp; omega)]
    · cases h
def resB : List (List UInt8) := [[115, 116, 97, 116, 105, 111, 110, 115], [105, 110], [97, 116], [102, 108, 111, 119], [100, 101, 102, 97, 117, 108, 116], [111, 117, 116], [105, 102], [116, 104, 101, 110], [101, 108, 115, 101], [112, 114, 101], [97, 110, 100], [111, 114], [110, 111, 116], [116, 114, 117, 101], [102, 97, 108, 115, 101], [105, 110, 116], [98, 111, 111, 108]]
/-- A row of the table of operators, as a datum. -/
def jD {H : Type} (r : J) : DataW H := .agg [.lit (.int .u8 (r.op : Int)), .agg [.lit (.int .u8 (r.kind : Int)), .lit (.string r.text.data.toList)], .lit (.int .i64 (r.rank : Int)), .lit (.int .i64 (r.first : Int)), .lit (.int .i64 (r.second : Int))]
theorem list6 {l : List Value} (h : l.length = 6) : ∃ a b c d e f, l = [a, b, c, d, e, f] := by match l, h with | [a, b, c, d, e, f], _ => exact ⟨a, b, c, d, e, f, rfl⟩
theorem lit_int {H : Type} {enc : TypeId × Value → H} {w : World} {base : Nat} {sp : Nat → Bool} {held : Bool} {fuel : Nat} {t : TypeId} {k : IntKind} {c : Value} {z : Int} {q : List MemPlace} (ht : Tryd.prog.underlying t = some (.int k)) (h : DataW.trod enc Tryd.prog w base sp held fuel t [c] = some (.lit (.int k z), q)) : c = .int k z := by
  obtain ⟨n, e, hx, _⟩ := DataW.trod_int ht h
  simp only [Prod.mk.injEq, DataW.lit.injEq, Lit.int.injEq, true_and] at hx
  simp only [List.cons.injEq, and_true] at e
  rw [e, hx.1]
theorem lit_str {H : Type} {enc : TypeId × Value → H} {w : World} {base : Nat} {sp : Nat → Bool} {held : Bool} {fuel : Nat} {c : Value} {z : List UInt8} {q : List MemPlace} (h : DataW.trod enc Tryd.prog w base sp held fuel 9 [c] = some (.lit (.string z), q)) : c = .string ⟨z.toArray⟩ := by
  obtain ⟨s, e, hx, _⟩ := DataW.trod_string Tryd.underlying9 h
  simp only [Prod.mk.injEq, DataW.lit.injEq, Lit.string.injEq] at hx
  simp only [List.cons.injEq, and_true] at e
  rw [e, hx.1]
set_option maxRecDepth 100000 in
/-- The cells of a row. -/
theorem row_cells {H : Type} {enc : TypeId × Value → H} {w : World} {base : Nat} {sp : Nat → Bool} {held : Bool} {fuel : Nat} {cs : List Value} {q : List MemPlace} (r : J) (h : DataW.trod enc Tryd.prog w base sp held fuel 83 cs = some (jD r, q)) : cs = (jrow r).toList := by
  obtain ⟨xs, n, _, hx, hl, hlen, hfs⟩ := DataW.trod_struct Tryd.underlying83 h
  rw [cells83] at hl
  obtain ⟨c0, c1, c2, c3, c4, c5, rfl⟩ := list6 hl
  match xs, hlen with
  | [y0, y1, y2, y3, y4], _ =>
    have h0 : DataW.trod enc Tryd.prog w base sp held n 22 [c0] = some y0 := by simpa [cells22] using hfs 0 _ rfl
    have h1 : DataW.trod enc Tryd.prog w base sp held n 81 [c1, c2] = some y1 := by simpa [cells81] using hfs 1 _ rfl
    have h2 : DataW.trod enc Tryd.prog w base sp held n 3 [c3] = some y2 := by simpa [cells3] using hfs 2 _ rfl
    have h3 : DataW.trod enc Tryd.prog w base sp held n 3 [c4] = some y3 := by simpa [cells3] using hfs 3 _ rfl
    have h4 : DataW.trod enc Tryd.prog w base sp held n 3 [c5] = some y4 := by simpa [cells3] using hfs 4 _ rfl
    simp only [jD, Prod.mk.injEq, List.map_cons, List.map_nil, DataW.agg.injEq, List.cons.injEq, and_true] at hx
    obtain ⟨⟨g0, g1, g2, g3, g4⟩, _⟩ := hx
    obtain ⟨z0, z1, m, hy, _, k0, k1⟩ := trod_struct2 Tryd.underlying81 h1
    have k0' : DataW.trod enc Tryd.prog w base sp held m 5 [c1] = some z0 := by simpa [cells5] using k0
    have k1' : DataW.trod enc Tryd.prog w base sp held m 9 [c2] = some z1 := by simpa [cells9] using k1
    rw [hy] at g1
    simp only [DataW.agg.injEq, List.cons.injEq, and_true] at g1
    have f0 : c0 = .int .u8 (r.op : Int) := lit_int Tryd.underlying22 (by rw [g0]; exact h0)
    have f1 : c1 = .int .u8 (r.kind : Int) := lit_int Tryd.underlying5 (by rw [g1.1]; exact k0')
    have f2 : c2 = .string ⟨r.text.data.toList.toArray⟩ := lit_str (by rw [g1.2]; exact k1')
    have f3 : c3 = .int .i64 (r.rank : Int) := lit_int Tryd.underlying3 (by rw [g2]; exact h2)
    have f4 : c4 = .int .i64 (r.first : Int) := lit_int Tryd.underlying3 (by rw [g3]; exact h3)
    have f5 : c5 = .int .i64 (r.second : Int) := lit_int Tryd.underlying3 (by rw [g4]; exact h4)
    rw [f0, f1, f2, f3, f4, f5]
    simp [jrow]
theorem chunk {α : Type} (m : Nat) : ∀ (n : Nat) (cs : List α), cs.length = n * m → (List.range n).flatMap (fun i => (cs.drop (i * m)).take m) = cs
  | 0, cs, h => by
    have : cs = [] := List.eq_nil_of_length_eq_zero (by omega)
    subst this
    rfl
  | n + 1, cs, h => by
    have hnm : (n + 1) * m = n * m + m := Nat.succ_mul n m
    have ih := chunk m n (cs.take (n * m)) (by rw [List.length_take]; omega)
    rw [List.range_succ, List.flatMap_append]
    have e : (List.range n).flatMap (fun i => (cs.drop (i * m)).take m) = (List.range n).flatMap (fun i => ((cs.take (n * m)).drop (i * m)).take m) := by
      have hh : ∀ (l : List Nat), (∀ i ∈ l, i < n) → l.flatMap (fun i => (cs.drop (i * m)).take m) = l.flatMap (fun i => ((cs.take (n * m)).drop (i * m)).take m) := by
        intro l
        induction l with
        | nil => intro _; rfl
        | cons i l ihl =>
          intro hl
          have hi := hl i (List.mem_cons_self ..)
          have him : i * m + m ≤ n * m := by rw [← Nat.succ_mul]; exact Nat.mul_le_mul_right m hi
          rw [List.flatMap_cons, List.flatMap_cons, ihl fun j hj => hl j (List.mem_cons_of_mem _ hj), List.drop_take, List.take_take, Nat.min_eq_left (by omega)]
      exact hh _ fun i hi => List.mem_range.1 hi
    rw [e, ih]
    simp only [List.flatMap_cons, List.flatMap_nil, List.append_nil]
    have hd : (cs.drop (n * m)).take m = cs.drop (n * m) := List.take_of_length_le (by rw [List.length_drop]; omega)
    rw [hd, List.take_append_drop]
set_option maxRecDepth 100000 in
/-- The table's cells. -/
theorem join_cells {H : Type} {enc : TypeId × Value → H} {w : World} {base : Nat} {sp : Nat → Bool} {held : Bool} {fuel : Nat} {cs : List Value} {q : List MemPlace} (h : DataW.trod enc Tryd.prog w base sp held fuel 96 cs = some (.agg (JT.map jD), q)) : cs = joinV.toList := by
  cases fuel with
  | zero => simp [DataW.trod] at h
  | succ fuel =>
    simp only [DataW.trod, Tryd.underlying96, cells83, cells96] at h
    split at h
    · rename_i hl
      obtain ⟨xs, hm, hx⟩ := Option.map_eq_some_iff.1 h
      have hxs : xs.map (·.1) = JT.map jD := by
        have := congrArg Prod.fst hx
        simpa using this
      have hxl : xs.length = 12 := by simpa using Lib.mapM_length hm
      rw [← chunk 6 12 cs (by omega)]
      have hh : ∀ i, i < 12 → (cs.drop (i * 6)).take 6 = (jrow (jR i)).toList := fun i hi => by
        obtain ⟨b, hb, hf⟩ := Lib.mapM_at hm i i (by simp [hi])
        have h1 : (xs.map (·.1))[i]? = some b.1 := by simp [hb]
        rw [hxs, List.getElem?_map] at h1
        have h2 : JT[i]? = some (jR i) := by
          unfold jR
          have : i < JT.length := hi
          rw [List.getD_eq_getElem?_getD, List.getElem?_eq_getElem this]
          rfl
        rw [h2] at h1
        simp only [Option.map_some, Option.some.injEq] at h1
        exact row_cells (jR i) (q := b.2) (by rw [hf, h1])
      have e : (List.range 12).flatMap (fun i => (cs.drop (i * 6)).take 6) = (List.range 12).flatMap (fun i => (jrow (jR i)).toList) := by
        have hh2 : ∀ (l : List Nat), (∀ i ∈ l, i < 12) → l.flatMap (fun i => (cs.drop (i * 6)).take 6) = l.flatMap (fun i => (jrow (jR i)).toList) := by
          intro l
          induction l with
          | nil => intro _; rfl
          | cons i l ihl => intro hl; rw [List.flatMap_cons, List.flatMap_cons, ihl fun j hj => hl j (List.mem_cons_of_mem _ hj), hh i (hl i (List.mem_cons_self ..))]
        exact hh2 _ fun i hi => List.mem_range.1 hi
      rw [e]
      rfl
    · cases h
/-- What the package-level variables hold when a call begins. -/
def laidL : List (String × DataW Unit) := [("math/bits.deBruijn32tab", Rows.laid_math_bits_deBruijn32tab), ("math/bits.deBruijn64tab", Rows.laid_math_bits_deBruijn64tab), ("internal/strconv.uint64pow10", Rows.laid_internal_strconv_uint64pow10), ("belfry/tokens.reserved", Rows.laid_belfry_tokens_reserved), ("belfry/exprs.joins", Rows.laid_belfry_exprs_joins)]
theorem door_met (os : Os) (args : Array Value) : laidMetH Tryd.prog laidL ((World.doorLaid Tryd.prog 101 os).forCall (fun _ _ => 0) ⟨#[], args, []⟩).memory :=
  laidMetH_of_parts3 (fuel := 8) (laidMet_of_run' 8 (by kernel_rfl) (by kernel_rfl)) (by kernel_rfl) (by kernel_rfl)
theorem var_res {w : World} {x : Array Value} (h : w.var? Tryd.prog "belfry/tokens.reserved" = some x) : ∃ t fz, w.heap[3]? = some (.cells x t fz) := by
  unfold World.var? at h
  rw [gRes] at h
  simp only [Option.bind_some] at h
  split at h
  · next cs t fz he => injection h with h; subst h; exact ⟨_, _, he⟩
  · cases h
theorem var_join {w : World} {x : Array Value} (h : w.var? Tryd.prog "belfry/exprs.joins" = some x) : ∃ t fz, w.heap[0]? = some (.cells x t fz) := by
  unfold World.var? at h
  rw [gJoin] at h
  simp only [Option.bind_some] at h
  split at h
  · next cs t fz he => injection h with h; subst h; exact ⟨_, _, he⟩
  · cases h
theorem res_of {W : World} {rest : List (String × DataW Unit)} (h : laidMet Tryd.prog (("belfry/tokens.reserved", Rows.laid_belfry_tokens_reserved) :: rest) W) : TabR W := by
  obtain ⟨ps, ⟨g0, t0, cs0, f0, p0, q0, hg0, ht0, hv0, hd0, _, _⟩, _⟩ := h
  obtain rfl := Option.some.inj (gRes.symm.trans hg0)
  obtain rfl := Option.some.inj (tRes.symm.trans ht0)
  have hd : DataW.trod _ Tryd.prog W 0 _ _ f0 129 cs0.toList = some (.agg (resB.map fun z => .lit (.string z)), p0) := hd0
  have hcs := cells_of_strs Tryd.underlying129 Tryd.underlying9 cells9 cells129 hd
  obtain ⟨t, fz, hb⟩ := var_res hv0
  refine ⟨t, fz, ?_⟩
  rw [hb]
  obtain ⟨l⟩ := cs0
  simp only at hcs
  subst hcs
  rfl
theorem join_of {W : World} {rest : List (String × DataW Unit)} (h : laidMet Tryd.prog (("belfry/exprs.joins", Rows.laid_belfry_exprs_joins) :: rest) W) : TabJ W := by
  obtain ⟨ps, ⟨g0, t0, cs0, f0, p0, q0, hg0, ht0, hv0, hd0, _, _⟩, _⟩ := h
  obtain rfl := Option.some.inj (gJoin.symm.trans hg0)
  obtain rfl := Option.some.inj (tJoin.symm.trans ht0)
  have hd : DataW.trod _ Tryd.prog W 0 _ _ f0 96 cs0.toList = some (.agg (JT.map jD), p0) := hd0
  have hcs := join_cells hd
  obtain ⟨t, fz, hb⟩ := var_join hv0
  refine ⟨t, fz, ?_⟩
  rw [hb]
  obtain ⟨l⟩ := cs0
  simp only at hcs
  subst hcs
  rfl
theorem wid_of_laid {W : World} (h : laidMetH Tryd.prog laidL W) : Env W := by
  rw [MakeChecks.laidMetH_plain _ _ _ (by kernel_rfl)] at h
  have h3 : laidMet Tryd.prog [("internal/strconv.uint64pow10", Rows.laid_internal_strconv_uint64pow10), ("belfry/tokens.reserved", Rows.laid_belfry_tokens_reserved), ("belfry/exprs.joins", Rows.laid_belfry_exprs_joins)] W := h.tail.tail
  exact ⟨res_of h3.tail, join_of h3.tail.tail, Lib.tabIs_of_head (rest := [("belfry/tokens.reserved", Rows.laid_belfry_tokens_reserved), ("belfry/exprs.joins", Rows.laid_belfry_exprs_joins)]) gPow tPow Tryd.underlying123 Tryd.underlying110 cells110 cells123 h3⟩
end Go.Proofs.YtkieljleopbhoaaDoor.Lex
namespace Go.Proofs.YtkieljleopbhoaaDoor.Lex8
open Go.ChangeShapes Go.WideShapes Go.ChangeAt Go.RowKit Go.Joins Lex
theorem ownGo : ownKnob Tryd.prog.godebug = none := Lex.ownGo
theorem laidOut : laidOutB Tryd.prog = true := Lex.laidOut
theorem gSig : Tryd.prog.globalNamed "belfry/tokens.signTexts" = some 1 := by kernel_rfl
theorem tSig : (Tryd.prog.globals[1]?).map (·.type) = some 100 := by kernel_rfl
theorem cells100 : Tryd.prog.cellsOf 100 = 16 := by kernel_rfl
theorem tRange : (Tryd.prog.globals[7]?).map (·.type) = some 117 := by kernel_rfl
theorem cells146 : Tryd.prog.cellsOf 146 = 1 := by kernel_rfl
theorem star : "*" ++ "errors.errorString" = "*errors.errorString" := by decide
theorem row144 (u : TypeId) (h : Tryd.prog.typeName? 3 u = some "*errors.errorString") : u = 144 :=
  typeName_ptr_named (nm := "errors.errorString") (by rw [star]; kernel_rfl) (by kernel_rfl) (by decide) u (by rw [star]; exact h)
/-- What the package-level variables hold when a call begins. -/
def laidL : List (String × DataW Unit) := [("math/bits.deBruijn32tab", Rows.laid_math_bits_deBruijn32tab), ("math/bits.deBruijn64tab", Rows.laid_math_bits_deBruijn64tab), ("internal/strconv.uint64pow10", Rows.laid_internal_strconv_uint64pow10), ("strconv.ErrRange", Rows.laid_strconv_ErrRange), ("strconv.ErrSyntax", Rows.laid_strconv_ErrSyntax), ("belfry/tokens.reserved", Rows.laid_belfry_tokens_reserved), ("belfry/tokens.signTexts", Rows.laid_belfry_tokens_signTexts), ("belfry/exprs.joins", Rows.laid_belfry_exprs_joins)]
theorem door_met (os : Os) (args : Array Value) : laidMetH Tryd.prog laidL ((World.doorLaid Tryd.prog 101 os).forCall (fun _ _ => 0) ⟨#[], args, []⟩).memory :=
  laidMetH_of_parts3 (fuel := 8) (laidMet_of_run' 8 (by kernel_rfl) (by kernel_rfl)) (by kernel_rfl) (by kernel_rfl)
theorem var_block {w : World} {x : Array Value} (h : w.var? Tryd.prog "belfry/tokens.signTexts" = some x) : ∃ t fz, w.heap[1]? = some (.cells x t fz) := by
  unfold World.var? at h
  rw [gSig] at h
  simp only [Option.bind_some] at h
  split at h
  · next cs t fz he => injection h with h; subst h; exact ⟨_, _, he⟩
  · cases h
def sigB : List (List UInt8) := [[60, 61], [61, 61], [33, 61], [45, 62], [40], [41], [58], [59], [44], [61], [43], [45], [42], [47], [37], [60]]
theorem wid_of_laid {W : World} (h : laidMetH Tryd.prog laidL W) : AEnv W := by
  rw [MakeChecks.laidMetH_plain _ _ _ (by kernel_rfl)] at h
  have h2 : laidMet Tryd.prog [("internal/strconv.uint64pow10", Rows.laid_internal_strconv_uint64pow10), ("strconv.ErrRange", Rows.laid_strconv_ErrRange), ("strconv.ErrSyntax", Rows.laid_strconv_ErrSyntax), ("belfry/tokens.reserved", Rows.laid_belfry_tokens_reserved), ("belfry/tokens.signTexts", Rows.laid_belfry_tokens_signTexts), ("belfry/exprs.joins", Rows.laid_belfry_exprs_joins)] W := h.tail.tail
  have h3 := h2.tail
  obtain ⟨a0, s0, hv0, -, -, -⟩ := laid_sentinel h3 gRange tRange Tryd.underlying117 row144 Tryd.underlying144 Tryd.underlying146 rfl rfl Tryd.underlying9 cells146 cells9
  refine ⟨?_, ⟨res_of h3.tail.tail, join_of h3.tail.tail.tail.tail, Lib.tabIs_of_head (rest := [("strconv.ErrRange", Rows.laid_strconv_ErrRange), ("strconv.ErrSyntax", Rows.laid_strconv_ErrSyntax), ("belfry/tokens.reserved", Rows.laid_belfry_tokens_reserved), ("belfry/tokens.signTexts", Rows.laid_belfry_tokens_signTexts), ("belfry/exprs.joins", Rows.laid_belfry_exprs_joins)]) gPow tPow Tryd.underlying123 Tryd.underlying110 cells110 cells123 h2⟩, _, _, hv0⟩
  obtain ⟨ps, ⟨g0, t0, cs0, f0, p0, q0, hg0, ht0, hv0, hd0, _, _⟩, _⟩ := h3.tail.tail.tail
  obtain rfl := Option.some.inj (gSig.symm.trans hg0)
  obtain rfl := Option.some.inj (tSig.symm.trans ht0)
  have hd : DataW.trod _ Tryd.prog W 0 _ _ f0 100 cs0.toList = some (.agg (sigB.map fun z => .lit (.string z)), p0) := hd0
  have hcs := cells_of_strs Tryd.underlying100 Tryd.underlying9 cells9 cells100 hd
  obtain ⟨t, fz, hb⟩ := var_block hv0
  refine ⟨t, fz, ?_⟩
  rw [hb]
  obtain ⟨l⟩ := cs0
  simp only at hcs
  subst hcs
  rfl
theorem nat_c {n : Int} (h : (Lit.int .u8 n).wf = true) : ∃ k : Nat, k < 256 ∧ n = (k : Int) := by
  simp [Lit.wf, IntKind.min, IntKind.max, IntKind.signed, IntKind.bits] at h
  exact ⟨n.toNat, by omega, by omega⟩
end Go.Proofs.YtkieljleopbhoaaDoor.Lex8
