/-
  Beyond; the walk of the law on Find, whatever the program and the name.
-/
import Derived.Test.YtilpoiihoikhlaaPgSize
import Derived.Test.YtilpoiihoikhlaaLeftP
import Derived.Test.YtilpoiihoikhlaaRFind
namespace Go.Proofs.Ytilpoiihoikhlaa.Lex
open Go.ChangeShapes Go.WideShapes Go.ChangeAt Go.RowKit Go.Joins
theorem take_snoc (l : List Int) (k : Nat) (h : k < l.length) : l.take (k + 1) = l.take k ++ [l.getD k 0] := by
  rw [List.take_succ_eq_append_getElem h]; simp [h]
/-- The sum of the first ones. -/
def sumTo (l : List Int) (k : Nat) : Int := (l.take k).sum
theorem sum_nonneg (l : List Int) (h : ∀ x ∈ l, 0 ≤ x) : 0 ≤ l.sum := by
  induction l with
  | nil => simp
  | cons a l ih =>
    have h1 := h a (by simp)
    have h2 := ih fun x hx => h x (by simp [hx])
    simp only [List.sum_cons]; omega
theorem sumTo_le (l : List Int) (k : Nat) (h : ∀ x ∈ l, 0 ≤ x) : sumTo l k ≤ l.sum := by
  have e : l.sum = (l.take k).sum + (l.drop k).sum := by rw [← List.sum_append, List.take_append_drop]
  have := sum_nonneg (l.drop k) fun x hx => h x (List.mem_of_mem_drop hx)
  unfold sumTo; omega
theorem sumTo_succ (l : List Int) (k : Nat) (h : k < l.length) : sumTo l (k + 1) = sumTo l k + l.getD k 0 := by
  unfold sumTo; rw [take_snoc l k h, List.sum_append]; simp
theorem getD_mem (l : List Int) (k : Nat) (h : k < l.length) : l.getD k 0 ∈ l := by
  simp [h]

theorem val_int {k : IntKind} {a b : Int} (h : a = b) : Value.int k a = .int k b := by rw [h]
theorem ret_true {p : Prop} [Decidable p] (h : p) : Ending.returned (.bool true) = .returned (.bool (decide p)) := by rw [decide_eq_true h]
theorem ret_false {p : Prop} [Decidable p] (h : ¬ p) : Ending.returned (.bool false) = .returned (.bool (decide p)) := by rw [decide_eq_false h]
/-- Beyond: are these sizes together above the bound? -/
theorem w9 (b o len cap : Nat) (l : List Int) (w : World) (hl : l.length = len) (hlen : len ≤ 3) (h0 : ∀ x ∈ l, 0 ≤ x ∧ x ≤ 140737488355328)
    (hc : ∀ i, i < len → w.cell? ⟨b, o + i, none⟩ = some (.int .i64 (l.getD i 0))) :
    Calls Try.prog 5 #[.slice (some ⟨b, o, none⟩) len cap] w fun e w' => (e = .returned (.bool (decide (1048576 < l.sum)))) ∧ w' = w := by
  go_enter Try.func5, Try.ntmps5
  go_wp2
  go_loop [3, 4] (fun n i => ∃ k : Nat, k ≤ len ∧ i = .int .i64 k ∧ n = .int .i64 (sumTo l k) ∧ 0 ≤ sumTo l k ∧ sumTo l k ≤ 1048576) (fun _ i => len - (intOf i).toNat)
  case atStart => exact ⟨0, Nat.zero_le _, rfl, rfl, by simp [sumTo], by simp [sumTo]⟩
  case round =>
    obtain ⟨k, hk, rfl, rfl, hp, hq⟩ := hrel
    by_cases hlt : k < len
    · have hck := hc k hlt
      have hs := sumTo_succ l k (by omega)
      have hle := sumTo_le l (k + 1) (fun x hx => (h0 x hx).1)
      obtain ⟨hz0, hz1⟩ := h0 _ (getD_mem l k (by omega))
      have HS : Hid (sumTo l (k + 1) = sumTo l k + l.getD k 0) := hs
      have HLE : Hid (sumTo l (k + 1) ≤ l.sum) := hle
      clear hs hle h0 hc
      generalize l.getD k 0 = z at hck hz0 hz1 HS
      generalize sumTo l k = t at hp hq HS
      have hlt' : (k : Int) < (len : Int) := by omega
      by_cases hbig : 1048576 < t + z
      · go_wp2
        go_ret
        have h1 := HS.out
        have h2 := HLE.out
        exact ⟨ret_true (by omega), rfl⟩
      · go_wp2
        go_round
        case rel =>
          have h1 := HS.out
          exact ⟨k + 1, by omega, by go_num, val_int h1.symm, by omega, by omega⟩
        case measure => simp [intOf]; omega
    · have e : sumTo l k = l.sum := by unfold sumTo; rw [List.take_of_length_le (by omega)]
      have HE : Hid (sumTo l k = l.sum) := e
      clear e h0 hc
      generalize sumTo l k = t at hp hq HE
      go_wp2
      go_ret
      have h1 := HE.out
      exact ⟨ret_false (by omega), rfl⟩
/-- Beyond of sizes that are too much, and of sizes that are not. -/
theorem beyond_yes (b len cap : Nat) (l : List Int) (w : World) (hl : l.length = len) (hlen : len ≤ 3) (h0 : ∀ x ∈ l, 0 ≤ x ∧ x ≤ 140737488355328) (hc : ∀ i, i < len → w.cell? ⟨b, 0 + i, none⟩ = some (.int .i64 (l.getD i 0))) (hs : 1048576 < l.sum) :
    Calls Try.prog 5 #[.slice (some ⟨b, 0, none⟩) len cap] w fun e w' => e = .returned (.bool true) ∧ w' = w :=
  (w9 b 0 len cap l w hl hlen h0 hc).mono fun e w' ⟨h1, h2⟩ => ⟨by rw [h1, decide_eq_true hs], h2⟩
theorem beyond_no (b len cap : Nat) (l : List Int) (w : World) (hl : l.length = len) (hlen : len ≤ 3) (h0 : ∀ x ∈ l, 0 ≤ x ∧ x ≤ 140737488355328) (hc : ∀ i, i < len → w.cell? ⟨b, 0 + i, none⟩ = some (.int .i64 (l.getD i 0))) (hs : l.sum ≤ 1048576) :
    Calls Try.prog 5 #[.slice (some ⟨b, 0, none⟩) len cap] w fun e w' => e = .returned (.bool false) ∧ w' = w :=
  (w9 b 0 len cap l w hl hlen h0 hc).mono fun e w' ⟨h1, h2⟩ => ⟨by rw [h1, decide_eq_false (by omega)], h2⟩
theorem one_cell (w : World) (n : Nat) : ∀ i, i < 1 → (w.alloc (.cells #[.int .i64 (n : Int)] 3)).cell? ⟨w.heap.size, 0 + i, none⟩ = some (.int .i64 ([(n : Int)].getD i 0)) := by
  intro i hi
  obtain rfl : i = 0 := by omega
  simp
theorem one_size (n : Nat) (h : n ≤ 140737488355328) : ∀ x ∈ [(n : Int)], 0 ≤ x ∧ x ≤ 140737488355328 := by
  intro x hx
  simp at hx
  subst hx
  omega
/-- What Find and the document's Find answer, taken apart. -/
theorem foV_parts (o : Option (Int × Hd)) : ∃ (s : Int) (t : Nat) (f : Int) (k : Bool), foV o = #[.int .i64 s, .int .u8 (t : Int), .int .i64 f, .bool k] := by
  cases o with
  | none => exact ⟨0, 0, 0, false, rfl⟩
  | some x => exact ⟨x.2.st, x.2.ty, x.1, true, rfl⟩
set_option maxRecDepth 100000 in
set_option maxHeartbeats 4000000 in
theorem walk3 (p : Pg) (name : ByteArray) (w : World) (a b c : Value) (hP : PgAt w p a b c) (hnm : name.size ≤ 140737488355328) :
    Calls Try.prog 3 #[pgV p a b c, .string name] w fun e w' => e = .returned (.bool true) ∧ Below w.heap.size w w' := by
  obtain ⟨a0, a1, rfl, _⟩ := hP.ins
  obtain ⟨b0, b1, _, rfl, _⟩ := hP.flows
  obtain ⟨c0, c1, rfl, _⟩ := hP.outs
  obtain ⟨rs, rt, rf, rk, hfo⟩ := foV_parts (findT (thingsL p) name)
  have cf := fun W a b c h => find p name W a b c h
  have cr := fun W a b c h => rfind p name W a b c h
  rw [hfo] at cf cr
  have B0 := hid ((Below.refl w.heap.size w).alloc (Nat.le_refl _) (.cells (pgC p (.slice a0 p.ins.length a1) (.slice b0 p.flows.length b1) (.slice c0 p.outs.length c1)) 26))
  have P0 := hid (hP.keep B0.out)
  have X0 := hid (fun j v => box_at w (pgC p (.slice a0 p.ins.length a1) (.slice b0 p.flows.length b1) (.slice c0 p.outs.length c1)) 26 j v)
  have e1 : (rs == rs) = true := by simp
  have e2 : ((rt : Int) == (rt : Int)) = true := by simp
  have e3 : (rf == rf) = true := by simp
  have e4 : (rk == rk) = true := by simp
  have x0 := X0.out 0 (.int .i64 p.st) rfl
  have x1 := X0.out 1 (.slice a0 p.ins.length a1) rfl
  have x2 := X0.out 2 (.slice b0 p.flows.length b1) rfl
  have x3 := X0.out 3 (.slice c0 p.outs.length c1) rfl
  clear hP X0 hfo
  by_cases hbig : 1048576 < name.size
  · have hs : 1048576 < ([(name.size : Int)]).sum := by simp; omega
    go_enter Try.func3, Try.ntmps3
    go_wp2_with (first
      | (go_at_call 4; refine (great p _ _ _ _ P0.out).mono ?_; rintro e w1 ⟨⟨g, rfl, hg⟩, hb1⟩; have B1 := hid (bstep B0.out hb1); clear P0 hb1 hg)
      | (go_at_call 5; refine (beyond_yes _ 1 1 [(name.size : Int)] _ rfl (by omega) (one_size _ hnm) (one_cell _ _) hs).mono ?_; rintro e w2 ⟨rfl, rfl⟩))
    all_goals (go_ret; first | exact ⟨rfl, B1.out⟩ | exact ⟨rfl, bstep B1.out ((Below.refl _ _).alloc (Nat.le_refl _) _)⟩)
  · have hs : ([(name.size : Int)]).sum ≤ 1048576 := by simp; omega
    go_enter Try.func3, Try.ntmps3
    go_wp2_with (first
      | (go_at_call 4; refine (great p _ _ _ _ P0.out).mono ?_; rintro e w1 ⟨⟨g, rfl, hg⟩, hb1⟩; have y0 := cell_kept x0 hb1; have y1 := cell_kept x1 hb1; have y2 := cell_kept x2 hb1; have y3 := cell_kept x3 hb1; have P1 := hid (P0.out.keep hb1); have B1 := hid (bstep B0.out hb1); clear P0 hb1 hg x0 x1 x2 x3)
      | (go_at_call 5; refine (beyond_no _ 1 1 [(name.size : Int)] _ rfl (by omega) (one_size _ hnm) (one_cell _ _) hs).mono ?_; rintro e w2 ⟨rfl, rfl⟩; have b2 := (Below.refl w1.heap.size w1).alloc (Nat.le_refl _) (.cells #[.int .i64 (name.size : Int)] 3); have z0 := cell_kept y0 b2; have z1 := cell_kept y1 b2; have z2 := cell_kept y2 b2; have z3 := cell_kept y3 b2; have P2 := hid (P1.out.keep b2); have B2 := hid (bstep B1.out b2); clear P1 y0 y1 y2 y3 b2)
      | (go_at_call 6; refine (twin_prog p _ _ _ _ P2.out).mono ?_; rintro e w3 ⟨a', b', c', rfl, ht3, hb3⟩; obtain ⟨g3, k3, rfl, _⟩ := id ht3.ins; obtain ⟨g4, k4, _, rfl, _⟩ := id ht3.flows; obtain ⟨g5, k5, rfl, _⟩ := id ht3.outs; have ba := (Below.refl w3.heap.size w3).alloc (Nat.le_refl _) (.cells (pgC p (.slice (some ⟨g3, 0, none⟩) p.ins.length k3) (.slice (some ⟨g4, 0, none⟩) p.flows.length k4) (.slice (some ⟨g5, 0, none⟩) p.outs.length k5)) 26); have b4 := bstep hb3 ba; have T4 := hid (ht3.keep ba); have P4 := hid (P2.out.keep b4); have B4 := hid (bstep B2.out b4); have t0 := cell_kept z0 b4; have t1 := cell_kept z1 b4; have t2 := cell_kept z2 b4; have t3 := cell_kept z3 b4; have bx := fun j v => box_at w3 (pgC p (.slice (some ⟨g3, 0, none⟩) p.ins.length k3) (.slice (some ⟨g4, 0, none⟩) p.flows.length k4) (.slice (some ⟨g5, 0, none⟩) p.outs.length k5)) 26 j v; have u0 := bx 0 (.int .i64 p.st) rfl; have u1 := bx 1 (.slice (some ⟨g3, 0, none⟩) p.ins.length k3) rfl; have u2 := bx 2 (.slice (some ⟨g4, 0, none⟩) p.flows.length k4) rfl; have u3 := bx 3 (.slice (some ⟨g5, 0, none⟩) p.outs.length k5) rfl; clear ht3 hb3 ba b4 P2 z0 z1 z2 z3 bx)
      | (go_at_call 7; refine (cf _ _ _ _ T4.out.at).mono ?_; rintro e w5 ⟨rfl, hb5⟩; have T5 := hid (T4.out.keep hb5); have P5 := hid (P4.out.keep hb5); have B5 := hid (bstep B4.out hb5); have t50 := cell_kept t0 hb5; have t51 := cell_kept t1 hb5; have t52 := cell_kept t2 hb5; have t53 := cell_kept t3 hb5; have u50 := cell_kept u0 hb5; have u51 := cell_kept u1 hb5; have u52 := cell_kept u2 hb5; have u53 := cell_kept u3 hb5; clear hb5 T4 P4 t0 t1 t2 t3 u0 u1 u2 u3)
      | (go_at_call 8; refine (cr _ _ _ _ P5.out).mono ?_; rintro e w6 ⟨rfl, hb6⟩; have T6 := hid (T5.out.keep hb6); have P6 := hid (P5.out.keep hb6); have B6 := hid (bstep B5.out hb6); have t60 := cell_kept t50 hb6; have t61 := cell_kept t51 hb6; have t62 := cell_kept t52 hb6; have t63 := cell_kept t53 hb6; have u60 := cell_kept u50 hb6; have u61 := cell_kept u51 hb6; have u62 := cell_kept u52 hb6; have u63 := cell_kept u53 hb6; clear hb6 T5 P5 t50 t51 t52 t53 u50 u51 u52 u53)
      | (go_at_call 9; refine (left_prog p _ _ _ _ _ _ _ _ T6.out P6.out).mono ?_; rintro e w7 ⟨rfl, hb7⟩; have B7 := hid (bstep B6.out hb7)))
    all_goals (go_ret; first | exact ⟨rfl, B7.out⟩ | exact ⟨rfl, B1.out⟩)
end Go.Proofs.Ytilpoiihoikhlaa.Lex
