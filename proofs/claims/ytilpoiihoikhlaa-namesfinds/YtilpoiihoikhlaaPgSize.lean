/-
  How great a program is: whatever number is told, the calls return.
-/
import Derived.Test.YtilpoiihoikhlaaPg
import Derived.Test.YtilpoiihoikhlaaExSize
namespace Go.Proofs.Ytilpoiihoikhlaa.Lex
open Go.ChangeShapes Go.WideShapes Go.ChangeAt Go.RowKit Go.Joins
set_option maxRecDepth 100000 in
set_option maxHeartbeats 1000000 in
theorem ins_size (l : List Hd) (w : World) (s : Value) (hS : InsAt w l s) :
    Calls Try.prog 18 #[s] w fun e w' => (∃ m : Int, e = .returned (.int .i64 m)) ∧ Below w.heap.size w w' := by
  obtain ⟨ao, cap, rfl, hlen, _, hok, hc⟩ := hS
  have HC := hid hc
  have HO := hid hok
  clear hc hok
  go_enter Try.func18, Try.ntmps18
  go_wp2
  go_loopw [3, 4] (fun n i wr => ∃ (z : Int) (k : Nat), k ≤ l.length ∧ n = .int .i64 z ∧ i = .int .i64 (k : Int) ∧ Hid (Below w.heap.size w wr)) (fun _ i _ => l.length - (intOf i).toNat)
  case atStart => exact ⟨_, 0, Nat.zero_le _, rfl, rfl, Below.refl _ _⟩
  case round =>
    obtain ⟨z, k, hk, rfl, rfl, hB⟩ := hrel
    by_cases hlt : k < l.length
    · have hlt' : (k : Int) < (l.length : Int) := by omega
      have hk0 : (0 : Int) ≤ (k : Int) := by omega
      by_cases hz : z ≤ 1048576
      · obtain ⟨b, o, rfl, hc⟩ := HC.out.resolve_left (by omega)
        obtain ⟨y0, y1, y2⟩ := (hc k hlt).keep hB.out
        clear hc
        generalize l[k] = y at *
        go_wp2
        go_roundw
        case rel => exact ⟨_, k + 1, by omega, rfl, by go_num, hB⟩
        case measure => simp [intOf]; omega
      · go_wp2
        go_ret
        exact ⟨⟨_, rfl⟩, hB.out⟩
    · have hlt' : ¬ (k : Int) < (l.length : Int) := by omega
      go_wp2
      go_ret
      exact ⟨⟨_, rfl⟩, hB.out⟩
set_option maxRecDepth 100000 in
set_option maxHeartbeats 1000000 in
theorem texts_size (l : List ByteArray) (w : World) (s : Value) (hS : TextsAt w l s) :
    Calls Try.prog 20 #[s] w fun e w' => (∃ m : Int, e = .returned (.int .i64 m)) ∧ Below w.heap.size w w' := by
  obtain ⟨ao, cap, rfl, hlen, _, hok, hc⟩ := hS
  have HC := hid hc
  have HO := hid hok
  clear hc hok
  go_enter Try.func20, Try.ntmps20
  go_wp2
  go_loopw [3, 4] (fun n i wr => ∃ (z : Int) (k : Nat), k ≤ l.length ∧ n = .int .i64 z ∧ i = .int .i64 (k : Int) ∧ Hid (Below w.heap.size w wr)) (fun _ i _ => l.length - (intOf i).toNat)
  case atStart => exact ⟨_, 0, Nat.zero_le _, rfl, rfl, Below.refl _ _⟩
  case round =>
    obtain ⟨z, k, hk, rfl, rfl, hB⟩ := hrel
    by_cases hlt : k < l.length
    · have hlt' : (k : Int) < (l.length : Int) := by omega
      have hk0 : (0 : Int) ≤ (k : Int) := by omega
      by_cases hz : z ≤ 1048576
      · obtain ⟨b, o, rfl, hc⟩ := HC.out.resolve_left (by omega)
        have y0 := cell_kept (hc k hlt) hB.out
        clear hc
        generalize l[k] = y at *
        go_wp2
        go_roundw
        case rel => exact ⟨_, k + 1, by omega, rfl, by go_num, hB⟩
        case measure => simp [intOf]; omega
      · go_wp2
        go_ret
        exact ⟨⟨_, rfl⟩, hB.out⟩
    · have hlt' : ¬ (k : Int) < (l.length : Int) := by omega
      go_wp2
      go_ret
      exact ⟨⟨_, rfl⟩, hB.out⟩
set_option maxRecDepth 100000 in
theorem flow_size (x : Fl) (w : World) (s : Value) (hok : x.ok) (hS : St w x.body s) :
    Calls Try.prog 24 #[flV x s] w fun e w' => (∃ m : Int, e = .returned (.int .i64 m)) ∧ Below w.heap.size w w' := by
  obtain ⟨ao, cap, sl, rfl, _⟩ := hS.out
  obtain ⟨hnm, _, _, _⟩ := hok
  have HS := hid hS
  clear hS
  by_cases hle : (1 : Int) + (x.name.size : Int) ≤ 1048576
  · go_enter Try.func24, Try.ntmps24
    go_wp2_with (go_at_call 27; refine (size_any _ x.body (Nat.le_refl _) _ _ (HS.out.keep ((Below.refl _ _).alloc (Nat.le_refl _) _))).mono ?_; rintro e w2 ⟨⟨m, rfl⟩, hb2⟩)
    go_ret
    exact ⟨⟨_, rfl⟩, bstep ((Below.refl _ _).alloc (Nat.le_refl _) _) hb2⟩
  · go_enter Try.func24, Try.ntmps24
    go_wp2
    go_ret
    exact ⟨⟨_, rfl⟩, (Below.refl _ _).alloc (Nat.le_refl _) _⟩
set_option maxRecDepth 100000 in
set_option maxHeartbeats 1000000 in
theorem flows_size (l : List Fl) (w : World) (s : Value) (hS : FlowsAt w l s) :
    Calls Try.prog 19 #[s] w fun e w' => (∃ m : Int, e = .returned (.int .i64 m)) ∧ Below w.heap.size w w' := by
  obtain ⟨ao, cap, sl, rfl, hlen, _, hok, hc, hs⟩ := hS
  have HC := hid hc
  have HO := hid hok
  have HS := hid hs
  clear hc hok hs
  go_enter Try.func19, Try.ntmps19
  go_wp2
  go_loopw [3, 4] (fun n i wr => ∃ (z : Int) (k : Nat), k ≤ l.length ∧ n = .int .i64 z ∧ i = .int .i64 (k : Int) ∧ Hid (Below w.heap.size w wr)) (fun _ i _ => l.length - (intOf i).toNat)
  case atStart => exact ⟨_, 0, Nat.zero_le _, rfl, rfl, Below.refl _ _⟩
  case round =>
    obtain ⟨z, k, hk, rfl, rfl, hB⟩ := hrel
    by_cases hlt : k < l.length
    · have hlt' : (k : Int) < (l.length : Int) := by omega
      have hk0 : (0 : Int) ≤ (k : Int) := by omega
      by_cases hz : z ≤ 1048576
      · obtain ⟨b, o, rfl, hc⟩ := HC.out.resolve_left (by omega)
        obtain ⟨y0, y1, y2, y3, y4, y5, y6, y7⟩ := (hc k hlt).keep hB.out
        have c := flow_size l[k] wr (sl k) (HO.out _ (List.getElem_mem hlt)) ((HS.out k hlt).keep hB.out)
        clear hc
        generalize l[k] = y at *
        go_wp2_with (go_at_call 24; refine c.mono ?_; rintro e w2 ⟨⟨m, rfl⟩, hb2⟩)
        go_roundw
        case rel => exact ⟨_, k + 1, by omega, rfl, by go_num, bstep hB.out hb2⟩
        case measure => simp [intOf]; omega
      · go_wp2
        go_ret
        exact ⟨⟨_, rfl⟩, hB.out⟩
    · have hlt' : ¬ (k : Int) < (l.length : Int) := by omega
      go_wp2
      go_ret
      exact ⟨⟨_, rfl⟩, hB.out⟩
set_option maxRecDepth 100000 in
set_option maxHeartbeats 1000000 in
theorem prog_size (p : Pg) (w : World) (a b c : Value) (hP : PgAt w p a b c) :
    Calls Try.prog 10 #[pgV p a b c] w fun e w' => (∃ m : Int, e = .returned (.int .i64 m)) ∧ Below w.heap.size w w' := by
  obtain ⟨a0, a1, rfl, _⟩ := hP.ins
  obtain ⟨b0, b1, _, rfl, _⟩ := hP.flows
  obtain ⟨c0, c1, rfl, _⟩ := hP.outs
  have B0 := hid ((Below.refl w.heap.size w).alloc (Nat.le_refl _) (.cells (pgC p (.slice a0 p.ins.length a1) (.slice b0 p.flows.length b1) (.slice c0 p.outs.length c1)) 26))
  have P0 := hid (hP.keep B0.out)
  have bx := fun j v => box_at w (pgC p (.slice a0 p.ins.length a1) (.slice b0 p.flows.length b1) (.slice c0 p.outs.length c1)) 26 j v
  have x1 := bx 1 _ rfl
  have x2 := bx 2 _ rfl
  have x3 := bx 3 _ rfl
  clear hP bx
  go_enter Try.func10, Try.ntmps10
  go_wp2_with (first
    | (go_at_call 18; refine (ins_size _ _ _ P0.out.ins).mono ?_; rintro e w1 ⟨⟨m1, rfl⟩, hb1⟩; have y2 := cell_kept x2 hb1; have y3 := cell_kept x3 hb1; have P1 := hid (P0.out.keep hb1); have B1 := hid (bstep B0.out hb1); clear x1 x2 x3 P0 hb1)
    | (go_at_call 19; refine (flows_size _ _ _ P1.out.flows).mono ?_; rintro e w2 ⟨⟨m2, rfl⟩, hb2⟩; have z3 := cell_kept y3 hb2; have P2 := hid (P1.out.keep hb2); have B2 := hid (bstep B1.out hb2); clear y2 y3 P1 hb2)
    | (go_at_call 20; refine (texts_size _ _ _ P2.out.outs).mono ?_; rintro e w3 ⟨⟨m3, rfl⟩, hb3⟩; have B3 := hid (bstep B2.out hb3); clear z3 P2 hb3))
  all_goals (go_ret; first | exact ⟨⟨_, rfl⟩, B3.out⟩ | exact ⟨⟨_, rfl⟩, B2.out⟩ | exact ⟨⟨_, rfl⟩, B1.out⟩)
/-- great returns yes or no; where it says no, the rows are short. -/
def GreatP (p : Pg) (e : Ending) : Prop := ∃ g : Bool, e = .returned (.bool g) ∧ (g = false → p.ins.length ≤ 300 ∧ p.flows.length ≤ 300 ∧ p.outs.length ≤ 1000)
set_option maxRecDepth 100000 in
set_option maxHeartbeats 1000000 in
theorem great (p : Pg) (w : World) (a b c : Value) (hP : PgAt w p a b c) :
    Calls Try.prog 4 #[pgV p a b c] w fun e w' => GreatP p e ∧ Below w.heap.size w w' := by
  obtain ⟨a0, a1, rfl, _⟩ := hP.ins
  obtain ⟨b0, b1, _, rfl, _⟩ := hP.flows
  obtain ⟨c0, c1, rfl, _⟩ := hP.outs
  have B0 := hid ((Below.refl w.heap.size w).alloc (Nat.le_refl _) (.cells (pgC p (.slice a0 p.ins.length a1) (.slice b0 p.flows.length b1) (.slice c0 p.outs.length c1)) 26))
  have P0 := hid (hP.keep B0.out)
  have bx := fun j v => box_at w (pgC p (.slice a0 p.ins.length a1) (.slice b0 p.flows.length b1) (.slice c0 p.outs.length c1)) 26 j v
  have x0 := bx 0 _ rfl
  have x1 := bx 1 _ rfl
  have x2 := bx 2 _ rfl
  have x3 := bx 3 _ rfl
  clear hP bx
  go_enter Try.func4, Try.ntmps4
  go_wp2_with (go_at_call 10; refine (prog_size _ _ _ _ _ P0.out).mono ?_; rintro e w1 ⟨⟨m1, rfl⟩, hb1⟩; have B1 := hid (bstep B0.out hb1); clear P0 hb1)
  all_goals (go_ret; first | exact ⟨⟨_, rfl, fun h => by simp at *; try omega⟩, B1.out⟩ | exact ⟨⟨_, rfl, fun h => by simp at *; try omega⟩, B0.out⟩)
end Go.Proofs.Ytilpoiihoikhlaa.Lex
