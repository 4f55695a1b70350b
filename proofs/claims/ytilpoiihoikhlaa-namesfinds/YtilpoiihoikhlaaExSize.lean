/-
  How great it is: whatever number is told, the call returns.
-/
import Derived.Test.YtilpoiihoikhlaaEx
namespace Go.Proofs.Ytilpoiihoikhlaa.Lex
open Go.ChangeShapes Go.WideShapes Go.ChangeAt Go.RowKit Go.Joins
/-- ExprSize returns some number. -/
def SizeC (x : Ex) : Prop := ∀ (w : World) (s : Value), St w x s → Calls Try.prog 27 #[exV x s] w fun e w' => (∃ m : Int, e = .returned (.int .i64 m)) ∧ Below w.heap.size w w'
set_option maxRecDepth 100000 in
set_option maxHeartbeats 1000000 in
theorem sizes (x : Ex) (ih : ∀ i (h : i < x.args.length), SizeC x.args[i]) (w : World) (s : Value) (hS : St w x s) :
    Calls Try.prog 30 #[s] w fun e w' => (∃ m : Int, e = .returned (.int .i64 m)) ∧ Below w.heap.size w w' := by
  obtain ⟨ao, cap, sl, rfl, _, _, _, hlen, _, hc, hs⟩ := hS.out
  have HS := hid hs
  have HC := hid hc
  have HI := hid ih
  clear hs hc ih hS
  go_enter Try.func30, Try.ntmps30
  go_wp2
  go_loopw [3, 4] (fun n i wr => ∃ (z : Int) (k : Nat), k ≤ x.args.length ∧ n = .int .i64 z ∧ i = .int .i64 (k : Int) ∧ Hid (Below w.heap.size w wr)) (fun _ i _ => x.args.length - (intOf i).toNat)
  case atStart => exact ⟨_, 0, Nat.zero_le _, rfl, rfl, Below.refl _ _⟩
  case round =>
    obtain ⟨z, k, hk, rfl, rfl, hB⟩ := hrel
    by_cases hlt : k < x.args.length
    · have hlt' : (k : Int) < (x.args.length : Int) := by omega
      have hk0 : (0 : Int) ≤ (k : Int) := by omega
      by_cases hz : z ≤ 1048576
      · obtain ⟨b, o, rfl, hc⟩ := HC.out.resolve_left (by omega)
        obtain ⟨h0, h1, h2, h3⟩ := hc k hlt
        have y0 := cell_kept h0 hB.out
        have y1 := cell_kept h1 hB.out
        have y2 := cell_kept h2 hB.out
        have y3 := cell_kept h3 hB.out
        have c := HI.out k hlt wr (sl k) ((HS.out k hlt).keep hB.out)
        clear h0 h1 h2 h3 hc
        generalize x.args[k] = y at *
        go_wp2_with (go_at_call 27; refine c.mono ?_; rintro e w2 ⟨⟨m, rfl⟩, hb2⟩)
        go_roundw
        case rel => exact ⟨_, k + 1, by omega, rfl, by go_num, bstep hB.out hb2⟩
        case measure => simp [intOf]; omega
      · go_wp2
        go_ret
        exact ⟨⟨_, rfl⟩, hB.out⟩
    · have hlt' : ¬ (k : Int) < (x.args.length : Int) := by omega
      go_wp2
      go_ret
      exact ⟨⟨_, rfl⟩, hB.out⟩
set_option maxRecDepth 100000 in
theorem size_of (x : Ex) (ih : ∀ i (h : i < x.args.length), SizeC x.args[i]) : SizeC x := by
  intro w s hS
  have hs := fun W h => sizes x ih W s h
  obtain ⟨ao, cap, sl, rfl, hop, hn, hnm, hlen, hcap, hc, _⟩ := hS.out
  have HS := hid hS
  clear ih hc hS
  by_cases hle : (1 : Int) + (x.name.size : Int) ≤ 1048576
  · go_enter Try.func27, Try.ntmps27
    go_wp2_with (go_at_call 30; refine (hs _ (HS.out.keep ((Below.refl _ _).alloc (Nat.le_refl _) _))).mono ?_; rintro e w2 ⟨⟨m, rfl⟩, hb2⟩)
    go_ret
    exact ⟨⟨_, rfl⟩, bstep ((Below.refl _ _).alloc (Nat.le_refl _) _) hb2⟩
  · go_enter Try.func27, Try.ntmps27
    go_wp2
    go_ret
    exact ⟨⟨_, rfl⟩, (Below.refl _ _).alloc (Nat.le_refl _) _⟩
/-- ExprSize returns some number. -/
theorem size_any : ∀ (m : Nat) (x : Ex), SizeOf.sizeOf x ≤ m → SizeC x := by
  intro m
  induction m with
  | zero => intro x h; obtain ⟨o, n, s, l⟩ := x; simp at h
  | succ m ih => intro x h; exact size_of x fun i hi => ih _ (by have := x.part_lt i hi; omega)
end Go.Proofs.Ytilpoiihoikhlaa.Lex
