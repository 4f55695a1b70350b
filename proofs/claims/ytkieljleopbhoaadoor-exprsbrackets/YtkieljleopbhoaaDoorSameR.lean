/-
  Whether two lists of what is asked for are the same: the contract of SameRefs, where they are.
-/
import Derived.Test.YtkieljleopbhoaaDoorRefs
import Derived.BigQuiet
namespace Go.Proofs.YtkieljleopbhoaaDoor.Lex
open Go.ChangeShapes Go.WideShapes Go.ChangeAt Go.RowKit Go.Joins
def RfAt (w : World) (v : Value) (L : List Rf) : Prop :=
  ∃ a cap, v = .slice a L.length cap ∧ (L.length = 0 ∨ ∃ g, a = some ⟨g, 0, none⟩ ∧ ∀ i (h : i < L.length), w.cell? ⟨g, i * 2, none⟩ = some (.string L[i].1) ∧ w.cell? ⟨g, i * 2 + 1, none⟩ = some (.int .i64 (L[i].2 : Int)))
theorem refsV_at (L : List Rf) (i : Nat) (hi : i < L.length) : (refsV L)[2 * i]? = some (.string L[i].1) ∧ (refsV L)[2 * i + 1]? = some (.int .i64 (L[i].2 : Int)) := by
  induction L generalizing i with
  | nil => simp at hi
  | cons t ts ih =>
    have e : refsV (t :: ts) = [.string t.1, .int .i64 (t.2 : Int)] ++ refsV ts := by simp [refsV]
    rw [e]
    cases i with
    | zero => exact ⟨rfl, rfl⟩
    | succ i =>
      have := ih i (by simpa using hi)
      have hl : ([.string t.1, .int .i64 (t.2 : Int)] : List Value).length = 2 := rfl
      refine ⟨?_, ?_⟩
      · rw [List.getElem?_append_right (by omega), hl, show 2 * (i + 1) - 2 = 2 * i by omega]; simpa using this.1
      · rw [List.getElem?_append_right (by omega), hl, show 2 * (i + 1) + 1 - 2 = 2 * i + 1 by omega]; simpa using this.2
theorem RfAt.of_own {w : World} {B : Nat} {v : Value} {L : List Rf} (h : w.ownsRow B 51 2 v L.length (refsV L)) : RfAt w v L := by
  rcases h.2 with ⟨rfl, h0⟩ | ⟨g, cap, cur, rfl, hg0, hg, rest⟩
  · exact ⟨none, 0, by rw [h0], .inl h0⟩
  · refine ⟨_, cap, rfl, .inr ⟨g, rfl, fun i hi => ?_⟩⟩
    obtain ⟨a, b⟩ := refsV_at L i hi
    refine ⟨?_, ?_⟩
    · rw [h.cellAt _ (by omega), Nat.mul_comm]; exact a
    · rw [h.cellAt _ (by omega), Nat.mul_comm]; exact b
theorem RfAt.keep {w W : World} {v : Value} {L : List Rf} (h : RfAt w v L) (b : Below w.heap.size w W) : RfAt W v L := by
  obtain ⟨a, cap, rfl, hc⟩ := h
  refine ⟨a, cap, rfl, ?_⟩
  rcases hc with h0 | ⟨g, ha, hc⟩
  · exact .inl h0
  · exact .inr ⟨g, ha, fun i hi => ⟨cell_kept (hc i hi).1 b, cell_kept (hc i hi).2 b⟩⟩
set_option maxRecDepth 100000 in
set_option maxHeartbeats 1000000 in
theorem same_refs (u v : Value) (L : List Rf) (w : World) (hu : RfAt w u L) (hv : RfAt w v L) (hl : L.length ≤ 1099511627776) :
    Calls Tryd.prog 22 #[u, v] w fun e w' => e = .returned (.bool true) ∧ Below w.heap.size w w' := by
  obtain ⟨a, cap, rfl, ha⟩ := hu
  obtain ⟨b, cap', rfl, hb⟩ := hv
  have hne : ((L.length : Int) != (L.length : Int)) = false := by simp
  go_enter Tryd.func22, Tryd.ntmps22
  go_wp2
  go_loopw [5] (fun i wr => ∃ k n : Nat, k ≤ L.length ∧ i = .int .i64 k ∧ wr = w.drewN n) (fun i _ => L.length - (intOf i).toNat)
  case atStart => exact ⟨0, 0, Nat.zero_le _, rfl, rfl⟩
  case round =>
    obtain ⟨k, n, hk, rfl, rfl⟩ := hrel
    by_cases hlt : k < L.length
    · obtain ⟨g, rfl, hg⟩ := ha.resolve_left (by omega)
      obtain ⟨g', rfl, hg'⟩ := hb.resolve_left (by omega)
      obtain ⟨x0, x1⟩ := hg k (by omega)
      obtain ⟨y0, y1⟩ := hg' k (by omega)
      have hlt' : (k : Int) < (L.length : Int) := by omega
      have hk0 : (0 : Int) ≤ (k : Int) := by omega
      clear hg hg' ha hb
      generalize L[k].1 = K at x0 y0
      generalize L[k].2 = A at x1 y1
      go_wp2
      go_quiet (fail)
      go_wp2
      go_roundw
      case rel => exact ⟨k + 1, n + nq, by omega, by go_num, rfl⟩
      case measure => simp [intOf]; omega
    · go_wp2
      go_ret
      exact ⟨rfl, below_drewN (Below.refl _ _) n⟩
end Go.Proofs.YtkieljleopbhoaaDoor.Lex
