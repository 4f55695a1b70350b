/-
  Tokens that stand in memory; SameTokens of the same ones.
-/
import Derived.Test.YtafelijlolidhabDoorReads
namespace Go.Proofs.YtafelijlolidhabDoor.Lex
open Go.RowKit
theorem toksV_at (ts : List Tok) (i : Nat) (hi : i < ts.length) :
    (toksV ts)[3 * i]? = some (.int .u8 (ts[i].kind : Int)) ∧ (toksV ts)[3 * i + 1]? = some (.string ⟨ts[i].text.toArray⟩) ∧ (toksV ts)[3 * i + 2]? = some (.int .i64 (ts[i].at_ : Int)) := by
  induction ts generalizing i with
  | nil => simp at hi
  | cons t ts ih =>
    have e : toksV (t :: ts) = tokV t ++ toksV ts := by simp [toksV]
    rw [e]
    cases i with
    | zero => exact ⟨rfl, rfl, rfl⟩
    | succ i =>
      have := ih i (by simpa using hi)
      have hl : (tokV t).length = 3 := rfl
      refine ⟨?_, ?_, ?_⟩
      · rw [List.getElem?_append_right (by omega), hl, show 3 * (i + 1) - 3 = 3 * i by omega]; simpa using this.1
      · rw [List.getElem?_append_right (by omega), hl, show 3 * (i + 1) + 1 - 3 = 3 * i + 1 by omega]; simpa using this.2.1
      · rw [List.getElem?_append_right (by omega), hl, show 3 * (i + 1) + 2 - 3 = 3 * i + 2 by omega]; simpa using this.2.2
/-- Tokens that stand in memory. -/
def TokAt (w : World) (v : Value) (ts : List Tok) : Prop :=
  ∃ a cap, v = .slice a ts.length cap ∧ (ts.length = 0 ∨ ∃ g, a = some ⟨g, 0, none⟩ ∧ ∀ i (h : i < ts.length), w.cell? ⟨g, i * 3, none⟩ = some (.int .u8 (ts[i].kind : Int)) ∧ w.cell? ⟨g, i * 3 + 1, none⟩ = some (.string ⟨ts[i].text.toArray⟩) ∧ w.cell? ⟨g, i * 3 + 2, none⟩ = some (.int .i64 (ts[i].at_ : Int)))
theorem TokAt.of_own {w : World} {B : Nat} {v : Value} {ts : List Tok} (h : w.ownsRow B 30 3 v ts.length (toksV ts)) : TokAt w v ts := by
  rcases h.2 with ⟨rfl, h0⟩ | ⟨g, cap, cur, rfl, hg0, hg, rest⟩
  · exact ⟨none, 0, by rw [h0], .inl h0⟩
  · refine ⟨_, cap, rfl, .inr ⟨g, rfl, fun i hi => ?_⟩⟩
    obtain ⟨a, b, c⟩ := toksV_at ts i hi
    refine ⟨?_, ?_, ?_⟩
    · rw [h.cellAt _ (by omega), Nat.mul_comm]; exact a
    · rw [h.cellAt _ (by omega), Nat.mul_comm]; exact b
    · rw [h.cellAt _ (by omega), Nat.mul_comm]; exact c
theorem TokAt.below {w w' : World} {v : Value} {ts : List Tok} (h : TokAt w v ts) (hb : Below w.heap.size w w') : TokAt w' v ts := by
  obtain ⟨a, cap, rfl, h⟩ := h
  refine ⟨a, cap, rfl, ?_⟩
  rcases h with h | ⟨g, ha, hc⟩
  · exact .inl h
  · refine .inr ⟨g, ha, fun i hi => ?_⟩
    obtain ⟨x, y, z⟩ := hc i hi
    exact ⟨by rw [hb.cell (World.block_lt_of_cell? w _ x)]; exact x, by rw [hb.cell (World.block_lt_of_cell? w _ y)]; exact y, by rw [hb.cell (World.block_lt_of_cell? w _ z)]; exact z⟩
theorem same (u v : Value) (ts : List Tok) (w : World) (hu : TokAt w u ts) (hv : TokAt w v ts) (hl : ts.length ≤ 1048576) :
    Calls Tryd.prog 8 #[u, v] w fun e w' => e = .returned (.bool true) ∧ ∃ n, w' = w.drewN n := by
  obtain ⟨a, cap, rfl, ha⟩ := hu
  obtain ⟨b, cap', rfl, hb⟩ := hv
  have hne : ((ts.length : Int) != (ts.length : Int)) = false := by simp
  go_enter Tryd.func8, Tryd.ntmps8
  go_wp2
  go_loopw [5] (fun i wr => ∃ k n : Nat, k ≤ ts.length ∧ i = .int .i64 k ∧ wr = w.drewN n) (fun i _ => ts.length - (intOf i).toNat)
  case atStart => exact ⟨0, 0, Nat.zero_le _, rfl, rfl⟩
  case round =>
    obtain ⟨k, n, hk, rfl, rfl⟩ := hrel
    by_cases hlt : k < ts.length
    · obtain ⟨g, rfl, hg⟩ := ha.resolve_left (by omega)
      obtain ⟨g', rfl, hg'⟩ := hb.resolve_left (by omega)
      obtain ⟨x0, x1, x2⟩ := hg k (by omega)
      obtain ⟨y0, y1, y2⟩ := hg' k (by omega)
      have hlt' : (k : Int) < (ts.length : Int) := by omega
      have hk0 : (0 : Int) ≤ (k : Int) := by omega
      clear hg hg' ha hb
      generalize ts[k].kind = K at x0 y0
      generalize (⟨ts[k].text.toArray⟩ : ByteArray) = T at x1 y1
      generalize ts[k].at_ = A at x2 y2
      go_wp2
      go_quiet (fail)
      go_wp2
      go_roundw
      case rel => exact ⟨k + 1, n + nq, by omega, by go_num, rfl⟩
      case measure => simp [intOf]; omega
    · go_wp2
      go_ret
      exact ⟨rfl, n, rfl⟩
end Go.Proofs.YtafelijlolidhabDoor.Lex
