/-
  What holds while the law puts a blank between each two tokens.
-/
import Derived.Test.YtafelijlolidhaaDoorAgainM
import Derived.Test.YtafelijlolidhaaDoorOpen7
namespace Go.Proofs.YtafelijlolidhaaDoor.Lex
open Go.ChangeShapes Go.WideShapes Go.ChangeAt Go.RowKit Go.Joins
def blV : Array Value := #[.string ⟨#[32]⟩, .string ⟨#[9]⟩, .string ⟨#[10]⟩, .string ⟨#[13]⟩, .string ⟨#[32, 45, 45, 32, 120, 10]⟩]
theorem bl_at (n : Nat) : ∃ B : ByteArray, isBl B.data.toList ∧ ∀ w : World, (w.alloc (.cells blV 9)).cell? ⟨w.heap.size, n % 5, none⟩ = some (.string B) := by
  have h : ∀ j, j < 5 → ∃ B : ByteArray, isBl B.data.toList ∧ blV[j]? = some (.string B) := by
    intro j hj
    obtain rfl | rfl | rfl | rfl | rfl : j = 0 ∨ j = 1 ∨ j = 2 ∨ j = 3 ∨ j = 4 := by omega
    · exact ⟨_, .inl rfl, rfl⟩
    · exact ⟨_, .inr (.inl rfl), rfl⟩
    · exact ⟨_, .inr (.inr (.inl rfl)), rfl⟩
    · exact ⟨_, .inr (.inr (.inr (.inl rfl))), rfl⟩
    · exact ⟨_, .inr (.inr (.inr (.inr rfl))), rfl⟩
  obtain ⟨B, h1, h2⟩ := h (n % 5) (by omega)
  exact ⟨B, h1, fun w => by rw [World.cell?_alloc_at _ _ _ _ rfl]; exact h2⟩
theorem toksV_set (P R : List Tok) (t : Tok) (p : Nat) : (toksV (P ++ t :: R)).set (P.length * 3 + 2) (.int .i64 (p : Int)) = toksV (P ++ ⟨t.kind, t.text, p⟩ :: R) := by
  have e1 : ∀ (x : Tok), toksV (P ++ x :: R) = toksV P ++ (tokV x ++ toksV R) := fun x => by simp [toksV]
  rw [e1, e1, List.set_append_right _ _ (by rw [toksV_len]; omega), toksV_len, show P.length * 3 + 2 - P.length * 3 = 2 by omega]
  rfl
/-- How far the law has come. -/
structure Ag (w : World) (b : List UInt8) (ts : List Tok) (va : Value) (k : Nat) (S : ByteArray) (W : World) : Prop where
  below : Below w.heap.size w W
  row : W.ownsRow w.heap.size 32 3 va ts.length (toksV (again b 0 (ts.take k) ++ ts.drop k))
  text : S.data.toList = glue b (ts.take k)
theorem glue_take {b : List UInt8} (ts : List Tok) (k : Nat) : (glue b (ts.take k)).length ≤ (glue b ts).length := by
  have : glue b ts = glue b (ts.take k) ++ glue b (ts.drop k) := by rw [← glue_app, List.take_append_drop]
  rw [this, List.length_append]; omega
theorem Ag.go {w W : World} {b : List UInt8} {ts : List Tok} {va : Value} {k : Nat} {S B : ByteArray} (h : Ag w b ts va k S W) (hk : k < ts.length) (hB : B.data.toList = b) (hlen : (glue b ts).length ≤ 35000) :
    ∃ g cap A Tx, va = .slice (some ⟨g, 0, none⟩) ts.length cap ∧ S.size ≤ 35000 ∧ Tx.size ≤ 35000 ∧ W.cell? ⟨g, k * 3 + 2, none⟩ = some A ∧ W.frozen? ⟨g, k * 3 + 2, none⟩ = false ∧
      ∃ W2, W.setCell ⟨g, k * 3 + 2, none⟩ (.int .i64 (S.size : Int)) = W2 ∧ W2.cell? ⟨g, k * 3 + 1, none⟩ = some (.string Tx) ∧ Ag w b ts va (k + 1) (S ++ Tx ++ B) W2 := by
  have hl : (again b 0 (ts.take k) ++ ts.drop k).length = ts.length := by rw [List.length_append, again_len, List.length_take, List.length_drop]; omega
  have hal : (again b 0 (ts.take k)).length = k := by rw [again_len, List.length_take]; omega
  have hd : ts.drop k = ts[k] :: ts.drop (k + 1) := List.drop_eq_getElem_cons hk
  have hrow := h.row
  rcases hrow.2 with ⟨_, h0⟩ | ⟨g, cap, cur, rfl, hg0, hg, rest⟩
  · omega
  · have hSl : S.size = (glue b (ts.take k)).length := by rw [Lib.size_eq, h.text]
    have hS : S.size ≤ 35000 := by rw [hSl]; exact Nat.le_trans (glue_take ts k) hlen
    have htk : ts.take (k + 1) = ts.take k ++ [ts[k]] := List.take_succ_eq_append_getElem hk
    have hgl : glue b (ts.take (k + 1)) = glue b (ts.take k) ++ ts[k].text ++ b := by rw [htk, glue_app]; simp [glue]
    have hTx : (⟨ts[k].text.toArray⟩ : ByteArray).size ≤ 35000 := by
      have := Nat.le_trans (glue_take (b := b) ts (k + 1)) hlen
      rw [hgl, List.length_append, List.length_append] at this
      rw [Lib.size_eq]
      show ts[k].text.length ≤ 35000
      omega
    have hat : TokAt W (.slice (some ⟨g, 0, none⟩) ts.length cap) (again b 0 (ts.take k) ++ ts.drop k) := by rw [← hl] at hrow ⊢; exact TokAt.of_own hrow
    obtain ⟨hst, hgr⟩ := hrow.stored (k * 3 + 2) (.int .i64 (S.size : Int))
    have hnew : (toksV (again b 0 (ts.take k) ++ ts.drop k)).set (k * 3 + 2) (.int .i64 (S.size : Int)) = toksV (again b 0 (ts.take (k + 1)) ++ ts.drop (k + 1)) := by
      rw [hd]
      have := toksV_set (again b 0 (ts.take k)) (ts.drop (k + 1)) ts[k] S.size
      rw [hal] at this
      rw [this, htk, again_app, List.append_assoc]
      rw [hSl]
      simp [again]
    rw [hnew] at hst
    have hcell : W.cell? ⟨g, k * 3 + 2, none⟩ = (toksV (again b 0 (ts.take k) ++ ts.drop k))[k * 3 + 2]? := hrow.cellAt _ (by omega)
    have hc1 : (W.setCell ⟨g, k * 3 + 2, none⟩ (.int .i64 (S.size : Int))).cell? ⟨g, k * 3 + 1, none⟩ = (toksV (again b 0 (ts.take (k + 1)) ++ ts.drop (k + 1)))[k * 3 + 1]? := hst.cellAt _ (by omega)
    have hx := toksV_at (again b 0 (ts.take k) ++ ts.drop k) k (by omega)
    have hb2 : (again b 0 (ts.take (k + 1)) ++ ts.drop (k + 1)).length = ts.length := by rw [List.length_append, again_len, List.length_take, List.length_drop]; omega
    have hy := toksV_at (again b 0 (ts.take (k + 1)) ++ ts.drop (k + 1)) k (by omega)
    have hgt : ∀ (h : k < (again b 0 (ts.take (k + 1)) ++ ts.drop (k + 1)).length), (again b 0 (ts.take (k + 1)) ++ ts.drop (k + 1))[k].text = ts[k].text := by
      rw [htk, again_app, List.append_assoc]
      intro h
      rw [List.getElem_append_right (by omega)]
      simp [hal, again]
    rw [Nat.mul_comm] at hx hy
    refine ⟨g, cap, _, ⟨ts[k].text.toArray⟩, rfl, hS, hTx, hcell.trans hx.2.2, hrow.frozenAt _, _, rfl, ?_, ?_⟩
    · rw [hc1, hy.2.1, hgt]
    · refine ⟨h.below.grown hgr h.below.size (fun j hj => by cases hj; exact hg0), hst, ?_⟩
      rw [ByteArray.data_append, Array.toList_append, ByteArray.data_append, Array.toList_append, h.text, hB, hgl]
end Go.Proofs.YtafelijlolidhaaDoor.Lex
