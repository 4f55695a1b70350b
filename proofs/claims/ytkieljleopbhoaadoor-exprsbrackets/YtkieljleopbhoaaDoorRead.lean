/-
  The parts of Read: the functions by kind, a token.
-/
import Derived.Test.YtkieljleopbhoaaDoorTok
import Derived.Laws.Tables
namespace Go.Proofs.YtkieljleopbhoaaDoor.Lex
open Go.RowKit
/-- What tells how long each kind is. -/
def lenF : Array Value := #[.func (.func 51) #[] #[], .func (.func 52) #[] #[], .func (.func 53) #[] #[], .func (.func 54) #[] #[]]
theorem below_row {B b : Nat} {a w : World} (h : Below B a w) (hB : B ≤ w.heap.size) (hb : B ≤ b) (cs : Array Value) : Below B a (w.setRow b cs) :=
  h.grown (row := some b) ⟨rfl, rfl, rfl, by simp [World.setRow], fun k _ hk => setRow_other w b k _ (fun e => hk (by rw [e]))⟩ hB (fun k hk => by cases hk; exact hb)
theorem lengths (w : World) : Calls Tryd.prog 33 #[] w fun e w' => e = .returned (.agg lenF) ∧ Below w.heap.size w w' := by
  have hR0 := heap_alloc_new w (.cells #[.nilFunc, .nilFunc, .nilFunc, .nilFunc] 64)
  go_enter Tryd.func33, Tryd.ntmps33
  go_wp2_with (refine wpList_store_row rfl 64 _ _ rfl w.heap.size lenF rfl rfl 64 _ hR0 (by kernel_rfl) rfl (by kernel_rfl) ?_)
  refine bodyPost_ret (results_cell_row rfl _ _ w.heap.size 64 lenF (0, 0) _ rfl (setRow_heap _ _ _ _ _ _ hR0) Tryd.underlying64 rfl (by kernel_rfl)) rfl ⟨rfl, ?_⟩
  exact below_row ((Below.refl _ _).alloc (Nat.le_refl _) _) (by simp) (Nat.le_refl _) _
theorem info32 : (Tryd.prog.info? 45).map (·.size) = some 3 := by kernel_rfl
theorem clone (s : ByteArray) (w : World) (h : s.size ≤ 65536) : Calls Tryd.prog 38 #[.string s] w fun e w' => e = .returned (.string s) ∧ Below w.heap.size w w' := by
  have hc := Tryd.stringslite_Clone s w (by omega)
  go_enter Tryd.func38, Tryd.ntmps38
  go_wp2_with (go_at_call 66; refine hc.mono ?_; rintro e w2 ⟨rfl, hb⟩)
  go_ret
  exact ⟨rfl, hb⟩
theorem token (k : Nat) (t : ByteArray) (at_ : Nat) (w : World) (hk : k ≤ 3) (ht : t.size ≤ 65536) :
    Calls Tryd.prog 34 #[.int .i64 (k : Int), .string t, .int .i64 (at_ : Int)] w fun e w' => e = .returned (.agg #[.int .u8 (k : Int), .string t, .int .i64 (at_ : Int)]) ∧ Below w.heap.size w w' := by
  have hR0 := heap_alloc_new w (.cells #[.int .u8 0, .string ByteArray.empty, .int .i64 0] 45)
  have hb0 : Below w.heap.size w (w.alloc (.cells #[.int .u8 0, .string ByteArray.empty, .int .i64 0] 45)) := (Below.refl _ _).alloc (Nat.le_refl _) _
  have hc := fun W => clone t W ht
  have HR : ∀ W, Below (w.alloc (.cells #[.int .u8 0, .string ByteArray.empty, .int .i64 0] 45)).heap.size (w.alloc (.cells #[.int .u8 0, .string ByteArray.empty, .int .i64 0] 45)) W → W.heap[w.heap.size]? = some (.cells #[.int .u8 0, .string ByteArray.empty, .int .i64 0] 45 (0, 0)) ∧ Below w.heap.size w W := fun W hb =>
    ⟨(hb.block _ (by simp)).trans hR0, bstep hb0 hb⟩
  clear hR0 hb0
  go_enter Tryd.func34, Tryd.ntmps34
  go_wp2_with (first
    | (go_at_call 38; refine (hc _).mono ?_; rintro e w2 ⟨rfl, hb⟩; obtain ⟨hR, hB⟩ := HR w2 hb; clear hb)
    | (refine wpList_store_row rfl 45 _ _ rfl w.heap.size #[.int .u8 (k : Int), .string t, .int .i64 (at_ : Int)] rfl rfl 45 _ hR info32 rfl (by simp [Value.oneCell']) ?_))
  refine bodyPost_ret (results_cell_row rfl _ _ w.heap.size 45 #[.int .u8 (k : Int), .string t, .int .i64 (at_ : Int)] (0, 0) _ rfl (setRow_heap _ _ _ _ _ _ hR) Tryd.underlying45 rfl info32) rfl ⟨rfl, ?_⟩
  exact below_row hB hB.size (Nat.le_refl _) _
end Go.Proofs.YtkieljleopbhoaaDoor.Lex
