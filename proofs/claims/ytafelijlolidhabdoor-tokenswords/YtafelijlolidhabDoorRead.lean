/-
  The parts of Read: the functions by kind, a token.
-/
import Derived.Test.YtafelijlolidhabDoorTok
import Derived.Laws.Tables
namespace Go.Proofs.YtafelijlolidhabDoor.Lex
open Go.RowKit
/-- What tells how long each kind is. -/
def lenF : Array Value := #[.func (.func 19) #[] #[], .func (.func 10) #[] #[], .func (.func 14) #[] #[], .func (.func 20) #[] #[]]
theorem below_row {B b : Nat} {a w : World} (h : Below B a w) (hB : B ≤ w.heap.size) (hb : B ≤ b) (cs : Array Value) : Below B a (w.setRow b cs) :=
  h.grown (row := some b) ⟨rfl, rfl, rfl, by simp [World.setRow], fun k _ hk => setRow_other w b k _ (fun e => hk (by rw [e]))⟩ hB (fun k hk => by cases hk; exact hb)
theorem lengths (w : World) : Calls Tryd.prog 12 #[] w fun e w' => e = .returned (.agg lenF) ∧ Below w.heap.size w w' := by
  have hR0 := heap_alloc_new w (.cells #[.nilFunc, .nilFunc, .nilFunc, .nilFunc] 38)
  go_enter Tryd.func12, Tryd.ntmps12
  go_wp2_with (refine wpList_store_row rfl 38 _ _ rfl w.heap.size lenF rfl rfl 38 _ hR0 (by kernel_rfl) rfl (by kernel_rfl) ?_)
  refine bodyPost_ret (results_cell_row rfl _ _ w.heap.size 38 lenF (0, 0) _ rfl (setRow_heap _ _ _ _ _ _ hR0) Tryd.underlying38 rfl (by kernel_rfl)) rfl ⟨rfl, ?_⟩
  exact below_row ((Below.refl _ _).alloc (Nat.le_refl _) _) (by simp) (Nat.le_refl _) _
theorem info32 : (Tryd.prog.info? 30).map (·.size) = some 3 := by kernel_rfl
theorem clone (s : ByteArray) (w : World) (h : s.size ≤ 65536) : Calls Tryd.prog 21 #[.string s] w fun e w' => e = .returned (.string s) ∧ Below w.heap.size w w' := by
  have hc := Tryd.stringslite_Clone s w (by omega)
  go_enter Tryd.func21, Tryd.ntmps21
  go_wp2_with (go_at_call 28; refine hc.mono ?_; rintro e w2 ⟨rfl, hb⟩)
  go_ret
  exact ⟨rfl, hb⟩
theorem token (k : Nat) (t : ByteArray) (at_ : Nat) (w : World) (hk : k ≤ 3) (ht : t.size ≤ 65536) :
    Calls Tryd.prog 13 #[.int .i64 (k : Int), .string t, .int .i64 (at_ : Int)] w fun e w' => e = .returned (.agg #[.int .u8 (k : Int), .string t, .int .i64 (at_ : Int)]) ∧ Below w.heap.size w w' := by
  have hR0 := heap_alloc_new w (.cells #[.int .u8 0, .string ByteArray.empty, .int .i64 0] 30)
  have hb0 : Below w.heap.size w (w.alloc (.cells #[.int .u8 0, .string ByteArray.empty, .int .i64 0] 30)) := (Below.refl _ _).alloc (Nat.le_refl _) _
  have hc := fun W => clone t W ht
  have HR : ∀ W, Below (w.alloc (.cells #[.int .u8 0, .string ByteArray.empty, .int .i64 0] 30)).heap.size (w.alloc (.cells #[.int .u8 0, .string ByteArray.empty, .int .i64 0] 30)) W → W.heap[w.heap.size]? = some (.cells #[.int .u8 0, .string ByteArray.empty, .int .i64 0] 30 (0, 0)) ∧ Below w.heap.size w W := fun W hb =>
    ⟨(hb.block _ (by simp)).trans hR0, bstep hb0 hb⟩
  clear hR0 hb0
  go_enter Tryd.func13, Tryd.ntmps13
  go_wp2_with (first
    | (go_at_call 21; refine (hc _).mono ?_; rintro e w2 ⟨rfl, hb⟩; obtain ⟨hR, hB⟩ := HR w2 hb; clear hb)
    | (refine wpList_store_row rfl 30 _ _ rfl w.heap.size #[.int .u8 (k : Int), .string t, .int .i64 (at_ : Int)] rfl rfl 30 _ hR info32 rfl (by simp [Value.oneCell']) ?_))
  refine bodyPost_ret (results_cell_row rfl _ _ w.heap.size 30 #[.int .u8 (k : Int), .string t, .int .i64 (at_ : Int)] (0, 0) _ rfl (setRow_heap _ _ _ _ _ _ hR) Tryd.underlying30 rfl info32) rfl ⟨rfl, ?_⟩
  exact below_row hB hB.size (Nat.le_refl _) _
end Go.Proofs.YtafelijlolidhabDoor.Lex
