/-
  A text says what is written so: the contract of is, where it does; of name, of.
-/
import Derived.Test.YtkieljleopbhoaaDoorReadX
import Derived.Test.YtkieljleopbhoaaDoorSameE
namespace Go.Proofs.YtkieljleopbhoaaDoor.Lex
open Go.ChangeShapes Go.WideShapes Go.ChangeAt Go.RowKit Go.Joins
theorem same (x : Ex) (w : World) (t s : Value) (hT : St w x t) (hS : St w x s) : Calls Tryd.prog 16 #[exV x t, exV x s] w fun e w' => e = .returned (.bool true) ∧ Below w.heap.size w w' := same_any _ x (Nat.le_refl _) w t s hT hS
theorem bytes_of (s : ByteArray) (l : List UInt8) (h : l = s.data.toList) : (⟨l.toArray⟩ : ByteArray) = s := by
  subst h
  obtain ⟨⟨l⟩⟩ := s
  rfl
theorem row_cells4 {W : World} {b : Nat} {x : Ex} {s : Value} (h : W.heap[b]? = some (.cells (ex4 x s) 25 (0, 0))) : W.cell? ⟨b, 0, none⟩ = some (.int .u8 (x.op : Int)) ∧ W.cell? ⟨b, 1, none⟩ = some (.int .i64 x.n) ∧ W.cell? ⟨b, 2, none⟩ = some (.string x.name) ∧ W.cell? ⟨b, 3, none⟩ = some s := by
  refine ⟨?_, ?_, ?_, ?_⟩ <;> (rw [cell_of_row _ _ _ _ 25 (0, 0) h]; rfl)
set_option maxRecDepth 100000 in
set_option maxHeartbeats 1000000 in
theorem is_true (s : ByteArray) (x : Ex) (ao : Option Addr) (cap : Nat) (w : World) (hs : s.size ≤ 65536) (A : AEnv w) (hS : St w x (.slice ao x.args.length cap)) (hr : readX s.data.toList = some x) (hc : chk x = true) (hw : wr x = s.data.toList) : Calls Tryd.prog 31 #[.string s, exV x (.slice ao x.args.length cap)] w fun e w' => e = .returned (.bool true) ∧ Below w.heap.size w w' := by
  have b0 := (Below.refl w.heap.size w).alloc (Nat.le_refl _) (.cells (ex4 x (.slice ao x.args.length cap)) 25)
  have cr := readE s _ hs (A.below b0)
  rw [hr] at cr
  have ct := fun W (b : Below w.heap.size w W) => text x W _ (hS.keep b) (A.below b).env
  have e1 : txt x = wr x := by unfold txt; rw [hc]; rfl
  have e2 : txtE x = 0 := by unfold txtE; rw [hc]; rfl
  rw [e1, e2, bytes_of s _ hw] at ct
  have X0 := hid (heap_alloc_new w (.cells (ex4 x (.slice ao x.args.length cap)) 25))
  have B0 := hid b0
  have HS := hid hS
  have hss : (s.toList == s.toList) = true := by simp
  clear A hS hr hc hw e1 e2 b0 hs
  go_enter Tryd.func31, Tryd.ntmps31
  go_wp2_with (first
    | (go_at_call 15; refine cr.mono ?_; rintro e w2 ⟨b2, y, a2, c2, rfl, st, hy⟩; obtain rfl := hy x rfl; have b3 := bstep (bstep B0.out b2) ((Below.refl w2.heap.size w2).alloc (Nat.le_refl _) (.cells (ex4 y (.slice a2 y.args.length c2)) 25)); have c9 := ct _ b3; have X3 := (((Below.refl w2.heap.size w2).alloc (Nat.le_refl _) (.cells (ex4 y (.slice a2 y.args.length c2)) 25)).block _ (by have := b2.size; simp at this; omega)).trans ((b2.block _ (by simp)).trans X0.out); have X4 := heap_alloc_new w2 (.cells (ex4 y (.slice a2 y.args.length c2)) 25); have B3 := hid b3; have ST := hid (st.st.keep ((Below.refl w2.heap.size w2).alloc (Nat.le_refl _) (.cells (ex4 y (.slice a2 y.args.length c2)) 25))); clear b2 b3 st hy cr ct)
    | (refine wpList_load_row rfl 25 _ rfl w.heap.size rfl 25 (ex4 y (.slice ao y.args.length cap)) (0, 0) _ X3 Tryd.underlying25 rfl info25 ?_)
    | (go_at_call 9; refine c9.mono ?_; rintro e w4 ⟨rfl, b4⟩; have X5 := (b4.block _ (Array.getElem?_eq_some_iff.1 X3).1).trans X3; have X6 := (b4.block _ (Array.getElem?_eq_some_iff.1 X4).1).trans X4; have B4 := hid (bstep B3.out b4); have ST4 := hid (ST.out.keep b4); obtain ⟨p0, p1, p2, p3⟩ := row_cells4 X5; obtain ⟨q0, q1, q2, q3⟩ := row_cells4 X6; clear b4 c9 X3 X4 X5 X6)
    | (go_at_call 16; refine (same y w4 _ _ ST4.out (HS.out.keep B4.out)).mono ?_; rintro e w5 ⟨rfl, b5⟩; have B5 := hid (bstep B4.out b5); clear b5))
  go_ret
  exact ⟨rfl, B5.out⟩
theorem name_at (s : ByteArray) (w : World) : Calls Tryd.prog 30 #[.string s] w fun e w' => e = .returned (exV ⟨3, 0, s, []⟩ (.slice none 0 0)) ∧ Below w.heap.size w w' := by
  have B0 := hid ((Below.refl w.heap.size w).alloc (Nat.le_refl _) (.cells c25 25))
  have X0 := heap_alloc_new w (.cells c25 25)
  go_enter Tryd.func30, Tryd.ntmps30
  go_wp2_with (refine wpList_store_row rfl 25 _ _ rfl w.heap.size (ex4 ⟨3, 0, s, []⟩ (.slice none 0 0)) rfl rfl 25 _ X0 info25 rfl (by simp [Value.oneCell', ex4]) ?_)
  exact bodyPost_ret (results_cell_row rfl _ _ w.heap.size 25 (ex4 ⟨3, 0, s, []⟩ (.slice none 0 0)) (0, 0) _ rfl (setRow_heap _ _ _ _ _ _ X0) Tryd.underlying25 rfl info25) rfl ⟨rfl, below_row B0.out B0.out.size (Nat.le_refl _) _⟩
theorem of_at (op : Nat) (a : Option Addr) (n c : Nat) (l : List Ex) (w : World) : Calls Tryd.prog 21 #[.int .u8 (op : Int), .slice a n c] w fun e w' => e = .returned (exV ⟨op, 0, ByteArray.empty, l⟩ (.slice a n c)) ∧ Below w.heap.size w w' := by
  have B0 := hid ((Below.refl w.heap.size w).alloc (Nat.le_refl _) (.cells c25 25))
  have X0 := heap_alloc_new w (.cells c25 25)
  go_enter Tryd.func21, Tryd.ntmps21
  go_wp2_with (refine wpList_store_row rfl 25 _ _ rfl w.heap.size (ex4 ⟨op, 0, ByteArray.empty, l⟩ (.slice a n c)) rfl rfl 25 _ X0 info25 rfl (by simp [Value.oneCell', ex4]) ?_)
  exact bodyPost_ret (results_cell_row rfl _ _ w.heap.size 25 (ex4 ⟨op, 0, ByteArray.empty, l⟩ (.slice a n c)) (0, 0) _ rfl (setRow_heap _ _ _ _ _ _ X0) Tryd.underlying25 rfl info25) rfl ⟨rfl, below_row B0.out B0.out.size (Nat.le_refl _) _⟩
end Go.Proofs.YtkieljleopbhoaaDoor.Lex
