/-
  A copy of the outer list.
-/
import Derived.Test.YtdhjedpgdhageaaThe
namespace Go.Proofs.Ytdhjedpgdhageaa.Ord
open Go.ChangeShapes Go.WideShapes Go.ChangeAt Go.RowKit Go.Joins
theorem inf25 : (Try.prog.info? 25).map (fun i => (i.zero, i.size, i.bytes)) = some (some (.slice none 0 0), 1, 24) := by kernel_rfl
theorem eq_some (a : Addr) (n c : Nat) (w : World) : Sem.run Try.prog (binOp .eql 22 (.slice (some a) n c) (.slice none 0 0)) w = .ok (.bool false) w := by kernel_rfl
theorem eq_none (n c : Nat) (w : World) : Sem.run Try.prog (binOp .eql 22 (.slice none n c) (.slice none 0 0)) w = .ok (.bool true) w := by kernel_rfl
theorem clone_none (c : Nat) (W : World) : Calls Try.prog 18 #[.slice none 0 c] W fun e w' => ∃ v, e = .returned v ∧ w'.ownsRow W.heap.size 25 1 v 0 [] ∧ Below W.heap.size W w' := by
  have he := eq_none 0 c
  go_enter Try.func18, Try.ntmps18
  go_wp2_with (fail)
  go_ret
  exact ⟨_, rfl, ⟨rfl, .inl ⟨rfl, rfl⟩⟩, Below.refl _ _⟩
set_option maxRecDepth 100000 in
set_option maxHeartbeats 1000000 in
theorem clone_at (W : World) (a : Addr) (n c : Nat) (xs : List Value) (hl : xs.length = n) (hn : n ≤ 1099511627776) (hc : ∀ j u, xs[j]? = some u → W.cell? (a.add j) = some u) (h1 : ∀ u ∈ xs, u.oneCell' = true) (hlt : n = 0 ∨ a.block < W.heap.size) :
    Calls Try.prog 18 #[.slice (some a) n c] W fun e w' => ∃ v, e = .returned v ∧ w'.ownsRow W.heap.size 25 1 v n xs ∧ Below W.heap.size W w' := by
  obtain ⟨i0, hi, hz0, hz1, hz2⟩ := info_parts inf25
  have HC : Hid (∀ j u, xs[j]? = some u → (W.alloc (.cells #[] 25)).cell? (a.add j) = some u) := hid (fun j u hj => by
    have hjl : j < xs.length := (List.getElem?_eq_some_iff.1 hj).1
    have hb : a.block < W.heap.size := hlt.resolve_left (by omega)
    exact (Below.cell ((Below.refl W.heap.size W).alloc (Nat.le_refl _) _) (p := a.add j) (by have : (a.add j).block = a.block := by unfold Addr.add; split <;> rfl
                                                                                              omega)).trans (hc j u hj))
  have HO : Hid ((W.alloc (.cells #[] 25)).ownsRow W.heap.size 25 1 (.slice (some ⟨W.heap.size, 0, none⟩) 0 0) 0 []) := hid ⟨rfl, .inr ⟨W.heap.size, 0, #[], rfl, Nat.le_refl _, heap_alloc_new W _, by omega, by simp [maxLen], rfl, rfl⟩⟩
  have H1 := hid h1
  clear hc h1
  have he := eq_some a n c
  go_enter Try.func18, Try.ntmps18
  go_wp2_with (at_builtin; refine wpList_append_own_at _ rfl (.tmp 5) (.tmp 6) 22 rfl W.heap.size 25 i0 _ 1 24 Try.underlying22 hi hz0 hz1 hz2 rfl (by decide) (.slice (some ⟨W.heap.size, 0, none⟩) 0 0) 0 [] rfl HO.out a n c xs rfl (by omega) HC.out H1.out (by unfold maxLen; omega) (by omega) (by simp) ?_; intro v w2 hown hgr _ _; have HOW := hid hown; have HGR := hid hgr; clear hown hgr)
  go_ret
  refine ⟨v, rfl, ?_, ?_⟩
  · have := HOW.out
    rw [Nat.zero_add, List.nil_append] at this
    exact this
  · exact ((Below.refl W.heap.size W).alloc (Nat.le_refl _) (.cells #[] 25)).grown HGR.out (by simp) (fun j hj => by
      have : W.heap.size = j := by simpa [Value.ownBlock] using hj
      omega)
end Go.Proofs.Ytdhjedpgdhageaa.Ord
