/-
  What is asked for: the contract of Refs.
-/
import Derived.Test.YtkieljleopbhoaaDoorGather
import Derived.Laws.EntriesVeiled
namespace Go.Proofs.YtkieljleopbhoaaDoor.Lex
open Go.ChangeShapes Go.WideShapes Go.ChangeAt Go.RowKit Go.Joins Go.WideMaps Go.WideElems Go.Maps
theorem push_old {w : World} {b : Nat} {o o' : Obj} (h : w.heap[b]? = some o) : (w.alloc o').heap[b]? = some o := (Below.heap_alloc _ _ _ (Array.getElem?_eq_some_iff.1 h).1).trans h
theorem push_new (w : World) (o : Obj) (n : Nat) (h : w.heap.size = n) : (w.alloc o).heap[n]? = some o := by subst h; exact (MapKept.heap_alloc w o).1
theorem gi_start (w : World) (c : Array Value) : GI w (w.heap.size + 1 + 1 + 1) (w.heap.size + 1) (w.heap.size + 1 + 1 + 1 + 1) (w.heap.size + 1 + 1) (w.heap.size + 5) [] [] 0 (((((w.alloc (.cells c 25)).alloc (.cells #[.slice none 0 0] 47)).alloc (.map #[] 0)).alloc (.cells #[.map (some (w.heap.size + 1 + 1))] 74)).alloc (.cells #[.func (.func 37) #[] #[ptr (w.heap.size + 1 + 1 + 1), ptr (w.heap.size + 1), ptr (w.heap.size + 1 + 1 + 1 + 1)]] 75)) := by
  have s1 : (w.alloc (.cells c 25)).heap.size = w.heap.size + 1 := by simp
  have s2 : ((w.alloc (.cells c 25)).alloc (.cells #[.slice none 0 0] 47)).heap.size = w.heap.size + 1 + 1 := by simp
  have s3 : (((w.alloc (.cells c 25)).alloc (.cells #[.slice none 0 0] 47)).alloc (.map #[] 0)).heap.size = w.heap.size + 1 + 1 + 1 := by simp
  have s4 : ((((w.alloc (.cells c 25)).alloc (.cells #[.slice none 0 0] 47)).alloc (.map #[] 0)).alloc (.cells #[.map (some (w.heap.size + 1 + 1))] 74)).heap.size = w.heap.size + 1 + 1 + 1 + 1 := by simp
  have b1 := (Below.refl w.heap.size w).alloc (Nat.le_refl _) (.cells c 25)
  have b2 := bstep b1 ((Below.refl _ _).alloc (Nat.le_refl _) (.cells #[.slice none 0 0] 47))
  have b3 := bstep b2 ((Below.refl _ _).alloc (Nat.le_refl _) (.map #[] 0))
  have b4 := bstep b3 ((Below.refl _ _).alloc (Nat.le_refl _) (.cells #[.map (some (w.heap.size + 1 + 1))] 74))
  have b5 := bstep b4 ((Below.refl _ _).alloc (Nat.le_refl _) (.cells #[.func (.func 37) #[] #[ptr (w.heap.size + 1 + 1 + 1), ptr (w.heap.size + 1), ptr (w.heap.size + 1 + 1 + 1 + 1)]] 75))
  refine ⟨b5, push_old (push_new _ _ _ s3), push_new _ _ _ s4, ⟨_, push_old (push_old (push_old (push_new _ _ _ s1))), ⟨rfl, .inl ⟨rfl, rfl⟩⟩⟩, SeenM.none _ _ (push_old (push_old (push_new _ _ _ s2))), Nat.le_refl _, ⟨by omega, by omega, by omega, by omega, by omega, by omega, by omega, by omega, by simp⟩, ⟨by omega, by omega, by omega, by omega, by omega, by omega⟩⟩
set_option maxRecDepth 100000 in
set_option maxHeartbeats 1000000 in
theorem refs (k : Nat) (x : Ex) (s : Value) (w : World) (hS : St w x s) (hNm : NmOk k x) (hk : k ≤ 1099511627776) (hc : cnt k x ≤ 1099511627776) : Calls Tryd.prog 20 #[exV x s] w fun e w' => ∃ v, e = .returned v ∧ w'.ownsRow w.heap.size 51 2 v (gat k x 0 []).length (refsV (gat k x 0 [])) ∧ Below w.heap.size w w' := by
  obtain ⟨ao, cap, sl, rfl, _⟩ := hS.out
  have hmm := @run_makeMap Tryd.prog
  have hmf : ∀ (fn : Fn) (first cap : Array Value) (w : World), (Instr.makeFunc fn first cap).run Tryd.prog w = .ok (.func fn first cap) w := fun _ _ _ _ => rfl
  have c37 := gather_any k x (.slice ao x.args.length cap) 0 w _ _ _ _ _ _ 0 [] hS hNm (by omega) (by omega) (gi_start w (ex4 x (.slice ao x.args.length cap)))
  generalize hL : gat k x 0 [] = L at *
  generalize hN : cnt k x = N at *
  clear hS hNm hk hc hL hN
  go_enter Tryd.func20, Tryd.ntmps20
  go_wp2_with (go_at_call 37; refine c37.mono ?_; rintro e w2 ⟨rfl, g2⟩; obtain ⟨v, hv, hr⟩ := g2.list; have t0 : w2.cell? ⟨w.heap.size + 1, 0, none⟩ = some v := (cell_of_row _ _ _ _ 47 (0, 0) hv).trans rfl; have HR := hid hr; have HB := hid g2.below; clear g2 hv hr c37)
  go_ret
  exact ⟨v, rfl, ownsRow_mono HR.out (by omega), HB.out⟩
end Go.Proofs.YtkieljleopbhoaaDoor.Lex
