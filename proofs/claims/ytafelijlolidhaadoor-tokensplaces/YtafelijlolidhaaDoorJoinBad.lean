/-
  The walk of the law on two texts with a line's end between.
-/
import Derived.Test.YtafelijlolidhaaDoorJoinKit
namespace Go.Proofs.YtafelijlolidhaaDoor.Lex
open Go.ChangeShapes Go.WideShapes Go.ChangeAt Go.RowKit Go.Joins
set_option maxRecDepth 100000 in
set_option maxHeartbeats 1000000 in
theorem join_big (s t : ByteArray) (w : World) (hW : Laid w ∧ TabS w) (h : 20000 < s.size ∨ 20000 < t.size) :
    Calls Tryd.prog 6 #[.string s, .string t] w fun e w' => e = .returned (.bool true) ∧ Below w.heap.size w w' := by
  have c := fun W hL hT => alive W hL hT
  have hA : Hid (At w w) := ⟨Below.refl _ _, hW.1, hW.2⟩
  have c2 := c
  clear hW
  by_cases h1 : 20000 < s.size
  · have h1' : (20000 : Int) < (s.size : Int) := by omega
    clear h h1
    go_enter Tryd.func6, Tryd.ntmps6
    go_wp2_with (first
      | (go_at_call 13; refine (c _ hA.out.laid hA.out.tab).mono ?_; rintro e w1 ⟨rfl, hb1⟩; have A1 := hid (hA.out.step hb1); clear hb1 c)
      | (go_at_call 13; refine (c2 _ A1.out.laid A1.out.tab).mono ?_; rintro e w2 ⟨rfl, hb2⟩; have A2 := hid (A1.out.step hb2); clear hb2 c2))
    go_ret
    exact ⟨rfl, A2.out.below⟩
  · have h1' : ¬ (20000 : Int) < (s.size : Int) := by omega
    have h2' : (20000 : Int) < (t.size : Int) := by omega
    clear h h1
    go_enter Tryd.func6, Tryd.ntmps6
    go_wp2_with (first
      | (go_at_call 13; refine (c _ hA.out.laid hA.out.tab).mono ?_; rintro e w1 ⟨rfl, hb1⟩; have A1 := hid (hA.out.step hb1); clear hb1 c)
      | (go_at_call 13; refine (c2 _ A1.out.laid A1.out.tab).mono ?_; rintro e w2 ⟨rfl, hb2⟩; have A2 := hid (A1.out.step hb2); clear hb2 c2))
    go_ret
    exact ⟨rfl, A2.out.below⟩
set_option maxRecDepth 100000 in
set_option maxHeartbeats 1000000 in
theorem join_bb (s t : ByteArray) (w : World) (hW : Laid w ∧ TabS w) (hs : s.size ≤ 20000) (ht : t.size ≤ 20000) (a b : Nat) (h1 : toks 0 s.data.toList = .error a) (h2 : toks 0 t.data.toList = .error b) :
    Calls Tryd.prog 6 #[.string s, .string t] w fun e w' => e = .returned (.bool true) ∧ Below w.heap.size w w' := by
  have c := fun W hL hT => alive W hL hT
  have c1 := fun W hT => read_bad s _ h1 W hT (by omega)
  have c2 := fun W hT => read_bad t _ h2 W hT (by omega)
  have c3 := fun W hT => read_bad (s ++ (⟨#[10]⟩ : ByteArray) ++ t) (a) (by rw [cat10, toks_join, h1]) W hT (by rw [size10]; omega)
  have hA : Hid (At w w) := ⟨Below.refl _ _, hW.1, hW.2⟩
  have h1' : ¬ (20000 : Int) < (s.size : Int) := by omega
  have h2' : ¬ (20000 : Int) < (t.size : Int) := by omega
  clear hW h1 h2
  go_enter Tryd.func6, Tryd.ntmps6
  go_wp2_with (first
    | (go_at_call 13; refine (c _ hA.out.laid hA.out.tab).mono ?_; rintro e w1 ⟨rfl, hb1⟩; have A1 := hid (hA.out.step hb1); clear hb1 c)
    | (go_at_call 14; refine (c1 _ A1.out.tab).mono ?_; rintro e w2 ⟨rfl, hb2⟩; have A2 := hid (A1.out.step hb2); clear hb2 c1)
    | (go_at_call 14; refine (c2 _ A2.out.tab).mono ?_; rintro e w3 ⟨rfl, hb3⟩; have A3 := hid (A2.out.step hb3); clear hb3 c2)
    | (go_at_call 14; refine (c3 _ A3.out.tab).mono ?_; rintro e w4 ⟨rfl, hb4⟩; have A4 := hid (A3.out.step hb4); clear hb4 c3))
  go_ret
  exact ⟨rfl, A4.out.below⟩
set_option maxRecDepth 100000 in
set_option maxHeartbeats 1000000 in
theorem join_bo (s t : ByteArray) (w : World) (hW : Laid w ∧ TabS w) (hs : s.size ≤ 20000) (ht : t.size ≤ 20000) (a : Nat) (us : List Tok) (h1 : toks 0 s.data.toList = .error a) (h2 : toks 0 t.data.toList = .ok us) :
    Calls Tryd.prog 6 #[.string s, .string t] w fun e w' => e = .returned (.bool true) ∧ Below w.heap.size w w' := by
  have c := fun W hL hT => alive W hL hT
  have c1 := fun W hT => read_bad s _ h1 W hT (by omega)
  have c2 := fun W hT => read_ok t _ h2 W hT (by omega)
  have c3 := fun W hT => read_bad (s ++ (⟨#[10]⟩ : ByteArray) ++ t) (a) (by rw [cat10, toks_join, h1]) W hT (by rw [size10]; omega)
  have hA : Hid (At w w) := ⟨Below.refl _ _, hW.1, hW.2⟩
  have h1' : ¬ (20000 : Int) < (s.size : Int) := by omega
  have h2' : ¬ (20000 : Int) < (t.size : Int) := by omega
  clear hW h1 h2
  go_enter Tryd.func6, Tryd.ntmps6
  go_wp2_with (first
    | (go_at_call 13; refine (c _ hA.out.laid hA.out.tab).mono ?_; rintro e w1 ⟨rfl, hb1⟩; have A1 := hid (hA.out.step hb1); clear hb1 c)
    | (go_at_call 14; refine (c1 _ A1.out.tab).mono ?_; rintro e w2 ⟨rfl, hb2⟩; have A2 := hid (A1.out.step hb2); clear hb2 c1)
    | (go_at_call 14; refine (c2 _ A2.out.tab).mono ?_; rintro e w3 ⟨vb, rfl, _, hb3⟩; have A3 := hid (A2.out.step hb3); clear hb3 c2)
    | (go_at_call 14; refine (c3 _ A3.out.tab).mono ?_; rintro e w4 ⟨rfl, hb4⟩; have A4 := hid (A3.out.step hb4); clear hb4 c3))
  go_ret
  exact ⟨rfl, A4.out.below⟩
set_option maxRecDepth 100000 in
set_option maxHeartbeats 1000000 in
theorem join_ob (s t : ByteArray) (w : World) (hW : Laid w ∧ TabS w) (hs : s.size ≤ 20000) (ht : t.size ≤ 20000) (b : Nat) (ts : List Tok) (h1 : toks 0 s.data.toList = .ok ts) (h2 : toks 0 t.data.toList = .error b) :
    Calls Tryd.prog 6 #[.string s, .string t] w fun e w' => e = .returned (.bool true) ∧ Below w.heap.size w w' := by
  have c := fun W hL hT => alive W hL hT
  have c1 := fun W hT => read_ok s _ h1 W hT (by omega)
  have c2 := fun W hT => read_bad t _ h2 W hT (by omega)
  have c3 := fun W hT => read_bad (s ++ (⟨#[10]⟩ : ByteArray) ++ t) (s.size + 1 + b) (by rw [cat10, toks_join, h1, h2, ← Lib.size_eq]) W hT (by rw [size10]; omega)
  have hA : Hid (At w w) := ⟨Below.refl _ _, hW.1, hW.2⟩
  have h1' : ¬ (20000 : Int) < (s.size : Int) := by omega
  have h2' : ¬ (20000 : Int) < (t.size : Int) := by omega
  have hto : b ≤ 20000 := by have := toks_in _ t.data.toList 0 b rfl h2; rw [← Lib.size_eq] at this; omega
  clear hW h1 h2
  go_enter Tryd.func6, Tryd.ntmps6
  go_wp2_with (first
    | (go_at_call 13; refine (c _ hA.out.laid hA.out.tab).mono ?_; rintro e w1 ⟨rfl, hb1⟩; have A1 := hid (hA.out.step hb1); clear hb1 c)
    | (go_at_call 14; refine (c1 _ A1.out.tab).mono ?_; rintro e w2 ⟨va, rfl, _, hb2⟩; have A2 := hid (A1.out.step hb2); clear hb2 c1)
    | (go_at_call 14; refine (c2 _ A2.out.tab).mono ?_; rintro e w3 ⟨rfl, hb3⟩; have A3 := hid (A2.out.step hb3); clear hb3 c2)
    | (go_at_call 14; refine (c3 _ A3.out.tab).mono ?_; rintro e w4 ⟨rfl, hb4⟩; have A4 := hid (A3.out.step hb4); clear hb4 c3))
  go_ret
  exact ⟨rfl, A4.out.below⟩
end Go.Proofs.YtafelijlolidhaaDoor.Lex
