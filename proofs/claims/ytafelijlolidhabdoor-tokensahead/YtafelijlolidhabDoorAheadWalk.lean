/-
  The walk of the law on a text that ends where a token begins.
-/
import Derived.Test.YtafelijlolidhabDoorAheadM
namespace Go.Proofs.YtafelijlolidhabDoor.Lex
open Go.ChangeShapes Go.WideShapes Go.ChangeAt Go.RowKit Go.Joins
theorem TokAt.take {w : World} {ao : Option Addr} {n cap : Nat} {ts : List Tok} (h : TokAt w (.slice ao n cap) ts) (k c : Nat) (hk : k ≤ ts.length) : TokAt w (.slice ao k c) (ts.take k) := by
  obtain ⟨a, cap', hv, hc⟩ := h
  injection hv with e1 e2 e3
  subst e1
  have hl : (ts.take k).length = k := by rw [List.length_take]; omega
  refine ⟨ao, c, by rw [hl], ?_⟩
  rcases hc with h0 | ⟨g, hg, hc⟩
  · exact .inl (by rw [hl]; omega)
  · refine .inr ⟨g, hg, fun i hi => ?_⟩
    rw [hl] at hi
    have := hc i (by omega)
    rw [List.getElem_take]
    exact this
theorem own_cap {w : World} {B e z n m cap : Nat} {ao : Option Addr} {xs : List Value} (h : w.ownsRow B e z (.slice ao m cap) n xs) : n ≤ cap := by
  rcases h.2 with ⟨_, h0⟩ | ⟨g, c, cur, hv, _, _, hc, _⟩
  · omega
  · injection hv with _ _ e3
    omega
set_option maxRecDepth 100000 in
set_option maxHeartbeats 1000000 in
theorem ahead_big (s : ByteArray) (n : Nat) (w : World) (hW : Laid w ∧ TabS w) (h : 20000 < s.size) :
    Calls Tryd.prog 4 #[.string s, .int .u16 (n : Int)] w fun e w' => e = .returned (.bool true) ∧ Below w.heap.size w w' := by
  have c := fun W hL hT => alive W hL hT
  have hA : Hid (At w w) := ⟨Below.refl _ _, hW.1, hW.2⟩
  have c2 := c
  have h1' : (20000 : Int) < (s.size : Int) := by omega
  clear hW h
  go_enter Tryd.func4, Tryd.ntmps4
  go_wp2_with (first
    | (go_at_call 5; refine (c _ hA.out.laid hA.out.tab).mono ?_; rintro e w1 ⟨rfl, hb1⟩; have A1 := hid (hA.out.step hb1); clear hb1 c)
    | (go_at_call 5; refine (c2 _ A1.out.laid A1.out.tab).mono ?_; rintro e w2 ⟨rfl, hb2⟩; have A2 := hid (A1.out.step hb2); clear hb2 c2))
  go_ret
  exact ⟨rfl, A2.out.below⟩
set_option maxRecDepth 100000 in
set_option maxHeartbeats 1000000 in
theorem ahead_bad (s : ByteArray) (n : Nat) (w : World) (hW : Laid w ∧ TabS w) (h : s.size ≤ 20000) (a : Nat) (h1 : toks 0 s.data.toList = .error a) :
    Calls Tryd.prog 4 #[.string s, .int .u16 (n : Int)] w fun e w' => e = .returned (.bool true) ∧ Below w.heap.size w w' := by
  have c := fun W hL hT => alive W hL hT
  have c1 := fun W hT => read_bad s _ h1 W hT (by omega)
  have hA : Hid (At w w) := ⟨Below.refl _ _, hW.1, hW.2⟩
  have h1' : ¬ (20000 : Int) < (s.size : Int) := by omega
  clear hW h h1
  go_enter Tryd.func4, Tryd.ntmps4
  go_wp2_with (first
    | (go_at_call 5; refine (c _ hA.out.laid hA.out.tab).mono ?_; rintro e w1 ⟨rfl, hb1⟩; have A1 := hid (hA.out.step hb1); clear hb1 c)
    | (go_at_call 7; refine (c1 _ A1.out.tab).mono ?_; rintro e w2 ⟨rfl, hb2⟩; have A2 := hid (A1.out.step hb2); clear hb2 c1))
  go_ret
  exact ⟨rfl, A2.out.below⟩
set_option maxRecDepth 100000 in
set_option maxHeartbeats 1000000 in
theorem ahead_none (s : ByteArray) (n : Nat) (w : World) (hW : Laid w ∧ TabS w) (h : s.size ≤ 20000) (h1 : toks 0 s.data.toList = .ok []) :
    Calls Tryd.prog 4 #[.string s, .int .u16 (n : Int)] w fun e w' => e = .returned (.bool true) ∧ Below w.heap.size w w' := by
  have c := fun W hL hT => alive W hL hT
  have c1 := fun W hT => read_ok s _ h1 W hT (by omega)
  have hA : Hid (At w w) := ⟨Below.refl _ _, hW.1, hW.2⟩
  have h1' : ¬ (20000 : Int) < (s.size : Int) := by omega
  clear hW h h1
  go_enter Tryd.func4, Tryd.ntmps4
  go_wp2_with (first
    | (go_at_call 5; refine (c _ hA.out.laid hA.out.tab).mono ?_; rintro e w1 ⟨rfl, hb1⟩; have A1 := hid (hA.out.step hb1); clear hb1 c)
    | (go_at_call 7; refine (c1 _ A1.out.tab).mono ?_; rintro e w2 ⟨va, rfl, ho2, hb2⟩; obtain ⟨ao, cao, rfl, _⟩ := TokAt.of_own ho2; have A2 := hid (A1.out.step hb2); clear hb2 c1 ho2))
  go_ret
  exact ⟨rfl, A2.out.below⟩
set_option maxRecDepth 100000 in
set_option maxHeartbeats 2000000 in
theorem ahead_ok (s : ByteArray) (n : Nat) (w : World) (hW : Laid w ∧ TabS w) (hn : n < 65536) (h : s.size ≤ 20000) (ts : List Tok) (h0 : ts ≠ []) (h1 : toks 0 s.data.toList = .ok ts) :
    Calls Tryd.prog 4 #[.string s, .int .u16 (n : Int)] w fun e w' => e = .returned (.bool true) ∧ Below w.heap.size w w' := by
  have c := fun W hL hT => alive W hL hT
  have c1 := fun W hT => read_ok s _ h1 W hT (by omega)
  have hA : Hid (At w w) := ⟨Below.refl _ _, hW.1, hW.2⟩
  have h1' : ¬ (20000 : Int) < (s.size : Int) := by omega
  have hlt : ts.length ≤ 20000 := by have := toks_few _ s.data.toList 0 ts rfl h1; rw [← Lib.size_eq] at this; omega
  have hpos : 0 < ts.length := List.length_pos_iff.2 h0
  obtain ⟨k, hk⟩ : ∃ k, n % ts.length = k := ⟨_, rfl⟩
  have hkl : k < ts.length := by rw [← hk]; exact Nat.mod_lt _ hpos
  have hmod : Int.tmod (n : Int) (ts.length : Int) = (k : Int) := by rw [← hk, Int.ofNat_tmod]
  have hmod2 : (n : Int) % (ts.length : Int) = (k : Int) := by rw [← hk]; simp
  obtain ⟨_, g2, g3⟩ := toks_take _ s.data.toList 0 ts rfl h1 k hkl
  rw [← Lib.size_eq, Nat.zero_add] at g2
  rw [Nat.sub_zero] at g3
  obtain ⟨A, hAt⟩ : ∃ A, ts[k].at_ = A := ⟨_, rfl⟩
  rw [hAt] at g2 g3
  have hX : (s.extract 0 A).data.toList = s.data.toList.take A := by
    rw [ByteArray.data_extract, Array.toList_extract, List.extract_eq_take_drop]
    simp
  have hXs : (s.extract 0 A).size ≤ 20000 := by rw [ByteArray.size_extract]; omega
  have c2 := fun W hT => read_ok (s.extract 0 A) (ts.take k) (by rw [hX]; exact g3) W hT (by omega)
  have hne0 : ((ts.length : Int) == 0) = false := by simp; omega
  have hA0 : ¬ (A : Int) < 0 := by omega
  have hAs : ¬ (s.size : Int) < (A : Int) := by omega
  have hAs2 : (A : Int) ≤ (s.size : Int) := by omega
  have hk0 : (0 : Int) ≤ (k : Int) := by omega
  have hkl' : (k : Int) < (ts.length : Int) := by omega
  clear hW h h0 h1 g3 hX hk
  go_enter Tryd.func4, Tryd.ntmps4
  go_wp2_with (first
    | (go_at_call 5; refine (c _ hA.out.laid hA.out.tab).mono ?_; rintro e w1 ⟨rfl, hb1⟩; have A1 := hid (hA.out.step hb1); clear hb1 c)
    | (go_at_call 7; refine (c1 _ A1.out.tab).mono ?_; rintro e w2 ⟨va, rfl, ho2, hb2⟩; obtain ⟨ao, cao, rfl, hta⟩ := TokAt.of_own ho2; have A2 := hid (A1.out.step hb2); have O2 := hid (p := TokAt w2 (.slice ao ts.length cao) ts) ⟨ao, cao, rfl, hta⟩; obtain ⟨g, rfl, hg⟩ := hta.resolve_left (by omega); obtain ⟨_, _, x2⟩ := hg k hkl; rw [hAt] at x2; have hcap := own_cap ho2; have hcap' : (k : Int) ≤ (cao : Int) := (by omega); clear hb2 c1 ho2 hg hta)
    | (go_at_call 7; refine (c2 _ A2.out.tab).mono ?_; rintro e w3 ⟨vb, rfl, ho3, hb3⟩; have A3 := hid (A2.out.step hb3); have C3 := hid (TokAt.of_own ho3); have O3 := hid (O2.out.below hb3); clear hb3 c2 ho3)
    | (go_at_call 8; refine (same' _ _ _ _ C3.out (O3.out.take k _ (by omega)) (by rw [List.length_take]; omega)).mono ?_; rintro e w4 ⟨rfl, hb4⟩))
  go_ret
  exact ⟨rfl, bstep A3.out.below hb4⟩
/-- The walk: the Go text of the law returns true and turns nothing that was there. -/
theorem walk4 (s : ByteArray) (n : Nat) (w : World) (hW : Laid w ∧ TabS w) (hn : n < 65536) :
    Calls Tryd.prog 4 #[.string s, .int .u16 (n : Int)] w fun e w' => e = .returned (.bool true) ∧ Below w.heap.size w w' := by
  by_cases h : s.size ≤ 20000
  · cases h1 : toks 0 s.data.toList with
    | error a => exact ahead_bad s n w hW h a h1
    | ok ts =>
      by_cases h0 : ts = []
      · subst h0; exact ahead_none s n w hW h h1
      · exact ahead_ok s n w hW hn h ts h0 h1
  · exact ahead_big s n w hW (by omega)
end Go.Proofs.YtafelijlolidhabDoor.Lex
namespace Go.Proofs.YtafelijlolidhabDoor.Lex7
theorem nat_h {n : Int} (h : (Lit.int .u16 n).wf = true) : ∃ k : Nat, k < 65536 ∧ n = (k : Int) := by
  simp [Lit.wf, IntKind.min, IntKind.max, IntKind.signed, IntKind.bits] at h
  exact ⟨n.toNat, by omega, by omega⟩
end Go.Proofs.YtafelijlolidhabDoor.Lex7
