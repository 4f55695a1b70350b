/-
  The walk of the law on a name with a byte more.
-/
import Derived.Test.YtafelijlolidhabDoorWordsM
import Derived.Test.YtafelijlolidhabDoorOpen7
import Derived.Laws.IdiomStrings
namespace Go.Proofs.YtafelijlolidhabDoor.Lex
open Go.ChangeShapes Go.WideShapes Go.ChangeAt Go.RowKit Go.Joins
set_option linter.unusedVariables false
theorem conv_one (c : UInt8) (w : World) : (convert 28 9 (.slice (some ⟨w.heap.size, 0, none⟩) 1 1)).run Tryd.prog (w.alloc (.cells #[.int .u8 (c.toNat : Int)] 5)) = .ok (.string ⟨#[c]⟩) (w.alloc (.cells #[.int .u8 (c.toNat : Int)] 5)) :=
  run_convert_bytes_back _ 28 9 5 ⟨w.heap.size, 0, none⟩ 1 [c] Tryd.underlying28 Tryd.underlying5 Tryd.underlying9 fun j hj => by
    obtain rfl : j = 0 := by simpa using hj
    rw [show (⟨w.heap.size, 0, none⟩ : Addr).add 0 = ⟨w.heap.size, 0, none⟩ from rfl, World.cell?_alloc_at _ _ _ _ rfl]
    rfl
theorem first_tok {w : World} {ao : Option Addr} {n cap : Nat} {X : ByteArray} {us : List Tok} (h : TokAt w (.slice ao n cap) (⟨1, X.data.toList, 0⟩ :: us)) : n = us.length + 1 ∧ ∃ g, ao = some ⟨g, 0, none⟩ ∧ w.cell? ⟨g, 0, none⟩ = some (.int .u8 1) ∧ w.cell? ⟨g, 1, none⟩ = some (.string X) ∧ w.cell? ⟨g, 2, none⟩ = some (.int .i64 0) := by
  obtain ⟨a, c, hv, hc⟩ := h
  injection hv with e1 e2 e3
  subst e1
  obtain ⟨g, hg, hc⟩ := hc.resolve_left (by simp)
  obtain ⟨x0, x1, x2⟩ := hc 0 (by simp)
  refine ⟨by simpa using e2, g, hg, x0, ?_, x2⟩
  rw [show (⟨g, 1, none⟩ : Addr) = ⟨g, 0 * 3 + 1, none⟩ from rfl, x1]
  simp
theorem keepc {w w' : World} {C : Obj} {p : Addr} {v : Value} (h : w.cell? p = some v) (hb : Below (w.alloc C).heap.size (w.alloc C) w') : w'.cell? p = some v := by
  have hlt := World.block_lt_of_cell? w _ h
  have b1 := (Below.refl w.heap.size w).alloc (Nat.le_refl _) C
  have b2 := bstep b1 hb
  rw [b2.cell hlt]
  exact h
theorem own_form' {w : World} {B n : Nat} {v : Value} {xs : List Value} (h : w.ownsRow B 30 3 v n xs) : ∃ ao cap, v = .slice ao n cap := by
  rcases h.2 with ⟨rfl, rfl⟩ | ⟨g, cap, cur, rfl, _⟩
  · exact ⟨none, 0, rfl⟩
  · exact ⟨_, cap, rfl⟩
theorem keepm {w w' : World} {p : Addr} {v : Value} (h : w.cell? p = some v) (hb : Below w.heap.size w w') : w'.cell? p = some v := by
  rw [hb.cell (World.block_lt_of_cell? w _ h)]
  exact h
set_option maxRecDepth 100000 in
set_option maxHeartbeats 1000000 in
theorem words_big (s : ByteArray) (c : UInt8) (w : World) (hW : Laid w ∧ TabS w) (h : 1000 < s.size) :
    Calls Tryd.prog 3 #[.string s, .int .u8 (c.toNat : Int)] w fun e w' => e = .returned (.bool true) ∧ Below w.heap.size w w' := by
  have c1 := fun W hL hT => alive W hL hT
  have hA : Hid (At w w) := ⟨Below.refl _ _, hW.1, hW.2⟩
  have c2 := c1
  have h1' : (1000 : Int) < (s.size : Int) := by omega
  clear hW h
  go_enter Tryd.func3, Tryd.ntmps3
  go_wp2_with (first
    | (go_at_call 5; refine (c1 _ hA.out.laid hA.out.tab).mono ?_; rintro e w1 ⟨rfl, hb1⟩; have A1 := hid (hA.out.step hb1); clear hb1 c1)
    | (go_at_call 5; refine (c2 _ A1.out.laid A1.out.tab).mono ?_; rintro e w2 ⟨rfl, hb2⟩; have A2 := hid (A1.out.step hb2); clear hb2 c2))
  go_ret
  exact ⟨rfl, A2.out.below⟩
set_option maxRecDepth 100000 in
set_option maxHeartbeats 1000000 in
theorem words_not (s : ByteArray) (c : UInt8) (w : World) (hW : Laid w ∧ TabS w) (h : s.size ≤ 1000) (hn : isName s = false) :
    Calls Tryd.prog 3 #[.string s, .int .u8 (c.toNat : Int)] w fun e w' => e = .returned (.bool true) ∧ Below w.heap.size w w' := by
  have c1 := fun W hL hT => alive W hL hT
  have hA : Hid (At w w) := ⟨Below.refl _ _, hW.1, hW.2⟩
  have c2 := c1
  have cn := fun W hL => name_of s false hn W hL
  have h1' : ¬ (1000 : Int) < (s.size : Int) := by omega
  clear hW h hn
  go_enter Tryd.func3, Tryd.ntmps3
  go_wp2_with (first
    | (go_at_call 5; refine (c1 _ hA.out.laid hA.out.tab).mono ?_; rintro e w1 ⟨rfl, hb1⟩; have A1 := hid (hA.out.step hb1); clear hb1 c1)
    | (go_at_call 6; refine (cn _ A1.out.laid).mono ?_; rintro e w2 ⟨rfl, hb2⟩; have A2 := hid (A1.out.step hb2); clear hb2 cn)
    | (go_at_call 5; refine (c2 _ A2.out.laid A2.out.tab).mono ?_; rintro e w3 ⟨rfl, hb3⟩; have A3 := hid (A2.out.step hb3); clear hb3 c2))
  go_ret
  exact ⟨rfl, A3.out.below⟩
set_option maxRecDepth 100000 in
set_option maxHeartbeats 2000000 in
theorem words_A_yes (s : ByteArray) (c : UInt8) (w : World) (hW : Laid w ∧ TabS w) (hs : s.size ≤ 40) (hn : isName s = true) (h1 : toks 0 s.data.toList = .ok [⟨1, s.data.toList, 0⟩]) (q0 : ((97 : Int) ≤ (c.toNat : Int))) (q1 : ((c.toNat : Int) ≤ 122)) (h2 : toks 0 (s ++ (⟨#[c]⟩ : ByteArray)).data.toList = .ok [⟨1, (s ++ (⟨#[c]⟩ : ByteArray)).data.toList, 0⟩]) (m : Bool) (hm : isName (s ++ (⟨#[c]⟩ : ByteArray)) = m) (hmm : m = true → s.size < 40) :
    Calls Tryd.prog 3 #[.string s, .int .u8 (c.toNat : Int)] w fun e w' => e = .returned (.bool true) ∧ Below w.heap.size w w' := by
  have c0 := fun W hL hT => alive W hL hT
  have hA : Hid (At w w) := ⟨Below.refl _ _, hW.1, hW.2⟩
  have cn := fun W hL => name_of s true hn W hL
  have c1 := fun W hT => read_ok s _ h1 W hT (by omega)
  have hX : (s ++ (⟨#[c]⟩ : ByteArray)).size ≤ 65536 := by rw [Lib.size_eq, cat1, List.length_append, ← Lib.size_eq]; simp; omega
  have c2 := fun W hT => read_ok (s ++ (⟨#[c]⟩ : ByteArray)) _ h2 W hT hX
  have cm := fun W hL => name_of (s ++ (⟨#[c]⟩ : ByteArray)) m hm W hL
  have h1' : ¬ (1000 : Int) < (s.size : Int) := by omega
  have h2' : ¬ (40 : Int) < (s.size : Int) := by omega
  cases m with
  | false =>
    clear hW hn h1 h2 hm hs hX hmm
    go_enter Tryd.func3, Tryd.ntmps3
    go_wp2_with (first
      | (go_at_call 5; refine (c0 _ hA.out.laid hA.out.tab).mono ?_; rintro e w1 ⟨rfl, hb1⟩; have A1 := hid (hA.out.step hb1); clear hb1 c0)
      | (go_at_call 6; refine (cn _ A1.out.laid).mono ?_; rintro e w2 ⟨rfl, hb2⟩; have A2 := hid (A1.out.step hb2); clear hb2 cn)
      | (go_at_call 7; refine (c1 _ A2.out.tab).mono ?_; rintro e w3 ⟨va, rfl, ho3, hb3⟩; have hcv := conv_one c w3; obtain ⟨ao, cao, rfl⟩ := own_form' ho3; obtain ⟨_, g, rfl, x0, x1, x2⟩ := first_tok (TokAt.of_own ho3); have Bn := (Below.refl w3.heap.size w3).alloc (Nat.le_refl _) (.cells #[.int .u8 (c.toNat : Int)] 5); have A3 := hid ((A2.out.step hb3).step Bn); have X0 := hid x0; have X1 := hid x1; have X2 := hid x2; clear hb3 c1 ho3 x0 x1 x2 Bn)
      | (go_at_call 7; refine (c2 _ A3.out.tab).mono ?_; rintro e w4 ⟨vb, rfl, ho4, hb4⟩; obtain ⟨bo, cbo, rfl⟩ := own_form' ho4; obtain ⟨_, g2, rfl, z0, z1, z2⟩ := first_tok (TokAt.of_own ho4); have A4 := hid (A3.out.step hb4); have y0 := keepc X0.out hb4; have y1 := keepc X1.out hb4; have y2 := keepc X2.out hb4; clear hb4 c2 X0 X1 X2 ho4)
      | (go_at_call 6; refine (cm _ A4.out.laid).mono ?_; rintro e w5 ⟨rfl, hb5⟩; have A5 := hid (A4.out.step hb5); first | (have zz1 := keepm z1 hb5; clear z1 z0 z2 hb5 cm) | clear hb5 cm))
    go_ret
    exact ⟨rfl, A5.out.below⟩
  | true =>
    have h40 : (s.size : Int) < 40 := by have := hmm rfl; omega
    clear hW hn h1 h2 hm hs hX hmm
    go_enter Tryd.func3, Tryd.ntmps3
    go_wp2_with (first
      | (go_at_call 5; refine (c0 _ hA.out.laid hA.out.tab).mono ?_; rintro e w1 ⟨rfl, hb1⟩; have A1 := hid (hA.out.step hb1); clear hb1 c0)
      | (go_at_call 6; refine (cn _ A1.out.laid).mono ?_; rintro e w2 ⟨rfl, hb2⟩; have A2 := hid (A1.out.step hb2); clear hb2 cn)
      | (go_at_call 7; refine (c1 _ A2.out.tab).mono ?_; rintro e w3 ⟨va, rfl, ho3, hb3⟩; have hcv := conv_one c w3; obtain ⟨ao, cao, rfl⟩ := own_form' ho3; obtain ⟨_, g, rfl, x0, x1, x2⟩ := first_tok (TokAt.of_own ho3); have Bn := (Below.refl w3.heap.size w3).alloc (Nat.le_refl _) (.cells #[.int .u8 (c.toNat : Int)] 5); have A3 := hid ((A2.out.step hb3).step Bn); have X0 := hid x0; have X1 := hid x1; have X2 := hid x2; clear hb3 c1 ho3 x0 x1 x2 Bn)
      | (go_at_call 7; refine (c2 _ A3.out.tab).mono ?_; rintro e w4 ⟨vb, rfl, ho4, hb4⟩; obtain ⟨bo, cbo, rfl⟩ := own_form' ho4; obtain ⟨_, g2, rfl, z0, z1, z2⟩ := first_tok (TokAt.of_own ho4); have A4 := hid (A3.out.step hb4); have y0 := keepc X0.out hb4; have y1 := keepc X1.out hb4; have y2 := keepc X2.out hb4; clear hb4 c2 X0 X1 X2 ho4)
      | (go_at_call 6; refine (cm _ A4.out.laid).mono ?_; rintro e w5 ⟨rfl, hb5⟩; have A5 := hid (A4.out.step hb5); first | (have zz1 := keepm z1 hb5; clear z1 z0 z2 hb5 cm) | clear hb5 cm))
    go_ret
    exact ⟨rfl, A5.out.below⟩
set_option maxRecDepth 100000 in
set_option maxHeartbeats 2000000 in
theorem words_C1_yes (s : ByteArray) (c : UInt8) (w : World) (hW : Laid w ∧ TabS w) (hs : s.size ≤ 40) (hn : isName s = true) (h1 : toks 0 s.data.toList = .ok [⟨1, s.data.toList, 0⟩]) (q0 : (¬ (97 : Int) ≤ (c.toNat : Int))) (q1 : ((65 : Int) ≤ (c.toNat : Int))) (q2 : ((c.toNat : Int) ≤ 90)) (h2 : toks 0 (s ++ (⟨#[c]⟩ : ByteArray)).data.toList = .ok [⟨1, (s ++ (⟨#[c]⟩ : ByteArray)).data.toList, 0⟩]) (m : Bool) (hm : isName (s ++ (⟨#[c]⟩ : ByteArray)) = m) (hmm : m = true → s.size < 40) :
    Calls Tryd.prog 3 #[.string s, .int .u8 (c.toNat : Int)] w fun e w' => e = .returned (.bool true) ∧ Below w.heap.size w w' := by
  have c0 := fun W hL hT => alive W hL hT
  have hA : Hid (At w w) := ⟨Below.refl _ _, hW.1, hW.2⟩
  have cn := fun W hL => name_of s true hn W hL
  have c1 := fun W hT => read_ok s _ h1 W hT (by omega)
  have hX : (s ++ (⟨#[c]⟩ : ByteArray)).size ≤ 65536 := by rw [Lib.size_eq, cat1, List.length_append, ← Lib.size_eq]; simp; omega
  have c2 := fun W hT => read_ok (s ++ (⟨#[c]⟩ : ByteArray)) _ h2 W hT hX
  have cm := fun W hL => name_of (s ++ (⟨#[c]⟩ : ByteArray)) m hm W hL
  have h1' : ¬ (1000 : Int) < (s.size : Int) := by omega
  have h2' : ¬ (40 : Int) < (s.size : Int) := by omega
  cases m with
  | false =>
    clear hW hn h1 h2 hm hs hX hmm
    go_enter Tryd.func3, Tryd.ntmps3
    go_wp2_with (first
      | (go_at_call 5; refine (c0 _ hA.out.laid hA.out.tab).mono ?_; rintro e w1 ⟨rfl, hb1⟩; have A1 := hid (hA.out.step hb1); clear hb1 c0)
      | (go_at_call 6; refine (cn _ A1.out.laid).mono ?_; rintro e w2 ⟨rfl, hb2⟩; have A2 := hid (A1.out.step hb2); clear hb2 cn)
      | (go_at_call 7; refine (c1 _ A2.out.tab).mono ?_; rintro e w3 ⟨va, rfl, ho3, hb3⟩; have hcv := conv_one c w3; obtain ⟨ao, cao, rfl⟩ := own_form' ho3; obtain ⟨_, g, rfl, x0, x1, x2⟩ := first_tok (TokAt.of_own ho3); have Bn := (Below.refl w3.heap.size w3).alloc (Nat.le_refl _) (.cells #[.int .u8 (c.toNat : Int)] 5); have A3 := hid ((A2.out.step hb3).step Bn); have X0 := hid x0; have X1 := hid x1; have X2 := hid x2; clear hb3 c1 ho3 x0 x1 x2 Bn)
      | (go_at_call 7; refine (c2 _ A3.out.tab).mono ?_; rintro e w4 ⟨vb, rfl, ho4, hb4⟩; obtain ⟨bo, cbo, rfl⟩ := own_form' ho4; obtain ⟨_, g2, rfl, z0, z1, z2⟩ := first_tok (TokAt.of_own ho4); have A4 := hid (A3.out.step hb4); have y0 := keepc X0.out hb4; have y1 := keepc X1.out hb4; have y2 := keepc X2.out hb4; clear hb4 c2 X0 X1 X2 ho4)
      | (go_at_call 6; refine (cm _ A4.out.laid).mono ?_; rintro e w5 ⟨rfl, hb5⟩; have A5 := hid (A4.out.step hb5); first | (have zz1 := keepm z1 hb5; clear z1 z0 z2 hb5 cm) | clear hb5 cm))
    go_ret
    exact ⟨rfl, A5.out.below⟩
  | true =>
    have h40 : (s.size : Int) < 40 := by have := hmm rfl; omega
    clear hW hn h1 h2 hm hs hX hmm
    go_enter Tryd.func3, Tryd.ntmps3
    go_wp2_with (first
      | (go_at_call 5; refine (c0 _ hA.out.laid hA.out.tab).mono ?_; rintro e w1 ⟨rfl, hb1⟩; have A1 := hid (hA.out.step hb1); clear hb1 c0)
      | (go_at_call 6; refine (cn _ A1.out.laid).mono ?_; rintro e w2 ⟨rfl, hb2⟩; have A2 := hid (A1.out.step hb2); clear hb2 cn)
      | (go_at_call 7; refine (c1 _ A2.out.tab).mono ?_; rintro e w3 ⟨va, rfl, ho3, hb3⟩; have hcv := conv_one c w3; obtain ⟨ao, cao, rfl⟩ := own_form' ho3; obtain ⟨_, g, rfl, x0, x1, x2⟩ := first_tok (TokAt.of_own ho3); have Bn := (Below.refl w3.heap.size w3).alloc (Nat.le_refl _) (.cells #[.int .u8 (c.toNat : Int)] 5); have A3 := hid ((A2.out.step hb3).step Bn); have X0 := hid x0; have X1 := hid x1; have X2 := hid x2; clear hb3 c1 ho3 x0 x1 x2 Bn)
      | (go_at_call 7; refine (c2 _ A3.out.tab).mono ?_; rintro e w4 ⟨vb, rfl, ho4, hb4⟩; obtain ⟨bo, cbo, rfl⟩ := own_form' ho4; obtain ⟨_, g2, rfl, z0, z1, z2⟩ := first_tok (TokAt.of_own ho4); have A4 := hid (A3.out.step hb4); have y0 := keepc X0.out hb4; have y1 := keepc X1.out hb4; have y2 := keepc X2.out hb4; clear hb4 c2 X0 X1 X2 ho4)
      | (go_at_call 6; refine (cm _ A4.out.laid).mono ?_; rintro e w5 ⟨rfl, hb5⟩; have A5 := hid (A4.out.step hb5); first | (have zz1 := keepm z1 hb5; clear z1 z0 z2 hb5 cm) | clear hb5 cm))
    go_ret
    exact ⟨rfl, A5.out.below⟩
set_option maxRecDepth 100000 in
set_option maxHeartbeats 2000000 in
theorem words_C4_yes (s : ByteArray) (c : UInt8) (w : World) (hW : Laid w ∧ TabS w) (hs : s.size ≤ 40) (hn : isName s = true) (h1 : toks 0 s.data.toList = .ok [⟨1, s.data.toList, 0⟩]) (q0 : (¬ (97 : Int) ≤ (c.toNat : Int))) (q1 : (¬ (65 : Int) ≤ (c.toNat : Int))) (q2 : ((48 : Int) ≤ (c.toNat : Int))) (q3 : ((c.toNat : Int) ≤ 57)) (h2 : toks 0 (s ++ (⟨#[c]⟩ : ByteArray)).data.toList = .ok [⟨1, (s ++ (⟨#[c]⟩ : ByteArray)).data.toList, 0⟩]) (m : Bool) (hm : isName (s ++ (⟨#[c]⟩ : ByteArray)) = m) (hmm : m = true → s.size < 40) :
    Calls Tryd.prog 3 #[.string s, .int .u8 (c.toNat : Int)] w fun e w' => e = .returned (.bool true) ∧ Below w.heap.size w w' := by
  have c0 := fun W hL hT => alive W hL hT
  have hA : Hid (At w w) := ⟨Below.refl _ _, hW.1, hW.2⟩
  have cn := fun W hL => name_of s true hn W hL
  have c1 := fun W hT => read_ok s _ h1 W hT (by omega)
  have hX : (s ++ (⟨#[c]⟩ : ByteArray)).size ≤ 65536 := by rw [Lib.size_eq, cat1, List.length_append, ← Lib.size_eq]; simp; omega
  have c2 := fun W hT => read_ok (s ++ (⟨#[c]⟩ : ByteArray)) _ h2 W hT hX
  have cm := fun W hL => name_of (s ++ (⟨#[c]⟩ : ByteArray)) m hm W hL
  have h1' : ¬ (1000 : Int) < (s.size : Int) := by omega
  have h2' : ¬ (40 : Int) < (s.size : Int) := by omega
  cases m with
  | false =>
    clear hW hn h1 h2 hm hs hX hmm
    go_enter Tryd.func3, Tryd.ntmps3
    go_wp2_with (first
      | (go_at_call 5; refine (c0 _ hA.out.laid hA.out.tab).mono ?_; rintro e w1 ⟨rfl, hb1⟩; have A1 := hid (hA.out.step hb1); clear hb1 c0)
      | (go_at_call 6; refine (cn _ A1.out.laid).mono ?_; rintro e w2 ⟨rfl, hb2⟩; have A2 := hid (A1.out.step hb2); clear hb2 cn)
      | (go_at_call 7; refine (c1 _ A2.out.tab).mono ?_; rintro e w3 ⟨va, rfl, ho3, hb3⟩; have hcv := conv_one c w3; obtain ⟨ao, cao, rfl⟩ := own_form' ho3; obtain ⟨_, g, rfl, x0, x1, x2⟩ := first_tok (TokAt.of_own ho3); have Bn := (Below.refl w3.heap.size w3).alloc (Nat.le_refl _) (.cells #[.int .u8 (c.toNat : Int)] 5); have A3 := hid ((A2.out.step hb3).step Bn); have X0 := hid x0; have X1 := hid x1; have X2 := hid x2; clear hb3 c1 ho3 x0 x1 x2 Bn)
      | (go_at_call 7; refine (c2 _ A3.out.tab).mono ?_; rintro e w4 ⟨vb, rfl, ho4, hb4⟩; obtain ⟨bo, cbo, rfl⟩ := own_form' ho4; obtain ⟨_, g2, rfl, z0, z1, z2⟩ := first_tok (TokAt.of_own ho4); have A4 := hid (A3.out.step hb4); have y0 := keepc X0.out hb4; have y1 := keepc X1.out hb4; have y2 := keepc X2.out hb4; clear hb4 c2 X0 X1 X2 ho4)
      | (go_at_call 6; refine (cm _ A4.out.laid).mono ?_; rintro e w5 ⟨rfl, hb5⟩; have A5 := hid (A4.out.step hb5); first | (have zz1 := keepm z1 hb5; clear z1 z0 z2 hb5 cm) | clear hb5 cm))
    go_ret
    exact ⟨rfl, A5.out.below⟩
  | true =>
    have h40 : (s.size : Int) < 40 := by have := hmm rfl; omega
    clear hW hn h1 h2 hm hs hX hmm
    go_enter Tryd.func3, Tryd.ntmps3
    go_wp2_with (first
      | (go_at_call 5; refine (c0 _ hA.out.laid hA.out.tab).mono ?_; rintro e w1 ⟨rfl, hb1⟩; have A1 := hid (hA.out.step hb1); clear hb1 c0)
      | (go_at_call 6; refine (cn _ A1.out.laid).mono ?_; rintro e w2 ⟨rfl, hb2⟩; have A2 := hid (A1.out.step hb2); clear hb2 cn)
      | (go_at_call 7; refine (c1 _ A2.out.tab).mono ?_; rintro e w3 ⟨va, rfl, ho3, hb3⟩; have hcv := conv_one c w3; obtain ⟨ao, cao, rfl⟩ := own_form' ho3; obtain ⟨_, g, rfl, x0, x1, x2⟩ := first_tok (TokAt.of_own ho3); have Bn := (Below.refl w3.heap.size w3).alloc (Nat.le_refl _) (.cells #[.int .u8 (c.toNat : Int)] 5); have A3 := hid ((A2.out.step hb3).step Bn); have X0 := hid x0; have X1 := hid x1; have X2 := hid x2; clear hb3 c1 ho3 x0 x1 x2 Bn)
      | (go_at_call 7; refine (c2 _ A3.out.tab).mono ?_; rintro e w4 ⟨vb, rfl, ho4, hb4⟩; obtain ⟨bo, cbo, rfl⟩ := own_form' ho4; obtain ⟨_, g2, rfl, z0, z1, z2⟩ := first_tok (TokAt.of_own ho4); have A4 := hid (A3.out.step hb4); have y0 := keepc X0.out hb4; have y1 := keepc X1.out hb4; have y2 := keepc X2.out hb4; clear hb4 c2 X0 X1 X2 ho4)
      | (go_at_call 6; refine (cm _ A4.out.laid).mono ?_; rintro e w5 ⟨rfl, hb5⟩; have A5 := hid (A4.out.step hb5); first | (have zz1 := keepm z1 hb5; clear z1 z0 z2 hb5 cm) | clear hb5 cm))
    go_ret
    exact ⟨rfl, A5.out.below⟩
set_option maxRecDepth 100000 in
set_option maxHeartbeats 2000000 in
theorem words_C2_yes (s : ByteArray) (c : UInt8) (w : World) (hW : Laid w ∧ TabS w) (hs : s.size ≤ 40) (hn : isName s = true) (h1 : toks 0 s.data.toList = .ok [⟨1, s.data.toList, 0⟩]) (q0 : (¬ (97 : Int) ≤ (c.toNat : Int))) (q1 : ((65 : Int) ≤ (c.toNat : Int))) (q2 : (¬ (c.toNat : Int) ≤ 90)) (q3 : ((48 : Int) ≤ (c.toNat : Int))) (q4 : (¬ (c.toNat : Int) ≤ 57)) (q5 : (((c.toNat : Int) == 95) = true)) (h2 : toks 0 (s ++ (⟨#[c]⟩ : ByteArray)).data.toList = .ok [⟨1, (s ++ (⟨#[c]⟩ : ByteArray)).data.toList, 0⟩]) (m : Bool) (hm : isName (s ++ (⟨#[c]⟩ : ByteArray)) = m) (hmm : m = true → s.size < 40) :
    Calls Tryd.prog 3 #[.string s, .int .u8 (c.toNat : Int)] w fun e w' => e = .returned (.bool true) ∧ Below w.heap.size w w' := by
  have c0 := fun W hL hT => alive W hL hT
  have hA : Hid (At w w) := ⟨Below.refl _ _, hW.1, hW.2⟩
  have cn := fun W hL => name_of s true hn W hL
  have c1 := fun W hT => read_ok s _ h1 W hT (by omega)
  have hX : (s ++ (⟨#[c]⟩ : ByteArray)).size ≤ 65536 := by rw [Lib.size_eq, cat1, List.length_append, ← Lib.size_eq]; simp; omega
  have c2 := fun W hT => read_ok (s ++ (⟨#[c]⟩ : ByteArray)) _ h2 W hT hX
  have cm := fun W hL => name_of (s ++ (⟨#[c]⟩ : ByteArray)) m hm W hL
  have h1' : ¬ (1000 : Int) < (s.size : Int) := by omega
  have h2' : ¬ (40 : Int) < (s.size : Int) := by omega
  cases m with
  | false =>
    clear hW hn h1 h2 hm hs hX hmm
    go_enter Tryd.func3, Tryd.ntmps3
    go_wp2_with (first
      | (go_at_call 5; refine (c0 _ hA.out.laid hA.out.tab).mono ?_; rintro e w1 ⟨rfl, hb1⟩; have A1 := hid (hA.out.step hb1); clear hb1 c0)
      | (go_at_call 6; refine (cn _ A1.out.laid).mono ?_; rintro e w2 ⟨rfl, hb2⟩; have A2 := hid (A1.out.step hb2); clear hb2 cn)
      | (go_at_call 7; refine (c1 _ A2.out.tab).mono ?_; rintro e w3 ⟨va, rfl, ho3, hb3⟩; have hcv := conv_one c w3; obtain ⟨ao, cao, rfl⟩ := own_form' ho3; obtain ⟨_, g, rfl, x0, x1, x2⟩ := first_tok (TokAt.of_own ho3); have Bn := (Below.refl w3.heap.size w3).alloc (Nat.le_refl _) (.cells #[.int .u8 (c.toNat : Int)] 5); have A3 := hid ((A2.out.step hb3).step Bn); have X0 := hid x0; have X1 := hid x1; have X2 := hid x2; clear hb3 c1 ho3 x0 x1 x2 Bn)
      | (go_at_call 7; refine (c2 _ A3.out.tab).mono ?_; rintro e w4 ⟨vb, rfl, ho4, hb4⟩; obtain ⟨bo, cbo, rfl⟩ := own_form' ho4; obtain ⟨_, g2, rfl, z0, z1, z2⟩ := first_tok (TokAt.of_own ho4); have A4 := hid (A3.out.step hb4); have y0 := keepc X0.out hb4; have y1 := keepc X1.out hb4; have y2 := keepc X2.out hb4; clear hb4 c2 X0 X1 X2 ho4)
      | (go_at_call 6; refine (cm _ A4.out.laid).mono ?_; rintro e w5 ⟨rfl, hb5⟩; have A5 := hid (A4.out.step hb5); first | (have zz1 := keepm z1 hb5; clear z1 z0 z2 hb5 cm) | clear hb5 cm))
    go_ret
    exact ⟨rfl, A5.out.below⟩
  | true =>
    have h40 : (s.size : Int) < 40 := by have := hmm rfl; omega
    clear hW hn h1 h2 hm hs hX hmm
    go_enter Tryd.func3, Tryd.ntmps3
    go_wp2_with (first
      | (go_at_call 5; refine (c0 _ hA.out.laid hA.out.tab).mono ?_; rintro e w1 ⟨rfl, hb1⟩; have A1 := hid (hA.out.step hb1); clear hb1 c0)
      | (go_at_call 6; refine (cn _ A1.out.laid).mono ?_; rintro e w2 ⟨rfl, hb2⟩; have A2 := hid (A1.out.step hb2); clear hb2 cn)
      | (go_at_call 7; refine (c1 _ A2.out.tab).mono ?_; rintro e w3 ⟨va, rfl, ho3, hb3⟩; have hcv := conv_one c w3; obtain ⟨ao, cao, rfl⟩ := own_form' ho3; obtain ⟨_, g, rfl, x0, x1, x2⟩ := first_tok (TokAt.of_own ho3); have Bn := (Below.refl w3.heap.size w3).alloc (Nat.le_refl _) (.cells #[.int .u8 (c.toNat : Int)] 5); have A3 := hid ((A2.out.step hb3).step Bn); have X0 := hid x0; have X1 := hid x1; have X2 := hid x2; clear hb3 c1 ho3 x0 x1 x2 Bn)
      | (go_at_call 7; refine (c2 _ A3.out.tab).mono ?_; rintro e w4 ⟨vb, rfl, ho4, hb4⟩; obtain ⟨bo, cbo, rfl⟩ := own_form' ho4; obtain ⟨_, g2, rfl, z0, z1, z2⟩ := first_tok (TokAt.of_own ho4); have A4 := hid (A3.out.step hb4); have y0 := keepc X0.out hb4; have y1 := keepc X1.out hb4; have y2 := keepc X2.out hb4; clear hb4 c2 X0 X1 X2 ho4)
      | (go_at_call 6; refine (cm _ A4.out.laid).mono ?_; rintro e w5 ⟨rfl, hb5⟩; have A5 := hid (A4.out.step hb5); first | (have zz1 := keepm z1 hb5; clear z1 z0 z2 hb5 cm) | clear hb5 cm))
    go_ret
    exact ⟨rfl, A5.out.below⟩
set_option maxRecDepth 100000 in
set_option maxHeartbeats 2000000 in
theorem words_B_bad (s : ByteArray) (c : UInt8) (w : World) (hW : Laid w ∧ TabS w) (hs : s.size ≤ 40) (hn : isName s = true) (h1 : toks 0 s.data.toList = .ok [⟨1, s.data.toList, 0⟩]) (q0 : ((97 : Int) ≤ (c.toNat : Int))) (q1 : (¬ (c.toNat : Int) ≤ 122)) (q2 : ((65 : Int) ≤ (c.toNat : Int))) (q3 : (¬ (c.toNat : Int) ≤ 90)) (q4 : ((48 : Int) ≤ (c.toNat : Int))) (q5 : (¬ (c.toNat : Int) ≤ 57)) (q6 : (((c.toNat : Int) == 95) = false)) (a : Nat) (h2 : toks 0 (s ++ (⟨#[c]⟩ : ByteArray)).data.toList = .error a) (hm : isName (s ++ (⟨#[c]⟩ : ByteArray)) = false) :
    Calls Tryd.prog 3 #[.string s, .int .u8 (c.toNat : Int)] w fun e w' => e = .returned (.bool true) ∧ Below w.heap.size w w' := by
  have c0 := fun W hL hT => alive W hL hT
  have hA : Hid (At w w) := ⟨Below.refl _ _, hW.1, hW.2⟩
  have cn := fun W hL => name_of s true hn W hL
  have c1 := fun W hT => read_ok s _ h1 W hT (by omega)
  have hX : (s ++ (⟨#[c]⟩ : ByteArray)).size ≤ 65536 := by rw [Lib.size_eq, cat1, List.length_append, ← Lib.size_eq]; simp; omega
  have c2 := fun W hT => read_bad (s ++ (⟨#[c]⟩ : ByteArray)) _ h2 W hT hX
  have cm := fun W hL => name_of (s ++ (⟨#[c]⟩ : ByteArray)) false hm W hL
  have h1' : ¬ (1000 : Int) < (s.size : Int) := by omega
  have h2' : ¬ (40 : Int) < (s.size : Int) := by omega
  clear hW hn h1 h2 hm hs hX
  go_enter Tryd.func3, Tryd.ntmps3
  go_wp2_with (first
    | (go_at_call 5; refine (c0 _ hA.out.laid hA.out.tab).mono ?_; rintro e w1 ⟨rfl, hb1⟩; have A1 := hid (hA.out.step hb1); clear hb1 c0)
    | (go_at_call 6; refine (cn _ A1.out.laid).mono ?_; rintro e w2 ⟨rfl, hb2⟩; have A2 := hid (A1.out.step hb2); clear hb2 cn)
    | (go_at_call 7; refine (c1 _ A2.out.tab).mono ?_; rintro e w3 ⟨va, rfl, ho3, hb3⟩; have hcv := conv_one c w3; obtain ⟨ao, cao, rfl⟩ := own_form' ho3; obtain ⟨_, g, rfl, x0, x1, x2⟩ := first_tok (TokAt.of_own ho3); have Bn := (Below.refl w3.heap.size w3).alloc (Nat.le_refl _) (.cells #[.int .u8 (c.toNat : Int)] 5); have A3 := hid ((A2.out.step hb3).step Bn); have X0 := hid x0; have X1 := hid x1; have X2 := hid x2; clear hb3 c1 ho3 x0 x1 x2 Bn)
    | (go_at_call 7; refine (c2 _ A3.out.tab).mono ?_; rintro e w4 ⟨rfl, hb4⟩; have A4 := hid (A3.out.step hb4); have y0 := keepc X0.out hb4; have y1 := keepc X1.out hb4; have y2 := keepc X2.out hb4; clear hb4 c2 X0 X1 X2)
    | (go_at_call 6; refine (cm _ A4.out.laid).mono ?_; rintro e w5 ⟨rfl, hb5⟩; have A5 := hid (A4.out.step hb5); first | (have zz1 := keepm z1 hb5; clear z1 z0 z2 hb5 cm) | clear hb5 cm))
  go_ret
  exact ⟨rfl, A5.out.below⟩
set_option maxRecDepth 100000 in
set_option maxHeartbeats 2000000 in
theorem words_B_ok (s : ByteArray) (c : UInt8) (w : World) (hW : Laid w ∧ TabS w) (hs : s.size ≤ 40) (hn : isName s = true) (h1 : toks 0 s.data.toList = .ok [⟨1, s.data.toList, 0⟩]) (q0 : ((97 : Int) ≤ (c.toNat : Int))) (q1 : (¬ (c.toNat : Int) ≤ 122)) (q2 : ((65 : Int) ≤ (c.toNat : Int))) (q3 : (¬ (c.toNat : Int) ≤ 90)) (q4 : ((48 : Int) ≤ (c.toNat : Int))) (q5 : (¬ (c.toNat : Int) ≤ 57)) (q6 : (((c.toNat : Int) == 95) = false)) (us : List Tok) (h2 : toks 0 (s ++ (⟨#[c]⟩ : ByteArray)).data.toList = .ok (⟨1, s.data.toList, 0⟩ :: us)) (hm : isName (s ++ (⟨#[c]⟩ : ByteArray)) = false) :
    Calls Tryd.prog 3 #[.string s, .int .u8 (c.toNat : Int)] w fun e w' => e = .returned (.bool true) ∧ Below w.heap.size w w' := by
  have c0 := fun W hL hT => alive W hL hT
  have hA : Hid (At w w) := ⟨Below.refl _ _, hW.1, hW.2⟩
  have cn := fun W hL => name_of s true hn W hL
  have c1 := fun W hT => read_ok s _ h1 W hT (by omega)
  have hX : (s ++ (⟨#[c]⟩ : ByteArray)).size ≤ 65536 := by rw [Lib.size_eq, cat1, List.length_append, ← Lib.size_eq]; simp; omega
  have c2 := fun W hT => read_ok (s ++ (⟨#[c]⟩ : ByteArray)) _ h2 W hT hX
  have cm := fun W hL => name_of (s ++ (⟨#[c]⟩ : ByteArray)) false hm W hL
  have h1' : ¬ (1000 : Int) < (s.size : Int) := by omega
  have h2' : ¬ (40 : Int) < (s.size : Int) := by omega
  clear hW hn h1 h2 hm hs hX
  go_enter Tryd.func3, Tryd.ntmps3
  go_wp2_with (first
    | (go_at_call 5; refine (c0 _ hA.out.laid hA.out.tab).mono ?_; rintro e w1 ⟨rfl, hb1⟩; have A1 := hid (hA.out.step hb1); clear hb1 c0)
    | (go_at_call 6; refine (cn _ A1.out.laid).mono ?_; rintro e w2 ⟨rfl, hb2⟩; have A2 := hid (A1.out.step hb2); clear hb2 cn)
    | (go_at_call 7; refine (c1 _ A2.out.tab).mono ?_; rintro e w3 ⟨va, rfl, ho3, hb3⟩; have hcv := conv_one c w3; obtain ⟨ao, cao, rfl⟩ := own_form' ho3; obtain ⟨_, g, rfl, x0, x1, x2⟩ := first_tok (TokAt.of_own ho3); have Bn := (Below.refl w3.heap.size w3).alloc (Nat.le_refl _) (.cells #[.int .u8 (c.toNat : Int)] 5); have A3 := hid ((A2.out.step hb3).step Bn); have X0 := hid x0; have X1 := hid x1; have X2 := hid x2; clear hb3 c1 ho3 x0 x1 x2 Bn)
    | (go_at_call 7; refine (c2 _ A3.out.tab).mono ?_; rintro e w4 ⟨vb, rfl, ho4, hb4⟩; obtain ⟨bo, cbo, rfl⟩ := own_form' ho4; obtain ⟨_, g2, rfl, z0, z1, z2⟩ := first_tok (TokAt.of_own ho4); have A4 := hid (A3.out.step hb4); have y0 := keepc X0.out hb4; have y1 := keepc X1.out hb4; have y2 := keepc X2.out hb4; clear hb4 c2 X0 X1 X2 ho4)
    | (go_at_call 6; refine (cm _ A4.out.laid).mono ?_; rintro e w5 ⟨rfl, hb5⟩; have A5 := hid (A4.out.step hb5); first | (have zz1 := keepm z1 hb5; clear z1 z0 z2 hb5 cm) | clear hb5 cm))
  go_ret
  exact ⟨rfl, A5.out.below⟩
set_option maxRecDepth 100000 in
set_option maxHeartbeats 2000000 in
theorem words_C3_bad (s : ByteArray) (c : UInt8) (w : World) (hW : Laid w ∧ TabS w) (hs : s.size ≤ 40) (hn : isName s = true) (h1 : toks 0 s.data.toList = .ok [⟨1, s.data.toList, 0⟩]) (q0 : (¬ (97 : Int) ≤ (c.toNat : Int))) (q1 : ((65 : Int) ≤ (c.toNat : Int))) (q2 : (¬ (c.toNat : Int) ≤ 90)) (q3 : ((48 : Int) ≤ (c.toNat : Int))) (q4 : (¬ (c.toNat : Int) ≤ 57)) (q5 : (((c.toNat : Int) == 95) = false)) (a : Nat) (h2 : toks 0 (s ++ (⟨#[c]⟩ : ByteArray)).data.toList = .error a) (hm : isName (s ++ (⟨#[c]⟩ : ByteArray)) = false) :
    Calls Tryd.prog 3 #[.string s, .int .u8 (c.toNat : Int)] w fun e w' => e = .returned (.bool true) ∧ Below w.heap.size w w' := by
  have c0 := fun W hL hT => alive W hL hT
  have hA : Hid (At w w) := ⟨Below.refl _ _, hW.1, hW.2⟩
  have cn := fun W hL => name_of s true hn W hL
  have c1 := fun W hT => read_ok s _ h1 W hT (by omega)
  have hX : (s ++ (⟨#[c]⟩ : ByteArray)).size ≤ 65536 := by rw [Lib.size_eq, cat1, List.length_append, ← Lib.size_eq]; simp; omega
  have c2 := fun W hT => read_bad (s ++ (⟨#[c]⟩ : ByteArray)) _ h2 W hT hX
  have cm := fun W hL => name_of (s ++ (⟨#[c]⟩ : ByteArray)) false hm W hL
  have h1' : ¬ (1000 : Int) < (s.size : Int) := by omega
  have h2' : ¬ (40 : Int) < (s.size : Int) := by omega
  clear hW hn h1 h2 hm hs hX
  go_enter Tryd.func3, Tryd.ntmps3
  go_wp2_with (first
    | (go_at_call 5; refine (c0 _ hA.out.laid hA.out.tab).mono ?_; rintro e w1 ⟨rfl, hb1⟩; have A1 := hid (hA.out.step hb1); clear hb1 c0)
    | (go_at_call 6; refine (cn _ A1.out.laid).mono ?_; rintro e w2 ⟨rfl, hb2⟩; have A2 := hid (A1.out.step hb2); clear hb2 cn)
    | (go_at_call 7; refine (c1 _ A2.out.tab).mono ?_; rintro e w3 ⟨va, rfl, ho3, hb3⟩; have hcv := conv_one c w3; obtain ⟨ao, cao, rfl⟩ := own_form' ho3; obtain ⟨_, g, rfl, x0, x1, x2⟩ := first_tok (TokAt.of_own ho3); have Bn := (Below.refl w3.heap.size w3).alloc (Nat.le_refl _) (.cells #[.int .u8 (c.toNat : Int)] 5); have A3 := hid ((A2.out.step hb3).step Bn); have X0 := hid x0; have X1 := hid x1; have X2 := hid x2; clear hb3 c1 ho3 x0 x1 x2 Bn)
    | (go_at_call 7; refine (c2 _ A3.out.tab).mono ?_; rintro e w4 ⟨rfl, hb4⟩; have A4 := hid (A3.out.step hb4); have y0 := keepc X0.out hb4; have y1 := keepc X1.out hb4; have y2 := keepc X2.out hb4; clear hb4 c2 X0 X1 X2)
    | (go_at_call 6; refine (cm _ A4.out.laid).mono ?_; rintro e w5 ⟨rfl, hb5⟩; have A5 := hid (A4.out.step hb5); first | (have zz1 := keepm z1 hb5; clear z1 z0 z2 hb5 cm) | clear hb5 cm))
  go_ret
  exact ⟨rfl, A5.out.below⟩
set_option maxRecDepth 100000 in
set_option maxHeartbeats 2000000 in
theorem words_C3_ok (s : ByteArray) (c : UInt8) (w : World) (hW : Laid w ∧ TabS w) (hs : s.size ≤ 40) (hn : isName s = true) (h1 : toks 0 s.data.toList = .ok [⟨1, s.data.toList, 0⟩]) (q0 : (¬ (97 : Int) ≤ (c.toNat : Int))) (q1 : ((65 : Int) ≤ (c.toNat : Int))) (q2 : (¬ (c.toNat : Int) ≤ 90)) (q3 : ((48 : Int) ≤ (c.toNat : Int))) (q4 : (¬ (c.toNat : Int) ≤ 57)) (q5 : (((c.toNat : Int) == 95) = false)) (us : List Tok) (h2 : toks 0 (s ++ (⟨#[c]⟩ : ByteArray)).data.toList = .ok (⟨1, s.data.toList, 0⟩ :: us)) (hm : isName (s ++ (⟨#[c]⟩ : ByteArray)) = false) :
    Calls Tryd.prog 3 #[.string s, .int .u8 (c.toNat : Int)] w fun e w' => e = .returned (.bool true) ∧ Below w.heap.size w w' := by
  have c0 := fun W hL hT => alive W hL hT
  have hA : Hid (At w w) := ⟨Below.refl _ _, hW.1, hW.2⟩
  have cn := fun W hL => name_of s true hn W hL
  have c1 := fun W hT => read_ok s _ h1 W hT (by omega)
  have hX : (s ++ (⟨#[c]⟩ : ByteArray)).size ≤ 65536 := by rw [Lib.size_eq, cat1, List.length_append, ← Lib.size_eq]; simp; omega
  have c2 := fun W hT => read_ok (s ++ (⟨#[c]⟩ : ByteArray)) _ h2 W hT hX
  have cm := fun W hL => name_of (s ++ (⟨#[c]⟩ : ByteArray)) false hm W hL
  have h1' : ¬ (1000 : Int) < (s.size : Int) := by omega
  have h2' : ¬ (40 : Int) < (s.size : Int) := by omega
  clear hW hn h1 h2 hm hs hX
  go_enter Tryd.func3, Tryd.ntmps3
  go_wp2_with (first
    | (go_at_call 5; refine (c0 _ hA.out.laid hA.out.tab).mono ?_; rintro e w1 ⟨rfl, hb1⟩; have A1 := hid (hA.out.step hb1); clear hb1 c0)
    | (go_at_call 6; refine (cn _ A1.out.laid).mono ?_; rintro e w2 ⟨rfl, hb2⟩; have A2 := hid (A1.out.step hb2); clear hb2 cn)
    | (go_at_call 7; refine (c1 _ A2.out.tab).mono ?_; rintro e w3 ⟨va, rfl, ho3, hb3⟩; have hcv := conv_one c w3; obtain ⟨ao, cao, rfl⟩ := own_form' ho3; obtain ⟨_, g, rfl, x0, x1, x2⟩ := first_tok (TokAt.of_own ho3); have Bn := (Below.refl w3.heap.size w3).alloc (Nat.le_refl _) (.cells #[.int .u8 (c.toNat : Int)] 5); have A3 := hid ((A2.out.step hb3).step Bn); have X0 := hid x0; have X1 := hid x1; have X2 := hid x2; clear hb3 c1 ho3 x0 x1 x2 Bn)
    | (go_at_call 7; refine (c2 _ A3.out.tab).mono ?_; rintro e w4 ⟨vb, rfl, ho4, hb4⟩; obtain ⟨bo, cbo, rfl⟩ := own_form' ho4; obtain ⟨_, g2, rfl, z0, z1, z2⟩ := first_tok (TokAt.of_own ho4); have A4 := hid (A3.out.step hb4); have y0 := keepc X0.out hb4; have y1 := keepc X1.out hb4; have y2 := keepc X2.out hb4; clear hb4 c2 X0 X1 X2 ho4)
    | (go_at_call 6; refine (cm _ A4.out.laid).mono ?_; rintro e w5 ⟨rfl, hb5⟩; have A5 := hid (A4.out.step hb5); first | (have zz1 := keepm z1 hb5; clear z1 z0 z2 hb5 cm) | clear hb5 cm))
  go_ret
  exact ⟨rfl, A5.out.below⟩
set_option maxRecDepth 100000 in
set_option maxHeartbeats 2000000 in
theorem words_C5_bad (s : ByteArray) (c : UInt8) (w : World) (hW : Laid w ∧ TabS w) (hs : s.size ≤ 40) (hn : isName s = true) (h1 : toks 0 s.data.toList = .ok [⟨1, s.data.toList, 0⟩]) (q0 : (¬ (97 : Int) ≤ (c.toNat : Int))) (q1 : (¬ (65 : Int) ≤ (c.toNat : Int))) (q2 : ((48 : Int) ≤ (c.toNat : Int))) (q3 : (¬ (c.toNat : Int) ≤ 57)) (q4 : (((c.toNat : Int) == 95) = false)) (a : Nat) (h2 : toks 0 (s ++ (⟨#[c]⟩ : ByteArray)).data.toList = .error a) (hm : isName (s ++ (⟨#[c]⟩ : ByteArray)) = false) :
    Calls Tryd.prog 3 #[.string s, .int .u8 (c.toNat : Int)] w fun e w' => e = .returned (.bool true) ∧ Below w.heap.size w w' := by
  have c0 := fun W hL hT => alive W hL hT
  have hA : Hid (At w w) := ⟨Below.refl _ _, hW.1, hW.2⟩
  have cn := fun W hL => name_of s true hn W hL
  have c1 := fun W hT => read_ok s _ h1 W hT (by omega)
  have hX : (s ++ (⟨#[c]⟩ : ByteArray)).size ≤ 65536 := by rw [Lib.size_eq, cat1, List.length_append, ← Lib.size_eq]; simp; omega
  have c2 := fun W hT => read_bad (s ++ (⟨#[c]⟩ : ByteArray)) _ h2 W hT hX
  have cm := fun W hL => name_of (s ++ (⟨#[c]⟩ : ByteArray)) false hm W hL
  have h1' : ¬ (1000 : Int) < (s.size : Int) := by omega
  have h2' : ¬ (40 : Int) < (s.size : Int) := by omega
  clear hW hn h1 h2 hm hs hX
  go_enter Tryd.func3, Tryd.ntmps3
  go_wp2_with (first
    | (go_at_call 5; refine (c0 _ hA.out.laid hA.out.tab).mono ?_; rintro e w1 ⟨rfl, hb1⟩; have A1 := hid (hA.out.step hb1); clear hb1 c0)
    | (go_at_call 6; refine (cn _ A1.out.laid).mono ?_; rintro e w2 ⟨rfl, hb2⟩; have A2 := hid (A1.out.step hb2); clear hb2 cn)
    | (go_at_call 7; refine (c1 _ A2.out.tab).mono ?_; rintro e w3 ⟨va, rfl, ho3, hb3⟩; have hcv := conv_one c w3; obtain ⟨ao, cao, rfl⟩ := own_form' ho3; obtain ⟨_, g, rfl, x0, x1, x2⟩ := first_tok (TokAt.of_own ho3); have Bn := (Below.refl w3.heap.size w3).alloc (Nat.le_refl _) (.cells #[.int .u8 (c.toNat : Int)] 5); have A3 := hid ((A2.out.step hb3).step Bn); have X0 := hid x0; have X1 := hid x1; have X2 := hid x2; clear hb3 c1 ho3 x0 x1 x2 Bn)
    | (go_at_call 7; refine (c2 _ A3.out.tab).mono ?_; rintro e w4 ⟨rfl, hb4⟩; have A4 := hid (A3.out.step hb4); have y0 := keepc X0.out hb4; have y1 := keepc X1.out hb4; have y2 := keepc X2.out hb4; clear hb4 c2 X0 X1 X2)
    | (go_at_call 6; refine (cm _ A4.out.laid).mono ?_; rintro e w5 ⟨rfl, hb5⟩; have A5 := hid (A4.out.step hb5); first | (have zz1 := keepm z1 hb5; clear z1 z0 z2 hb5 cm) | clear hb5 cm))
  go_ret
  exact ⟨rfl, A5.out.below⟩
set_option maxRecDepth 100000 in
set_option maxHeartbeats 2000000 in
theorem words_C5_ok (s : ByteArray) (c : UInt8) (w : World) (hW : Laid w ∧ TabS w) (hs : s.size ≤ 40) (hn : isName s = true) (h1 : toks 0 s.data.toList = .ok [⟨1, s.data.toList, 0⟩]) (q0 : (¬ (97 : Int) ≤ (c.toNat : Int))) (q1 : (¬ (65 : Int) ≤ (c.toNat : Int))) (q2 : ((48 : Int) ≤ (c.toNat : Int))) (q3 : (¬ (c.toNat : Int) ≤ 57)) (q4 : (((c.toNat : Int) == 95) = false)) (us : List Tok) (h2 : toks 0 (s ++ (⟨#[c]⟩ : ByteArray)).data.toList = .ok (⟨1, s.data.toList, 0⟩ :: us)) (hm : isName (s ++ (⟨#[c]⟩ : ByteArray)) = false) :
    Calls Tryd.prog 3 #[.string s, .int .u8 (c.toNat : Int)] w fun e w' => e = .returned (.bool true) ∧ Below w.heap.size w w' := by
  have c0 := fun W hL hT => alive W hL hT
  have hA : Hid (At w w) := ⟨Below.refl _ _, hW.1, hW.2⟩
  have cn := fun W hL => name_of s true hn W hL
  have c1 := fun W hT => read_ok s _ h1 W hT (by omega)
  have hX : (s ++ (⟨#[c]⟩ : ByteArray)).size ≤ 65536 := by rw [Lib.size_eq, cat1, List.length_append, ← Lib.size_eq]; simp; omega
  have c2 := fun W hT => read_ok (s ++ (⟨#[c]⟩ : ByteArray)) _ h2 W hT hX
  have cm := fun W hL => name_of (s ++ (⟨#[c]⟩ : ByteArray)) false hm W hL
  have h1' : ¬ (1000 : Int) < (s.size : Int) := by omega
  have h2' : ¬ (40 : Int) < (s.size : Int) := by omega
  clear hW hn h1 h2 hm hs hX
  go_enter Tryd.func3, Tryd.ntmps3
  go_wp2_with (first
    | (go_at_call 5; refine (c0 _ hA.out.laid hA.out.tab).mono ?_; rintro e w1 ⟨rfl, hb1⟩; have A1 := hid (hA.out.step hb1); clear hb1 c0)
    | (go_at_call 6; refine (cn _ A1.out.laid).mono ?_; rintro e w2 ⟨rfl, hb2⟩; have A2 := hid (A1.out.step hb2); clear hb2 cn)
    | (go_at_call 7; refine (c1 _ A2.out.tab).mono ?_; rintro e w3 ⟨va, rfl, ho3, hb3⟩; have hcv := conv_one c w3; obtain ⟨ao, cao, rfl⟩ := own_form' ho3; obtain ⟨_, g, rfl, x0, x1, x2⟩ := first_tok (TokAt.of_own ho3); have Bn := (Below.refl w3.heap.size w3).alloc (Nat.le_refl _) (.cells #[.int .u8 (c.toNat : Int)] 5); have A3 := hid ((A2.out.step hb3).step Bn); have X0 := hid x0; have X1 := hid x1; have X2 := hid x2; clear hb3 c1 ho3 x0 x1 x2 Bn)
    | (go_at_call 7; refine (c2 _ A3.out.tab).mono ?_; rintro e w4 ⟨vb, rfl, ho4, hb4⟩; obtain ⟨bo, cbo, rfl⟩ := own_form' ho4; obtain ⟨_, g2, rfl, z0, z1, z2⟩ := first_tok (TokAt.of_own ho4); have A4 := hid (A3.out.step hb4); have y0 := keepc X0.out hb4; have y1 := keepc X1.out hb4; have y2 := keepc X2.out hb4; clear hb4 c2 X0 X1 X2 ho4)
    | (go_at_call 6; refine (cm _ A4.out.laid).mono ?_; rintro e w5 ⟨rfl, hb5⟩; have A5 := hid (A4.out.step hb5); first | (have zz1 := keepm z1 hb5; clear z1 z0 z2 hb5 cm) | clear hb5 cm))
  go_ret
  exact ⟨rfl, A5.out.below⟩
set_option maxRecDepth 100000 in
set_option maxHeartbeats 2000000 in
theorem words_C6_bad (s : ByteArray) (c : UInt8) (w : World) (hW : Laid w ∧ TabS w) (hs : s.size ≤ 40) (hn : isName s = true) (h1 : toks 0 s.data.toList = .ok [⟨1, s.data.toList, 0⟩]) (q0 : (¬ (97 : Int) ≤ (c.toNat : Int))) (q1 : (¬ (65 : Int) ≤ (c.toNat : Int))) (q2 : (¬ (48 : Int) ≤ (c.toNat : Int))) (q3 : (((c.toNat : Int) == 95) = false)) (a : Nat) (h2 : toks 0 (s ++ (⟨#[c]⟩ : ByteArray)).data.toList = .error a) (hm : isName (s ++ (⟨#[c]⟩ : ByteArray)) = false) :
    Calls Tryd.prog 3 #[.string s, .int .u8 (c.toNat : Int)] w fun e w' => e = .returned (.bool true) ∧ Below w.heap.size w w' := by
  have c0 := fun W hL hT => alive W hL hT
  have hA : Hid (At w w) := ⟨Below.refl _ _, hW.1, hW.2⟩
  have cn := fun W hL => name_of s true hn W hL
  have c1 := fun W hT => read_ok s _ h1 W hT (by omega)
  have hX : (s ++ (⟨#[c]⟩ : ByteArray)).size ≤ 65536 := by rw [Lib.size_eq, cat1, List.length_append, ← Lib.size_eq]; simp; omega
  have c2 := fun W hT => read_bad (s ++ (⟨#[c]⟩ : ByteArray)) _ h2 W hT hX
  have cm := fun W hL => name_of (s ++ (⟨#[c]⟩ : ByteArray)) false hm W hL
  have h1' : ¬ (1000 : Int) < (s.size : Int) := by omega
  have h2' : ¬ (40 : Int) < (s.size : Int) := by omega
  clear hW hn h1 h2 hm hs hX
  go_enter Tryd.func3, Tryd.ntmps3
  go_wp2_with (first
    | (go_at_call 5; refine (c0 _ hA.out.laid hA.out.tab).mono ?_; rintro e w1 ⟨rfl, hb1⟩; have A1 := hid (hA.out.step hb1); clear hb1 c0)
    | (go_at_call 6; refine (cn _ A1.out.laid).mono ?_; rintro e w2 ⟨rfl, hb2⟩; have A2 := hid (A1.out.step hb2); clear hb2 cn)
    | (go_at_call 7; refine (c1 _ A2.out.tab).mono ?_; rintro e w3 ⟨va, rfl, ho3, hb3⟩; have hcv := conv_one c w3; obtain ⟨ao, cao, rfl⟩ := own_form' ho3; obtain ⟨_, g, rfl, x0, x1, x2⟩ := first_tok (TokAt.of_own ho3); have Bn := (Below.refl w3.heap.size w3).alloc (Nat.le_refl _) (.cells #[.int .u8 (c.toNat : Int)] 5); have A3 := hid ((A2.out.step hb3).step Bn); have X0 := hid x0; have X1 := hid x1; have X2 := hid x2; clear hb3 c1 ho3 x0 x1 x2 Bn)
    | (go_at_call 7; refine (c2 _ A3.out.tab).mono ?_; rintro e w4 ⟨rfl, hb4⟩; have A4 := hid (A3.out.step hb4); have y0 := keepc X0.out hb4; have y1 := keepc X1.out hb4; have y2 := keepc X2.out hb4; clear hb4 c2 X0 X1 X2)
    | (go_at_call 6; refine (cm _ A4.out.laid).mono ?_; rintro e w5 ⟨rfl, hb5⟩; have A5 := hid (A4.out.step hb5); first | (have zz1 := keepm z1 hb5; clear z1 z0 z2 hb5 cm) | clear hb5 cm))
  go_ret
  exact ⟨rfl, A5.out.below⟩
set_option maxRecDepth 100000 in
set_option maxHeartbeats 2000000 in
theorem words_C6_ok (s : ByteArray) (c : UInt8) (w : World) (hW : Laid w ∧ TabS w) (hs : s.size ≤ 40) (hn : isName s = true) (h1 : toks 0 s.data.toList = .ok [⟨1, s.data.toList, 0⟩]) (q0 : (¬ (97 : Int) ≤ (c.toNat : Int))) (q1 : (¬ (65 : Int) ≤ (c.toNat : Int))) (q2 : (¬ (48 : Int) ≤ (c.toNat : Int))) (q3 : (((c.toNat : Int) == 95) = false)) (us : List Tok) (h2 : toks 0 (s ++ (⟨#[c]⟩ : ByteArray)).data.toList = .ok (⟨1, s.data.toList, 0⟩ :: us)) (hm : isName (s ++ (⟨#[c]⟩ : ByteArray)) = false) :
    Calls Tryd.prog 3 #[.string s, .int .u8 (c.toNat : Int)] w fun e w' => e = .returned (.bool true) ∧ Below w.heap.size w w' := by
  have c0 := fun W hL hT => alive W hL hT
  have hA : Hid (At w w) := ⟨Below.refl _ _, hW.1, hW.2⟩
  have cn := fun W hL => name_of s true hn W hL
  have c1 := fun W hT => read_ok s _ h1 W hT (by omega)
  have hX : (s ++ (⟨#[c]⟩ : ByteArray)).size ≤ 65536 := by rw [Lib.size_eq, cat1, List.length_append, ← Lib.size_eq]; simp; omega
  have c2 := fun W hT => read_ok (s ++ (⟨#[c]⟩ : ByteArray)) _ h2 W hT hX
  have cm := fun W hL => name_of (s ++ (⟨#[c]⟩ : ByteArray)) false hm W hL
  have h1' : ¬ (1000 : Int) < (s.size : Int) := by omega
  have h2' : ¬ (40 : Int) < (s.size : Int) := by omega
  clear hW hn h1 h2 hm hs hX
  go_enter Tryd.func3, Tryd.ntmps3
  go_wp2_with (first
    | (go_at_call 5; refine (c0 _ hA.out.laid hA.out.tab).mono ?_; rintro e w1 ⟨rfl, hb1⟩; have A1 := hid (hA.out.step hb1); clear hb1 c0)
    | (go_at_call 6; refine (cn _ A1.out.laid).mono ?_; rintro e w2 ⟨rfl, hb2⟩; have A2 := hid (A1.out.step hb2); clear hb2 cn)
    | (go_at_call 7; refine (c1 _ A2.out.tab).mono ?_; rintro e w3 ⟨va, rfl, ho3, hb3⟩; have hcv := conv_one c w3; obtain ⟨ao, cao, rfl⟩ := own_form' ho3; obtain ⟨_, g, rfl, x0, x1, x2⟩ := first_tok (TokAt.of_own ho3); have Bn := (Below.refl w3.heap.size w3).alloc (Nat.le_refl _) (.cells #[.int .u8 (c.toNat : Int)] 5); have A3 := hid ((A2.out.step hb3).step Bn); have X0 := hid x0; have X1 := hid x1; have X2 := hid x2; clear hb3 c1 ho3 x0 x1 x2 Bn)
    | (go_at_call 7; refine (c2 _ A3.out.tab).mono ?_; rintro e w4 ⟨vb, rfl, ho4, hb4⟩; obtain ⟨bo, cbo, rfl⟩ := own_form' ho4; obtain ⟨_, g2, rfl, z0, z1, z2⟩ := first_tok (TokAt.of_own ho4); have A4 := hid (A3.out.step hb4); have y0 := keepc X0.out hb4; have y1 := keepc X1.out hb4; have y2 := keepc X2.out hb4; clear hb4 c2 X0 X1 X2 ho4)
    | (go_at_call 6; refine (cm _ A4.out.laid).mono ?_; rintro e w5 ⟨rfl, hb5⟩; have A5 := hid (A4.out.step hb5); first | (have zz1 := keepm z1 hb5; clear z1 z0 z2 hb5 cm) | clear hb5 cm))
  go_ret
  exact ⟨rfl, A5.out.below⟩
theorem ofWord_iff (c : UInt8) : ofWord c = true ↔ (97 ≤ c.toNat ∧ c.toNat ≤ 122) ∨ (65 ≤ c.toNat ∧ c.toNat ≤ 90) ∨ (48 ≤ c.toNat ∧ c.toNat ≤ 57) ∨ c.toNat = 95 := by
  unfold ofWord letter digit
  simp
  omega
/-- The walk: the Go text of the law returns true and turns nothing that was there. -/
theorem walk3 (s : ByteArray) (n : Nat) (w : World) (hW : Laid w ∧ TabS w) (hn8 : n < 256) :
    Calls Tryd.prog 3 #[.string s, .int .u8 (n : Int)] w fun e w' => e = .returned (.bool true) ∧ Below w.heap.size w w' := by
  obtain ⟨c, rfl⟩ : ∃ c : UInt8, c.toNat = n := ⟨UInt8.ofNat n, UInt8.toNat_ofNat_of_lt' hn8⟩
  by_cases h : s.size ≤ 1000
  · cases hn : isName s with
    | false => exact words_not s c w hW h hn
    | true =>
      obtain ⟨hp, hs, hw⟩ := name_true hn
      have h0 : s.data.toList ≠ [] := by intro e; rw [Lib.size_eq, e] at hp; simp at hp
      rw [Lib.size_eq] at hw
      have h1 := toks_word 0 h0 hw
      have hw2 := wordLen_more c h0 hw
      have hsz : (s ++ (⟨#[c]⟩ : ByteArray)).size = s.size + 1 := by rw [Lib.size_eq, cat1, List.length_append, ← Lib.size_eq]; rfl
      cases hc : ofWord c with
      | true =>
        rw [hc, if_pos rfl] at hw2
        have h2 : toks 0 (s ++ (⟨#[c]⟩ : ByteArray)).data.toList = .ok [⟨1, (s ++ (⟨#[c]⟩ : ByteArray)).data.toList, 0⟩] := toks_word 0 (by rw [cat1]; simp) (by rw [cat1, hw2]; simp)
        have hmm : isName (s ++ (⟨#[c]⟩ : ByteArray)) = true → s.size < 40 := fun e => by have := (name_true e).2.1; omega
        rcases (ofWord_iff c).1 hc with q | q | q | q
        · exact words_A_yes s c w hW hs hn h1 (by omega) (by omega) h2 _ rfl hmm
        · exact words_C1_yes s c w hW hs hn h1 (by omega) (by omega) (by omega) h2 _ rfl hmm
        · exact words_C4_yes s c w hW hs hn h1 (by omega) (by omega) (by omega) (by omega) h2 _ rfl hmm
        · exact words_C2_yes s c w hW hs hn h1 (by omega) (by omega) (by omega) (by omega) (by omega) (by simp; omega) h2 _ rfl hmm
      | false =>
        rw [hc, if_neg (by simp)] at hw2
        have hm : isName (s ++ (⟨#[c]⟩ : ByteArray)) = false := name_false_of fun _ e => by rw [cat1, hw2, hsz, ← Lib.size_eq] at e; omega
        have hno : ¬ ((97 ≤ c.toNat ∧ c.toNat ≤ 122) ∨ (65 ≤ c.toNat ∧ c.toNat ≤ 90) ∨ (48 ≤ c.toNat ∧ c.toNat ≤ 57) ∨ c.toNat = 95) := fun e => by rw [(ofWord_iff c).2 e] at hc; cases hc
        have q95 : ((c.toNat : Int) == 95) = false := by simp; omega
        have hcase := toks_more_no c h0 hw hc
        rw [← cat1] at hcase
        rcases hcase with ⟨a, h2⟩ | ⟨us, h2⟩
        · by_cases q1 : 97 ≤ c.toNat
          · exact words_B_bad s c w hW hs hn h1 (by omega) (by omega) (by omega) (by omega) (by omega) (by omega) q95 a h2 hm
          · by_cases q2 : 65 ≤ c.toNat
            · exact words_C3_bad s c w hW hs hn h1 (by omega) (by omega) (by omega) (by omega) (by omega) q95 a h2 hm
            · by_cases q3 : 48 ≤ c.toNat
              · exact words_C5_bad s c w hW hs hn h1 (by omega) (by omega) (by omega) (by omega) q95 a h2 hm
              · exact words_C6_bad s c w hW hs hn h1 (by omega) (by omega) (by omega) q95 a h2 hm
        · by_cases q1 : 97 ≤ c.toNat
          · exact words_B_ok s c w hW hs hn h1 (by omega) (by omega) (by omega) (by omega) (by omega) (by omega) q95 us h2 hm
          · by_cases q2 : 65 ≤ c.toNat
            · exact words_C3_ok s c w hW hs hn h1 (by omega) (by omega) (by omega) (by omega) (by omega) q95 us h2 hm
            · by_cases q3 : 48 ≤ c.toNat
              · exact words_C5_ok s c w hW hs hn h1 (by omega) (by omega) (by omega) (by omega) q95 us h2 hm
              · exact words_C6_ok s c w hW hs hn h1 (by omega) (by omega) (by omega) q95 us h2 hm
  · exact words_big s c w hW (by omega)
end Go.Proofs.YtafelijlolidhabDoor.Lex
namespace Go.Proofs.YtafelijlolidhabDoor.Lex7
theorem nat_c {n : Int} (h : (Lit.int .u8 n).wf = true) : ∃ k : Nat, k < 256 ∧ n = (k : Int) := by
  simp [Lit.wf, IntKind.min, IntKind.max, IntKind.signed, IntKind.bits] at h
  exact ⟨n.toNat, by omega, by omega⟩
end Go.Proofs.YtafelijlolidhabDoor.Lex7
