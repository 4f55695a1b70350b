/-
  The contracts of the document's own written and part.
-/
import Derived.Test.YtkieljleopbhoaaDoorWrAny
import Derived.Test.YtkieljleopbhoaaDoorRCheck
namespace Go.Proofs.YtkieljleopbhoaaDoor.Lex
open Go.ChangeShapes Go.WideShapes Go.ChangeAt Go.RowKit Go.Joins
set_option linter.unusedVariables false
def RWrC (d : Nat) : Prop := ∀ (x : Ex) (w : World) (s : Value) (M k : Nat), M ≤ 200 → sz d M x = some k → St w x s → Calls Tryd.prog 26 #[exV x s] w fun e w' => e = .returned (.string ⟨(wr x).toArray⟩) ∧ Below w.heap.size w w'
def RPlC (d : Nat) : Prop := ∀ (x : Ex) (w : World) (s : Value) (M k asked : Nat), M ≤ 200 → asked ≤ 7 → sz d M x = some k → St w x s → Calls Tryd.prog 46 #[exV x s, .int .i64 (asked : Int)] w fun e w' => e = .returned (.string ⟨(put asked (rkOf x.op) (wr x)).toArray⟩) ∧ Below w.heap.size w w'
set_option maxRecDepth 100000 in
theorem rpl_of (d : Nat) (h : RWrC d) : RPlC d := by
  intro x w s M k asked hM hA hz hS
  obtain ⟨ao, cap, sl, rfl, _⟩ := hS.out
  have hl := wr_len d M x k w _ hz hS
  have hk := (sz_le _ _ _ _ hz).2
  have b1 := (Below.refl w.heap.size w).alloc (Nat.le_refl _) (.cells #[.int .u8 (x.op : Int), .int .i64 x.n, .string x.name, .slice ao x.args.length cap] 25)
  have cr := fun W => rank_any x.op W
  have cw := h x _ _ M k hM hz (hS.keep b1)
  have B1 := hid b1
  have bx := fun j v => box_at w #[.int .u8 (x.op : Int), .int .i64 x.n, .string x.name, .slice ao x.args.length cap] 25 j v
  obtain ⟨X, hX⟩ : ∃ X : ByteArray, (⟨(wr x).toArray⟩ : ByteArray) = X := ⟨_, rfl⟩
  have hXs : X.size ≤ 13000 := by rw [← hX, bsize]; omega
  unfold put
  clear hS hz hl hk b1 h
  by_cases hr : rkOf x.op < asked
  · have hr' : (rkOf x.op : Int) < (asked : Int) := by omega
    have HG : Hid ((⟨(40 :: (wr x ++ [41])).toArray⟩ : ByteArray) = (⟨#[40]⟩ : ByteArray) ++ X ++ (⟨#[41]⟩ : ByteArray)) := by
      unfold Hid
      rw [← hX]
      apply ByteArray.ext
      rw [ByteArray.data_append, ByteArray.data_append]
      simp
    rw [if_pos hr, HG.out]
    rw [hX] at cw
    clear hr HG hX
    generalize (rkOf x.op : Int) = R at *
    go_enter Tryd.func46, Tryd.ntmps46
    go_wp2_with (first
      | (go_at_call 26; refine cw.mono ?_; rintro e w2 ⟨rfl, hb2⟩; have y0 := cell_kept (bx 0 _ rfl) hb2; have B2 := hid (bstep B1.out hb2); clear hb2 bx cw)
      | (go_at_call 44; refine (cr _).mono ?_; rintro e w3 ⟨rfl, rfl⟩))
    go_ret
    exact ⟨rfl, B2.out⟩
  · have hr' : ¬ (rkOf x.op : Int) < (asked : Int) := by omega
    rw [if_neg hr, hX]
    rw [hX] at cw
    clear hr hX
    generalize (rkOf x.op : Int) = R at *
    go_enter Tryd.func46, Tryd.ntmps46
    go_wp2_with (first
      | (go_at_call 26; refine cw.mono ?_; rintro e w2 ⟨rfl, hb2⟩; have y0 := cell_kept (bx 0 _ rfl) hb2; have B2 := hid (bstep B1.out hb2); clear hb2 bx cw)
      | (go_at_call 44; refine (cr _).mono ?_; rintro e w3 ⟨rfl, rfl⟩))
    go_ret
    exact ⟨rfl, B2.out⟩
set_option maxRecDepth 100000 in
theorem rw_int (x : Ex) (w : World) (ao : Option Addr) (cap : Nat) (R : Int) (cr : ∀ W, Calls Tryd.prog 44 #[.int .u8 (x.op : Int)] W fun e w' => e = .returned (.int .i64 R) ∧ w' = W) (e1 : ((x.op : Int) == 1) = true) (u : Nat) (hu : x.n = (u : Int)) (h1 : u ≤ 9223372036854775807) :
    Calls Tryd.prog 26 #[exV x (.slice ao x.args.length cap)] w fun e w' => e = .returned (.string ⟨(Lib.decDigits u).toArray⟩) ∧ Below w.heap.size w w' := by
  have b1 := (Below.refl w.heap.size w).alloc (Nat.le_refl _) (.cells #[.int .u8 (x.op : Int), .int .i64 x.n, .string x.name, .slice ao x.args.length cap] 25)
  have c := fun W => digits u u (Nat.le_refl _) h1 W
  have B1 := hid b1
  rw [← hu] at c
  clear b1 hu
  go_enter Tryd.func26, Tryd.ntmps26
  go_wp2_with (first
    | (go_at_call 44; refine (cr _).mono ?_; rintro e w9 ⟨rfl, rfl⟩; clear cr)
    | (go_at_call 45; refine (c _).mono ?_; rintro e w2 ⟨rfl, k, rfl⟩))
  go_ret
  exact ⟨rfl, below_drewN B1.out k⟩
set_option maxRecDepth 100000 in
theorem rw_yes (x : Ex) (w : World) (ao : Option Addr) (cap : Nat) (R : Int) (cr : ∀ W, Calls Tryd.prog 44 #[.int .u8 (x.op : Int)] W fun e w' => e = .returned (.int .i64 R) ∧ w' = W) (e1 : ((x.op : Int) == 1) = false) (e2 : ((x.op : Int) == 2) = true) (h1 : (x.n == 1) = true) :
    Calls Tryd.prog 26 #[exV x (.slice ao x.args.length cap)] w fun e w' => e = .returned (.string ⟨#[116, 114, 117, 101]⟩) ∧ Below w.heap.size w w' := by
  go_enter Tryd.func26, Tryd.ntmps26
  go_wp2_with (go_at_call 44; refine (cr _).mono ?_; rintro e w9 ⟨rfl, rfl⟩; clear cr)
  go_ret
  exact ⟨rfl, (Below.refl _ _).alloc (Nat.le_refl _) _⟩
set_option maxRecDepth 100000 in
theorem rw_no (x : Ex) (w : World) (ao : Option Addr) (cap : Nat) (R : Int) (cr : ∀ W, Calls Tryd.prog 44 #[.int .u8 (x.op : Int)] W fun e w' => e = .returned (.int .i64 R) ∧ w' = W) (e1 : ((x.op : Int) == 1) = false) (e2 : ((x.op : Int) == 2) = true) (h1 : (x.n == 1) = false) :
    Calls Tryd.prog 26 #[exV x (.slice ao x.args.length cap)] w fun e w' => e = .returned (.string ⟨#[102, 97, 108, 115, 101]⟩) ∧ Below w.heap.size w w' := by
  go_enter Tryd.func26, Tryd.ntmps26
  go_wp2_with (go_at_call 44; refine (cr _).mono ?_; rintro e w9 ⟨rfl, rfl⟩; clear cr)
  go_ret
  exact ⟨rfl, (Below.refl _ _).alloc (Nat.le_refl _) _⟩
set_option maxRecDepth 100000 in
theorem rw_name (x : Ex) (w : World) (ao : Option Addr) (cap : Nat) (R : Int) (cr : ∀ W, Calls Tryd.prog 44 #[.int .u8 (x.op : Int)] W fun e w' => e = .returned (.int .i64 R) ∧ w' = W) (e1 : ((x.op : Int) == 1) = false) (e2 : ((x.op : Int) == 2) = false) (e3 : ((x.op : Int) == 3) = true) :
    Calls Tryd.prog 26 #[exV x (.slice ao x.args.length cap)] w fun e w' => e = .returned (.string x.name) ∧ Below w.heap.size w w' := by
  go_enter Tryd.func26, Tryd.ntmps26
  go_wp2_with (go_at_call 44; refine (cr _).mono ?_; rintro e w9 ⟨rfl, rfl⟩; clear cr)
  go_ret
  exact ⟨rfl, (Below.refl _ _).alloc (Nat.le_refl _) _⟩
set_option maxRecDepth 100000 in
theorem rw_not (x a : Ex) (w : World) (bb o cap : Nat) (ka : Option Addr) (ca : Nat) (R : Int) (cr : ∀ W, Calls Tryd.prog 44 #[.int .u8 (x.op : Int)] W fun e w' => e = .returned (.int .i64 R) ∧ w' = W) (e1 : ((x.op : Int) == 1) = false) (e2 : ((x.op : Int) == 2) = false) (e3 : ((x.op : Int) == 3) = false) (e17 : ((x.op : Int) == 17) = false) (e5 : ((x.op : Int) == 5) = true) (Y : ByteArray) (hY : Y.size ≤ 13100)  (hk : KidAt w bb o a ka ca)
    (c : ∀ W, Below w.heap.size w W → Calls Tryd.prog 46 #[exV a (.slice ka a.args.length ca), .int .i64 6] W fun e w' => e = .returned (.string Y) ∧ Below W.heap.size W w') :
    Calls Tryd.prog 26 #[exV x (.slice (some ⟨bb, o, none⟩) 1 cap)] w fun e w' => e = .returned (.string ((⟨#[110, 111, 116, 32]⟩ : ByteArray) ++ Y)) ∧ Below w.heap.size w w' := by
  have b1 := (Below.refl w.heap.size w).alloc (Nat.le_refl _) (.cells #[.int .u8 (x.op : Int), .int .i64 x.n, .string x.name, .slice (some ⟨bb, o, none⟩) 1 cap] 25)
  obtain ⟨v0, v1, v2, v3⟩ := hk.keep b1
  have B1 := hid b1
  clear hk b1
  go_enter Tryd.func26, Tryd.ntmps26
  go_wp2_with (first
    | (go_at_call 44; refine (cr _).mono ?_; rintro e w9 ⟨rfl, rfl⟩; clear cr)
    | (go_at_call 46; refine (c _ B1.out).mono ?_; rintro e w2 ⟨rfl, hb2⟩; have B2 := hid (bstep B1.out hb2); clear hb2 c))
  go_ret
  exact ⟨rfl, B2.out⟩
set_option maxRecDepth 100000 in
theorem rw_pre (x a : Ex) (w : World) (bb o cap : Nat) (ka : Option Addr) (ca : Nat) (R : Int) (cr : ∀ W, Calls Tryd.prog 44 #[.int .u8 (x.op : Int)] W fun e w' => e = .returned (.int .i64 R) ∧ w' = W) (e1 : ((x.op : Int) == 1) = false) (e2 : ((x.op : Int) == 2) = false) (e3 : ((x.op : Int) == 3) = false) (e17 : ((x.op : Int) == 17) = false) (e5 : ((x.op : Int) == 5) = false) (e19 : ((x.op : Int) == 19) = true) (Y : ByteArray) (hY : Y.size ≤ 13100)  (hk : KidAt w bb o a ka ca)
    (c : ∀ W, Below w.heap.size w W → Calls Tryd.prog 46 #[exV a (.slice ka a.args.length ca), .int .i64 6] W fun e w' => e = .returned (.string Y) ∧ Below W.heap.size W w') :
    Calls Tryd.prog 26 #[exV x (.slice (some ⟨bb, o, none⟩) 1 cap)] w fun e w' => e = .returned (.string ((⟨#[112, 114, 101, 32]⟩ : ByteArray) ++ Y)) ∧ Below w.heap.size w w' := by
  have b1 := (Below.refl w.heap.size w).alloc (Nat.le_refl _) (.cells #[.int .u8 (x.op : Int), .int .i64 x.n, .string x.name, .slice (some ⟨bb, o, none⟩) 1 cap] 25)
  obtain ⟨v0, v1, v2, v3⟩ := hk.keep b1
  have B1 := hid b1
  clear hk b1
  go_enter Tryd.func26, Tryd.ntmps26
  go_wp2_with (first
    | (go_at_call 44; refine (cr _).mono ?_; rintro e w9 ⟨rfl, rfl⟩; clear cr)
    | (go_at_call 46; refine (c _ B1.out).mono ?_; rintro e w2 ⟨rfl, hb2⟩; have B2 := hid (bstep B1.out hb2); clear hb2 c))
  go_ret
  exact ⟨rfl, B2.out⟩
set_option maxRecDepth 100000 in
theorem rw_neg2 (x a : Ex) (w : World) (bb o cap : Nat) (ka : Option Addr) (ca : Nat) (R : Int) (cr : ∀ W, Calls Tryd.prog 44 #[.int .u8 (x.op : Int)] W fun e w' => e = .returned (.int .i64 R) ∧ w' = W) (e1 : ((x.op : Int) == 1) = false) (e2 : ((x.op : Int) == 2) = false) (e3 : ((x.op : Int) == 3) = false) (e17 : ((x.op : Int) == 17) = false) (e5 : ((x.op : Int) == 5) = false) (e19 : ((x.op : Int) == 19) = false) (e4 : ((x.op : Int) == 4) = true) (Y : ByteArray) (hY : Y.size ≤ 13100) (h0 : 0 < Y.size) (y : UInt8) (hy : Y[0]'h0 = y) (hb : ((y.toNat : Int) == 45) = true) (hk : KidAt w bb o a ka ca)
    (c : ∀ W, Below w.heap.size w W → Calls Tryd.prog 46 #[exV a (.slice ka a.args.length ca), .int .i64 6] W fun e w' => e = .returned (.string Y) ∧ Below W.heap.size W w') :
    Calls Tryd.prog 26 #[exV x (.slice (some ⟨bb, o, none⟩) 1 cap)] w fun e w' => e = .returned (.string ((⟨#[45, 32]⟩ : ByteArray) ++ Y)) ∧ Below w.heap.size w w' := by
  have b1 := (Below.refl w.heap.size w).alloc (Nat.le_refl _) (.cells #[.int .u8 (x.op : Int), .int .i64 x.n, .string x.name, .slice (some ⟨bb, o, none⟩) 1 cap] 25)
  obtain ⟨v0, v1, v2, v3⟩ := hk.keep b1
  have B1 := hid b1
  have h0' : (0 : Int) < (Y.size : Int) := by omega
  clear hk b1
  go_enter Tryd.func26, Tryd.ntmps26
  go_wp2_with (first
    | (go_at_call 44; refine (cr _).mono ?_; rintro e w9 ⟨rfl, rfl⟩; clear cr)
    | (go_at_call 46; refine (c _ B1.out).mono ?_; rintro e w2 ⟨rfl, hb2⟩; have B2 := hid (bstep B1.out hb2); clear hb2 c))
  go_ret
  exact ⟨rfl, B2.out⟩
set_option maxRecDepth 100000 in
theorem rw_neg1 (x a : Ex) (w : World) (bb o cap : Nat) (ka : Option Addr) (ca : Nat) (R : Int) (cr : ∀ W, Calls Tryd.prog 44 #[.int .u8 (x.op : Int)] W fun e w' => e = .returned (.int .i64 R) ∧ w' = W) (e1 : ((x.op : Int) == 1) = false) (e2 : ((x.op : Int) == 2) = false) (e3 : ((x.op : Int) == 3) = false) (e17 : ((x.op : Int) == 17) = false) (e5 : ((x.op : Int) == 5) = false) (e19 : ((x.op : Int) == 19) = false) (e4 : ((x.op : Int) == 4) = true) (Y : ByteArray) (hY : Y.size ≤ 13100) (h0 : 0 < Y.size) (y : UInt8) (hy : Y[0]'h0 = y) (hb : ((y.toNat : Int) == 45) = false) (hk : KidAt w bb o a ka ca)
    (c : ∀ W, Below w.heap.size w W → Calls Tryd.prog 46 #[exV a (.slice ka a.args.length ca), .int .i64 6] W fun e w' => e = .returned (.string Y) ∧ Below W.heap.size W w') :
    Calls Tryd.prog 26 #[exV x (.slice (some ⟨bb, o, none⟩) 1 cap)] w fun e w' => e = .returned (.string ((⟨#[45]⟩ : ByteArray) ++ Y)) ∧ Below w.heap.size w w' := by
  have b1 := (Below.refl w.heap.size w).alloc (Nat.le_refl _) (.cells #[.int .u8 (x.op : Int), .int .i64 x.n, .string x.name, .slice (some ⟨bb, o, none⟩) 1 cap] 25)
  obtain ⟨v0, v1, v2, v3⟩ := hk.keep b1
  have B1 := hid b1
  have h0' : (0 : Int) < (Y.size : Int) := by omega
  clear hk b1
  go_enter Tryd.func26, Tryd.ntmps26
  go_wp2_with (first
    | (go_at_call 44; refine (cr _).mono ?_; rintro e w9 ⟨rfl, rfl⟩; clear cr)
    | (go_at_call 46; refine (c _ B1.out).mono ?_; rintro e w2 ⟨rfl, hb2⟩; have B2 := hid (bstep B1.out hb2); clear hb2 c))
  go_ret
  exact ⟨rfl, B2.out⟩
set_option maxRecDepth 100000 in
set_option maxHeartbeats 2000000 in
theorem rw_if (x a b c : Ex) (w : World) (bb o cap : Nat) (ka kb kc : Option Addr) (ca cb cc : Nat) (R : Int) (cr : ∀ W, Calls Tryd.prog 44 #[.int .u8 (x.op : Int)] W fun e w' => e = .returned (.int .i64 R) ∧ w' = W) (e1 : ((x.op : Int) == 1) = false) (e2 : ((x.op : Int) == 2) = false) (e3 : ((x.op : Int) == 3) = false) (e17 : ((x.op : Int) == 17) = true) (Y1 Y2 Y3 : ByteArray) (hY1 : Y1.size ≤ 13100) (hY2 : Y2.size ≤ 13100) (hY3 : Y3.size ≤ 13100)
    (hk : KidAt w bb o a ka ca ∧ KidAt w bb (o + 4) b kb cb ∧ KidAt w bb (o + 8) c kc cc)
    (c1 : ∀ W, Below w.heap.size w W → Calls Tryd.prog 46 #[exV a (.slice ka a.args.length ca), .int .i64 0] W fun e w' => e = .returned (.string Y1) ∧ Below W.heap.size W w')
    (c2 : ∀ W, Below w.heap.size w W → Calls Tryd.prog 46 #[exV b (.slice kb b.args.length cb), .int .i64 0] W fun e w' => e = .returned (.string Y2) ∧ Below W.heap.size W w')
    (c3 : ∀ W, Below w.heap.size w W → Calls Tryd.prog 46 #[exV c (.slice kc c.args.length cc), .int .i64 0] W fun e w' => e = .returned (.string Y3) ∧ Below W.heap.size W w') :
    Calls Tryd.prog 26 #[exV x (.slice (some ⟨bb, o, none⟩) 3 cap)] w fun e w' => e = .returned (.string ((⟨#[105, 102, 32]⟩ : ByteArray) ++ Y1 ++ (⟨#[32, 116, 104, 101, 110, 32]⟩ : ByteArray) ++ Y2 ++ (⟨#[32, 101, 108, 115, 101, 32]⟩ : ByteArray) ++ Y3)) ∧ Below w.heap.size w w' := by
  have b1 := (Below.refl w.heap.size w).alloc (Nat.le_refl _) (.cells #[.int .u8 (x.op : Int), .int .i64 x.n, .string x.name, .slice (some ⟨bb, o, none⟩) 3 cap] 25)
  have B1 := hid b1
  have X1 : (w.alloc (.cells #[.int .u8 (x.op : Int), .int .i64 x.n, .string x.name, .slice (some ⟨bb, o, none⟩) 3 cap] 25)).drew.cell? ⟨w.heap.size, 3, none⟩ = some (.slice (some ⟨bb, o, none⟩) 3 cap) := box_at w _ 25 3 _ rfl
  have hSH : ∀ W, Below w.heap.size w W → W.cell? ⟨w.heap.size, 3, none⟩ = some (.slice (some ⟨bb, o, none⟩) 3 cap) → W.cell? ⟨w.heap.size, 3, none⟩ = some (.slice (some ⟨bb, o, none⟩) 3 cap) ∧ (W.cell? ⟨bb, o, none⟩ = some (.int .u8 (a.op : Int)) ∧ W.cell? ⟨bb, o + 1, none⟩ = some (.int .i64 a.n) ∧ W.cell? ⟨bb, o + 2, none⟩ = some (.string a.name) ∧ W.cell? ⟨bb, o + 3, none⟩ = some (.slice ka a.args.length ca)) ∧ (W.cell? ⟨bb, o + 4, none⟩ = some (.int .u8 (b.op : Int)) ∧ W.cell? ⟨bb, o + 5, none⟩ = some (.int .i64 b.n) ∧ W.cell? ⟨bb, o + 6, none⟩ = some (.string b.name) ∧ W.cell? ⟨bb, o + 7, none⟩ = some (.slice kb b.args.length cb)) ∧ (W.cell? ⟨bb, o + 8, none⟩ = some (.int .u8 (c.op : Int)) ∧ W.cell? ⟨bb, o + 9, none⟩ = some (.int .i64 c.n) ∧ W.cell? ⟨bb, o + 10, none⟩ = some (.string c.name) ∧ W.cell? ⟨bb, o + 11, none⟩ = some (.slice kc c.args.length cc)) := fun W hb h => ⟨h, hk.1.keep hb, hk.2.1.keep hb, hk.2.2.keep hb⟩
  clear hk b1
  go_enter Tryd.func26, Tryd.ntmps26
  go_wp2_with (go_at_call 44; refine (cr _).mono ?_; rintro e w9 ⟨rfl, rfl⟩; clear cr)
  refine wp_region_held_drew (S := fun W => W.cell? ⟨w.heap.size, 3, none⟩ = some (.slice (some ⟨bb, o, none⟩) 3 cap) ∧ (W.cell? ⟨bb, o, none⟩ = some (.int .u8 (a.op : Int)) ∧ W.cell? ⟨bb, o + 1, none⟩ = some (.int .i64 a.n) ∧ W.cell? ⟨bb, o + 2, none⟩ = some (.string a.name) ∧ W.cell? ⟨bb, o + 3, none⟩ = some (.slice ka a.args.length ca)) ∧ (W.cell? ⟨bb, o + 4, none⟩ = some (.int .u8 (b.op : Int)) ∧ W.cell? ⟨bb, o + 5, none⟩ = some (.int .i64 b.n) ∧ W.cell? ⟨bb, o + 6, none⟩ = some (.string b.name) ∧ W.cell? ⟨bb, o + 7, none⟩ = some (.slice kb b.args.length cb)) ∧ (W.cell? ⟨bb, o + 8, none⟩ = some (.int .u8 (c.op : Int)) ∧ W.cell? ⟨bb, o + 9, none⟩ = some (.int .i64 c.n) ∧ W.cell? ⟨bb, o + 10, none⟩ = some (.string c.name) ∧ W.cell? ⟨bb, o + 11, none⟩ = some (.slice kc c.args.length cc))) (by kernel_rfl) ?_ (fun hHeld => ?_)
  · exact hSH _ B1.out.drew X1
  refine wpAnyH_take (i := 0) (oi := { dst := some 27, op := Go.Op.fieldAddr 25 (Go.Operand.tmp 1) 3, type := 0, pos := _, after := #[], guard := none }) (v := ?_) rfl (by kernel_rfl) (by kernel_rfl) (by kernel_rfl) (fun _ _ _ h => h) (Or.inl ⟨by rfl, ?_⟩) (by assumption) ?_
  rotate_left
  · intro w hSw; (try dsimp only at hSw); go_simp <;> first | with_reducible rfl | (rw [if_neg (by first | omega | (simp only [ByteArray.size_append] at *; omega))])
  simp only [Act.put, List.setIfInBounds_toArray, List.set_cons_zero, List.set_cons_succ]
  refine wpAnyH_take (i := 1) (oi := { dst := some 28, op := Go.Op.load 23 (Go.Operand.tmp 27), type := 23, pos := _, after := #[{ on := 0, ground := Go.Ground.data }], guard := none }) (v := ?_) rfl (by kernel_rfl) (by kernel_rfl) (by kernel_rfl) (fun _ _ _ h => h) (Or.inl ⟨by rfl, ?_⟩) (by assumption) ?_
  rotate_left
  · intro w hSw; (try dsimp only at hSw); go_simp <;> first | with_reducible rfl | (rw [if_neg (by first | omega | (simp only [ByteArray.size_append] at *; omega))])
  simp only [Act.put, List.setIfInBounds_toArray, List.set_cons_zero, List.set_cons_succ]
  refine wpAnyH_take (i := 2) (oi := { dst := some 29, op := Go.Op.indexAddr 23 (Go.Operand.tmp 28) (Go.Operand.const (Go.Value.int Go.IntKind.i64 0)), type := 0, pos := _, after := #[{ on := 1, ground := Go.Ground.data }], guard := none }) (v := ?_) rfl (by kernel_rfl) (by kernel_rfl) (by kernel_rfl) (fun _ _ _ h => h) (Or.inl ⟨by rfl, ?_⟩) (by assumption) ?_
  rotate_left
  · intro w hSw; (try dsimp only at hSw); go_simp <;> first | with_reducible rfl | (rw [if_neg (by first | omega | (simp only [ByteArray.size_append] at *; omega))])
  simp only [Act.put, List.setIfInBounds_toArray, List.set_cons_zero, List.set_cons_succ]
  refine wpAnyH_take (i := 3) (oi := { dst := some 30, op := Go.Op.load 25 (Go.Operand.tmp 29), type := 25, pos := _, after := #[{ on := 2, ground := Go.Ground.data }], guard := none }) (v := ?_) rfl (by kernel_rfl) (by kernel_rfl) (by kernel_rfl) (fun _ _ _ h => h) (Or.inl ⟨by rfl, ?_⟩) (by assumption) ?_
  rotate_left
  · intro w hSw; (try dsimp only at hSw); go_simp <;> first | with_reducible rfl | (rw [if_neg (by first | omega | (simp only [ByteArray.size_append] at *; omega))])
  simp only [Act.put, List.setIfInBounds_toArray, List.set_cons_zero, List.set_cons_succ]
  refine wpAnyH_take (i := 7) (oi := { dst := some 34, op := Go.Op.fieldAddr 25 (Go.Operand.tmp 1) 3, type := 0, pos := _, after := #[], guard := none }) (v := ?_) rfl (by kernel_rfl) (by kernel_rfl) (by kernel_rfl) (fun _ _ _ h => h) (Or.inl ⟨by rfl, ?_⟩) (by assumption) ?_
  rotate_left
  · intro w hSw; (try dsimp only at hSw); go_simp <;> first | with_reducible rfl | (rw [if_neg (by first | omega | (simp only [ByteArray.size_append] at *; omega))])
  simp only [Act.put, List.setIfInBounds_toArray, List.set_cons_zero, List.set_cons_succ]
  refine wpAnyH_take (i := 8) (oi := { dst := some 35, op := Go.Op.load 23 (Go.Operand.tmp 34), type := 23, pos := _, after := #[{ on := 7, ground := Go.Ground.data }], guard := none }) (v := ?_) rfl (by kernel_rfl) (by kernel_rfl) (by kernel_rfl) (fun _ _ _ h => h) (Or.inl ⟨by rfl, ?_⟩) (by assumption) ?_
  rotate_left
  · intro w hSw; (try dsimp only at hSw); go_simp <;> first | with_reducible rfl | (rw [if_neg (by first | omega | (simp only [ByteArray.size_append] at *; omega))])
  simp only [Act.put, List.setIfInBounds_toArray, List.set_cons_zero, List.set_cons_succ]
  refine wpAnyH_take (i := 9) (oi := { dst := some 36, op := Go.Op.indexAddr 23 (Go.Operand.tmp 35) (Go.Operand.const (Go.Value.int Go.IntKind.i64 1)), type := 0, pos := _, after := #[{ on := 8, ground := Go.Ground.data }], guard := none }) (v := ?_) rfl (by kernel_rfl) (by kernel_rfl) (by kernel_rfl) (fun _ _ _ h => h) (Or.inl ⟨by rfl, ?_⟩) (by assumption) ?_
  rotate_left
  · intro w hSw; (try dsimp only at hSw); go_simp <;> first | with_reducible rfl | (rw [if_neg (by first | omega | (simp only [ByteArray.size_append] at *; omega))])
  simp only [Act.put, List.setIfInBounds_toArray, List.set_cons_zero, List.set_cons_succ]
  refine wpAnyH_take (i := 10) (oi := { dst := some 37, op := Go.Op.load 25 (Go.Operand.tmp 36), type := 25, pos := _, after := #[{ on := 9, ground := Go.Ground.data }], guard := none }) (v := ?_) rfl (by kernel_rfl) (by kernel_rfl) (by kernel_rfl) (fun _ _ _ h => h) (Or.inl ⟨by rfl, ?_⟩) (by assumption) ?_
  rotate_left
  · intro w hSw; (try dsimp only at hSw); go_simp <;> first | with_reducible rfl | (rw [if_neg (by first | omega | (simp only [ByteArray.size_append] at *; omega))])
  simp only [Act.put, List.setIfInBounds_toArray, List.set_cons_zero, List.set_cons_succ]
  refine wpAnyH_take (i := 14) (oi := { dst := some 41, op := Go.Op.fieldAddr 25 (Go.Operand.tmp 1) 3, type := 0, pos := _, after := #[], guard := none }) (v := ?_) rfl (by kernel_rfl) (by kernel_rfl) (by kernel_rfl) (fun _ _ _ h => h) (Or.inl ⟨by rfl, ?_⟩) (by assumption) ?_
  rotate_left
  · intro w hSw; (try dsimp only at hSw); go_simp <;> first | with_reducible rfl | (rw [if_neg (by first | omega | (simp only [ByteArray.size_append] at *; omega))])
  simp only [Act.put, List.setIfInBounds_toArray, List.set_cons_zero, List.set_cons_succ]
  refine wpAnyH_take (i := 15) (oi := { dst := some 42, op := Go.Op.load 23 (Go.Operand.tmp 41), type := 23, pos := _, after := #[{ on := 14, ground := Go.Ground.data }], guard := none }) (v := ?_) rfl (by kernel_rfl) (by kernel_rfl) (by kernel_rfl) (fun _ _ _ h => h) (Or.inl ⟨by rfl, ?_⟩) (by assumption) ?_
  rotate_left
  · intro w hSw; (try dsimp only at hSw); go_simp <;> first | with_reducible rfl | (rw [if_neg (by first | omega | (simp only [ByteArray.size_append] at *; omega))])
  simp only [Act.put, List.setIfInBounds_toArray, List.set_cons_zero, List.set_cons_succ]
  refine wpAnyH_take (i := 16) (oi := { dst := some 43, op := Go.Op.indexAddr 23 (Go.Operand.tmp 42) (Go.Operand.const (Go.Value.int Go.IntKind.i64 2)), type := 0, pos := _, after := #[{ on := 15, ground := Go.Ground.data }], guard := none }) (v := ?_) rfl (by kernel_rfl) (by kernel_rfl) (by kernel_rfl) (fun _ _ _ h => h) (Or.inl ⟨by rfl, ?_⟩) (by assumption) ?_
  rotate_left
  · intro w hSw; (try dsimp only at hSw); go_simp <;> first | with_reducible rfl | (rw [if_neg (by first | omega | (simp only [ByteArray.size_append] at *; omega))])
  simp only [Act.put, List.setIfInBounds_toArray, List.set_cons_zero, List.set_cons_succ]
  refine wpAnyH_take (i := 17) (oi := { dst := some 44, op := Go.Op.load 25 (Go.Operand.tmp 43), type := 25, pos := _, after := #[{ on := 16, ground := Go.Ground.data }], guard := none }) (v := ?_) rfl (by kernel_rfl) (by kernel_rfl) (by kernel_rfl) (fun _ _ _ h => h) (Or.inl ⟨by rfl, ?_⟩) (by assumption) ?_
  rotate_left
  · intro w hSw; (try dsimp only at hSw); go_simp <;> first | with_reducible rfl | (rw [if_neg (by first | omega | (simp only [ByteArray.size_append] at *; omega))])
  simp only [Act.put, List.setIfInBounds_toArray, List.set_cons_zero, List.set_cons_succ]
  refine wpAnyH_ready (rs := [4]) (by kernel_rfl) (by simp) ?_
  refine AllReadyH.cons (o := { dst := some 31, op := Go.Op.call { callee := Go.Callee.value (Go.Operand.func 46), args := #[Go.Operand.tmp 30, Go.Operand.const (Go.Value.int Go.IntKind.i64 0)], argTypes := #[25, 3] }, type := 9, pos := _, after := #[{ on := 3, ground := Go.Ground.data }], guard := none }) rfl (fun K hK => ?_) AllReadyH.nil
  go_simp
  refine (c1 _ (B1.out.drew)).mono ?_
  rintro e w2 ⟨rfl, hw2⟩
  have B2 := hid (bstep (B1.out.drew) hw2)
  have X2 := cell_kept X1 hw2
  go_wp2_with fail
  refine hK.out _ _ ?_ (fun hHeld1 => ?_)
  · exact hSH _ B2.out X2
  clear hK K
  refine wpAnyH_take (i := 5) (oi := { dst := some 32, op := Go.Op.binOp Go.BinOp.add 9 (Go.Operand.const (Go.Value.string { data := #[105, 102, 32] })) (Go.Operand.tmp 31) 9, type := 9, pos := _, after := #[{ on := 4, ground := Go.Ground.data }], guard := none }) (v := ?_) rfl (by kernel_rfl) (by kernel_rfl) (by kernel_rfl) (fun _ _ _ h => h) (Or.inl ⟨by rfl, ?_⟩) (by assumption) ?_
  rotate_left
  · intro w hSw; (try dsimp only at hSw); go_simp <;> first | with_reducible rfl | (rw [if_neg (by first | omega | (simp only [ByteArray.size_append] at *; omega))])
  simp only [Act.put, List.setIfInBounds_toArray, List.set_cons_zero, List.set_cons_succ]
  refine wpAnyH_take (i := 6) (oi := { dst := some 33, op := Go.Op.binOp Go.BinOp.add 9 (Go.Operand.tmp 32) (Go.Operand.const (Go.Value.string { data := #[32, 116, 104, 101, 110, 32] })) 9, type := 9, pos := _, after := #[{ on := 5, ground := Go.Ground.data }], guard := none }) (v := ?_) rfl (by kernel_rfl) (by kernel_rfl) (by kernel_rfl) (fun _ _ _ h => h) (Or.inl ⟨by rfl, ?_⟩) (by assumption) ?_
  rotate_left
  · intro w hSw; (try dsimp only at hSw); go_simp <;> first | with_reducible rfl | (rw [if_neg (by first | omega | (simp only [ByteArray.size_append] at *; omega))])
  simp only [Act.put, List.setIfInBounds_toArray, List.set_cons_zero, List.set_cons_succ]
  refine wpAnyH_ready (rs := [11]) (by kernel_rfl) (by simp) ?_
  refine AllReadyH.cons (o := { dst := some 38, op := Go.Op.call { callee := Go.Callee.value (Go.Operand.func 46), args := #[Go.Operand.tmp 37, Go.Operand.const (Go.Value.int Go.IntKind.i64 0)], argTypes := #[25, 3] }, type := 9, pos := _, after := #[{ on := 10, ground := Go.Ground.data }, { on := 4, ground := Go.Ground.chain }], guard := none }) rfl (fun K hK => ?_) AllReadyH.nil
  go_simp
  refine (c2 _ (B2.out)).mono ?_
  rintro e w3 ⟨rfl, hw3⟩
  have B3 := hid (bstep (B2.out) hw3)
  have X3 := cell_kept X2 hw3
  go_wp2_with fail
  refine hK.out _ _ ?_ (fun hHeld2 => ?_)
  · exact hSH _ B3.out X3
  clear hK K
  refine wpAnyH_take (i := 12) (oi := { dst := some 39, op := Go.Op.binOp Go.BinOp.add 9 (Go.Operand.tmp 33) (Go.Operand.tmp 38) 9, type := 9, pos := _, after := #[{ on := 6, ground := Go.Ground.data }, { on := 11, ground := Go.Ground.data }], guard := none }) (v := ?_) rfl (by kernel_rfl) (by kernel_rfl) (by kernel_rfl) (fun _ _ _ h => h) (Or.inl ⟨by rfl, ?_⟩) (by assumption) ?_
  rotate_left
  · intro w hSw; (try dsimp only at hSw); go_simp <;> first | with_reducible rfl | (rw [if_neg (by first | omega | (simp only [ByteArray.size_append] at *; omega))])
  simp only [Act.put, List.setIfInBounds_toArray, List.set_cons_zero, List.set_cons_succ]
  refine wpAnyH_take (i := 13) (oi := { dst := some 40, op := Go.Op.binOp Go.BinOp.add 9 (Go.Operand.tmp 39) (Go.Operand.const (Go.Value.string { data := #[32, 101, 108, 115, 101, 32] })) 9, type := 9, pos := _, after := #[{ on := 12, ground := Go.Ground.data }], guard := none }) (v := ?_) rfl (by kernel_rfl) (by kernel_rfl) (by kernel_rfl) (fun _ _ _ h => h) (Or.inl ⟨by rfl, ?_⟩) (by assumption) ?_
  rotate_left
  · intro w hSw; (try dsimp only at hSw); go_simp <;> first | with_reducible rfl | (rw [if_neg (by first | omega | (simp only [ByteArray.size_append] at *; omega))])
  simp only [Act.put, List.setIfInBounds_toArray, List.set_cons_zero, List.set_cons_succ]
  refine wpAnyH_ready (rs := [18]) (by kernel_rfl) (by simp) ?_
  refine AllReadyH.cons (o := { dst := some 45, op := Go.Op.call { callee := Go.Callee.value (Go.Operand.func 46), args := #[Go.Operand.tmp 44, Go.Operand.const (Go.Value.int Go.IntKind.i64 0)], argTypes := #[25, 3] }, type := 9, pos := _, after := #[{ on := 17, ground := Go.Ground.data }, { on := 11, ground := Go.Ground.chain }], guard := none }) rfl (fun K hK => ?_) AllReadyH.nil
  go_simp
  refine (c3 _ (B3.out)).mono ?_
  rintro e w4 ⟨rfl, hw4⟩
  have B4 := hid (bstep (B3.out) hw4)
  have X4 := cell_kept X3 hw4
  go_wp2_with fail
  refine hK.out _ _ ?_ (fun hHeld3 => ?_)
  · exact hSH _ B4.out X4
  clear hK K
  refine wpAnyH_take (i := 19) (oi := { dst := some 46, op := Go.Op.binOp Go.BinOp.add 9 (Go.Operand.tmp 40) (Go.Operand.tmp 45) 9, type := 9, pos := _, after := #[{ on := 13, ground := Go.Ground.data }, { on := 18, ground := Go.Ground.data }], guard := none }) (v := ?_) rfl (by kernel_rfl) (by kernel_rfl) (by kernel_rfl) (fun _ _ _ h => h) (Or.inl ⟨by rfl, ?_⟩) (by assumption) ?_
  rotate_left
  · intro w hSw; (try dsimp only at hSw); go_simp <;> first | with_reducible rfl | (rw [if_neg (by first | omega | (simp only [ByteArray.size_append] at *; omega))])
  simp only [Act.put, List.setIfInBounds_toArray, List.set_cons_zero, List.set_cons_succ]
  refine wpAnyH_take (i := 20) (oi := { dst := some 2, op := Go.Op.assign (Go.Operand.tmp 46), type := 9, pos := _, after := #[{ on := 19, ground := Go.Ground.data }, { on := 18, ground := Go.Ground.chain }, { on := 0, ground := Go.Ground.phase }, { on := 1, ground := Go.Ground.phase }, { on := 2, ground := Go.Ground.phase }, { on := 3, ground := Go.Ground.phase }, { on := 4, ground := Go.Ground.phase }, { on := 5, ground := Go.Ground.phase }, { on := 6, ground := Go.Ground.phase }, { on := 7, ground := Go.Ground.phase }, { on := 8, ground := Go.Ground.phase }, { on := 9, ground := Go.Ground.phase }, { on := 10, ground := Go.Ground.phase }, { on := 11, ground := Go.Ground.phase }, { on := 12, ground := Go.Ground.phase }, { on := 13, ground := Go.Ground.phase }, { on := 14, ground := Go.Ground.phase }, { on := 15, ground := Go.Ground.phase }, { on := 16, ground := Go.Ground.phase }, { on := 17, ground := Go.Ground.phase }, { on := 18, ground := Go.Ground.phase }, { on := 19, ground := Go.Ground.phase }], guard := none }) (v := ?_) rfl (by kernel_rfl) (by kernel_rfl) (by kernel_rfl) (fun _ _ _ h => h) (Or.inl ⟨by rfl, ?_⟩) (by assumption) ?_
  rotate_left
  · intro w hSw; (try dsimp only at hSw); go_simp <;> first | with_reducible rfl | (rw [if_neg (by first | omega | (simp only [ByteArray.size_append] at *; omega))])
  simp only [Act.put, List.setIfInBounds_toArray, List.set_cons_zero, List.set_cons_succ]
  refine wpAnyH_done (by kernel_rfl) ?_ _
  go_wp2
  go_ret
  exact ⟨rfl, B4.out⟩
set_option maxRecDepth 100000 in
set_option maxHeartbeats 2000000 in
theorem rw_then (x a b : Ex) (w : World) (bb o cap : Nat) (ka kb : Option Addr) (ca cb : Nat) (R : Int) (cr : ∀ W, Calls Tryd.prog 44 #[.int .u8 (x.op : Int)] W fun e w' => e = .returned (.int .i64 R) ∧ w' = W) (e1 : ((x.op : Int) == 1) = false) (e2 : ((x.op : Int) == 2) = false) (e3 : ((x.op : Int) == 3) = false) (e17 : ((x.op : Int) == 17) = false) (e5 : ((x.op : Int) == 5) = false) (e19 : ((x.op : Int) == 19) = false) (e4 : ((x.op : Int) == 4) = false) (e18 : ((x.op : Int) == 18) = true) (Y1 Y2 : ByteArray) (hY1 : Y1.size ≤ 13100) (hY2 : Y2.size ≤ 13100)
    (hk : KidAt w bb o a ka ca ∧ KidAt w bb (o + 4) b kb cb)
    (c1 : ∀ W, Below w.heap.size w W → Calls Tryd.prog 46 #[exV a (.slice ka a.args.length ca), .int .i64 1] W fun e w' => e = .returned (.string Y1) ∧ Below W.heap.size W w')
    (c2 : ∀ W, Below w.heap.size w W → Calls Tryd.prog 46 #[exV b (.slice kb b.args.length cb), .int .i64 0] W fun e w' => e = .returned (.string Y2) ∧ Below W.heap.size W w') :
    Calls Tryd.prog 26 #[exV x (.slice (some ⟨bb, o, none⟩) 2 cap)] w fun e w' => e = .returned (.string (Y1 ++ (⟨#[32, 45, 62, 32]⟩ : ByteArray) ++ Y2)) ∧ Below w.heap.size w w' := by
  have b1 := (Below.refl w.heap.size w).alloc (Nat.le_refl _) (.cells #[.int .u8 (x.op : Int), .int .i64 x.n, .string x.name, .slice (some ⟨bb, o, none⟩) 2 cap] 25)
  have B1 := hid b1
  have X1 : (w.alloc (.cells #[.int .u8 (x.op : Int), .int .i64 x.n, .string x.name, .slice (some ⟨bb, o, none⟩) 2 cap] 25)).drew.cell? ⟨w.heap.size, 3, none⟩ = some (.slice (some ⟨bb, o, none⟩) 2 cap) := box_at w _ 25 3 _ rfl
  have hSH : ∀ W, Below w.heap.size w W → W.cell? ⟨w.heap.size, 3, none⟩ = some (.slice (some ⟨bb, o, none⟩) 2 cap) → W.cell? ⟨w.heap.size, 3, none⟩ = some (.slice (some ⟨bb, o, none⟩) 2 cap) ∧ (W.cell? ⟨bb, o, none⟩ = some (.int .u8 (a.op : Int)) ∧ W.cell? ⟨bb, o + 1, none⟩ = some (.int .i64 a.n) ∧ W.cell? ⟨bb, o + 2, none⟩ = some (.string a.name) ∧ W.cell? ⟨bb, o + 3, none⟩ = some (.slice ka a.args.length ca)) ∧ (W.cell? ⟨bb, o + 4, none⟩ = some (.int .u8 (b.op : Int)) ∧ W.cell? ⟨bb, o + 5, none⟩ = some (.int .i64 b.n) ∧ W.cell? ⟨bb, o + 6, none⟩ = some (.string b.name) ∧ W.cell? ⟨bb, o + 7, none⟩ = some (.slice kb b.args.length cb)) := fun W hb h => ⟨h, hk.1.keep hb, hk.2.keep hb⟩
  clear hk b1
  go_enter Tryd.func26, Tryd.ntmps26
  go_wp2_with (go_at_call 44; refine (cr _).mono ?_; rintro e w9 ⟨rfl, rfl⟩; clear cr)
  refine wp_region_held_drew (S := fun W => W.cell? ⟨w.heap.size, 3, none⟩ = some (.slice (some ⟨bb, o, none⟩) 2 cap) ∧ (W.cell? ⟨bb, o, none⟩ = some (.int .u8 (a.op : Int)) ∧ W.cell? ⟨bb, o + 1, none⟩ = some (.int .i64 a.n) ∧ W.cell? ⟨bb, o + 2, none⟩ = some (.string a.name) ∧ W.cell? ⟨bb, o + 3, none⟩ = some (.slice ka a.args.length ca)) ∧ (W.cell? ⟨bb, o + 4, none⟩ = some (.int .u8 (b.op : Int)) ∧ W.cell? ⟨bb, o + 5, none⟩ = some (.int .i64 b.n) ∧ W.cell? ⟨bb, o + 6, none⟩ = some (.string b.name) ∧ W.cell? ⟨bb, o + 7, none⟩ = some (.slice kb b.args.length cb))) (by kernel_rfl) ?_ (fun hHeld => ?_)
  · exact hSH _ B1.out.drew X1
  refine wpAnyH_take (i := 0) (oi := { dst := some 79, op := Go.Op.fieldAddr 25 (Go.Operand.tmp 1) 3, type := 0, pos := _, after := #[], guard := none }) (v := ?_) rfl (by kernel_rfl) (by kernel_rfl) (by kernel_rfl) (fun _ _ _ h => h) (Or.inl ⟨by rfl, ?_⟩) (by assumption) ?_
  rotate_left
  · intro w hSw; (try dsimp only at hSw); go_simp <;> first | with_reducible rfl | (rw [if_neg (by first | omega | (simp only [ByteArray.size_append] at *; omega))])
  simp only [Act.put, List.setIfInBounds_toArray, List.set_cons_zero, List.set_cons_succ]
  refine wpAnyH_take (i := 1) (oi := { dst := some 80, op := Go.Op.load 23 (Go.Operand.tmp 79), type := 23, pos := _, after := #[{ on := 0, ground := Go.Ground.data }], guard := none }) (v := ?_) rfl (by kernel_rfl) (by kernel_rfl) (by kernel_rfl) (fun _ _ _ h => h) (Or.inl ⟨by rfl, ?_⟩) (by assumption) ?_
  rotate_left
  · intro w hSw; (try dsimp only at hSw); go_simp <;> first | with_reducible rfl | (rw [if_neg (by first | omega | (simp only [ByteArray.size_append] at *; omega))])
  simp only [Act.put, List.setIfInBounds_toArray, List.set_cons_zero, List.set_cons_succ]
  refine wpAnyH_take (i := 2) (oi := { dst := some 81, op := Go.Op.indexAddr 23 (Go.Operand.tmp 80) (Go.Operand.const (Go.Value.int Go.IntKind.i64 0)), type := 0, pos := _, after := #[{ on := 1, ground := Go.Ground.data }], guard := none }) (v := ?_) rfl (by kernel_rfl) (by kernel_rfl) (by kernel_rfl) (fun _ _ _ h => h) (Or.inl ⟨by rfl, ?_⟩) (by assumption) ?_
  rotate_left
  · intro w hSw; (try dsimp only at hSw); go_simp <;> first | with_reducible rfl | (rw [if_neg (by first | omega | (simp only [ByteArray.size_append] at *; omega))])
  simp only [Act.put, List.setIfInBounds_toArray, List.set_cons_zero, List.set_cons_succ]
  refine wpAnyH_take (i := 3) (oi := { dst := some 82, op := Go.Op.load 25 (Go.Operand.tmp 81), type := 25, pos := _, after := #[{ on := 2, ground := Go.Ground.data }], guard := none }) (v := ?_) rfl (by kernel_rfl) (by kernel_rfl) (by kernel_rfl) (fun _ _ _ h => h) (Or.inl ⟨by rfl, ?_⟩) (by assumption) ?_
  rotate_left
  · intro w hSw; (try dsimp only at hSw); go_simp <;> first | with_reducible rfl | (rw [if_neg (by first | omega | (simp only [ByteArray.size_append] at *; omega))])
  simp only [Act.put, List.setIfInBounds_toArray, List.set_cons_zero, List.set_cons_succ]
  refine wpAnyH_take (i := 6) (oi := { dst := some 85, op := Go.Op.fieldAddr 25 (Go.Operand.tmp 1) 3, type := 0, pos := _, after := #[], guard := none }) (v := ?_) rfl (by kernel_rfl) (by kernel_rfl) (by kernel_rfl) (fun _ _ _ h => h) (Or.inl ⟨by rfl, ?_⟩) (by assumption) ?_
  rotate_left
  · intro w hSw; (try dsimp only at hSw); go_simp <;> first | with_reducible rfl | (rw [if_neg (by first | omega | (simp only [ByteArray.size_append] at *; omega))])
  simp only [Act.put, List.setIfInBounds_toArray, List.set_cons_zero, List.set_cons_succ]
  refine wpAnyH_take (i := 7) (oi := { dst := some 86, op := Go.Op.load 23 (Go.Operand.tmp 85), type := 23, pos := _, after := #[{ on := 6, ground := Go.Ground.data }], guard := none }) (v := ?_) rfl (by kernel_rfl) (by kernel_rfl) (by kernel_rfl) (fun _ _ _ h => h) (Or.inl ⟨by rfl, ?_⟩) (by assumption) ?_
  rotate_left
  · intro w hSw; (try dsimp only at hSw); go_simp <;> first | with_reducible rfl | (rw [if_neg (by first | omega | (simp only [ByteArray.size_append] at *; omega))])
  simp only [Act.put, List.setIfInBounds_toArray, List.set_cons_zero, List.set_cons_succ]
  refine wpAnyH_take (i := 8) (oi := { dst := some 87, op := Go.Op.indexAddr 23 (Go.Operand.tmp 86) (Go.Operand.const (Go.Value.int Go.IntKind.i64 1)), type := 0, pos := _, after := #[{ on := 7, ground := Go.Ground.data }], guard := none }) (v := ?_) rfl (by kernel_rfl) (by kernel_rfl) (by kernel_rfl) (fun _ _ _ h => h) (Or.inl ⟨by rfl, ?_⟩) (by assumption) ?_
  rotate_left
  · intro w hSw; (try dsimp only at hSw); go_simp <;> first | with_reducible rfl | (rw [if_neg (by first | omega | (simp only [ByteArray.size_append] at *; omega))])
  simp only [Act.put, List.setIfInBounds_toArray, List.set_cons_zero, List.set_cons_succ]
  refine wpAnyH_take (i := 9) (oi := { dst := some 88, op := Go.Op.load 25 (Go.Operand.tmp 87), type := 25, pos := _, after := #[{ on := 8, ground := Go.Ground.data }], guard := none }) (v := ?_) rfl (by kernel_rfl) (by kernel_rfl) (by kernel_rfl) (fun _ _ _ h => h) (Or.inl ⟨by rfl, ?_⟩) (by assumption) ?_
  rotate_left
  · intro w hSw; (try dsimp only at hSw); go_simp <;> first | with_reducible rfl | (rw [if_neg (by first | omega | (simp only [ByteArray.size_append] at *; omega))])
  simp only [Act.put, List.setIfInBounds_toArray, List.set_cons_zero, List.set_cons_succ]
  refine wpAnyH_ready (rs := [4]) (by kernel_rfl) (by simp) ?_
  refine AllReadyH.cons (o := { dst := some 83, op := Go.Op.call { callee := Go.Callee.value (Go.Operand.func 46), args := #[Go.Operand.tmp 82, Go.Operand.const (Go.Value.int Go.IntKind.i64 1)], argTypes := #[25, 3] }, type := 9, pos := _, after := #[{ on := 3, ground := Go.Ground.data }], guard := none }) rfl (fun K hK => ?_) AllReadyH.nil
  go_simp
  refine (c1 _ (B1.out.drew)).mono ?_
  rintro e w2 ⟨rfl, hw2⟩
  have B2 := hid (bstep (B1.out.drew) hw2)
  have X2 := cell_kept X1 hw2
  go_wp2_with fail
  refine hK.out _ _ ?_ (fun hHeld1 => ?_)
  · exact hSH _ B2.out X2
  clear hK K
  refine wpAnyH_take (i := 5) (oi := { dst := some 84, op := Go.Op.binOp Go.BinOp.add 9 (Go.Operand.tmp 83) (Go.Operand.const (Go.Value.string { data := #[32, 45, 62, 32] })) 9, type := 9, pos := _, after := #[{ on := 4, ground := Go.Ground.data }], guard := none }) (v := ?_) rfl (by kernel_rfl) (by kernel_rfl) (by kernel_rfl) (fun _ _ _ h => h) (Or.inl ⟨by rfl, ?_⟩) (by assumption) ?_
  rotate_left
  · intro w hSw; (try dsimp only at hSw); go_simp <;> first | with_reducible rfl | (rw [if_neg (by first | omega | (simp only [ByteArray.size_append] at *; omega))])
  simp only [Act.put, List.setIfInBounds_toArray, List.set_cons_zero, List.set_cons_succ]
  refine wpAnyH_ready (rs := [10]) (by kernel_rfl) (by simp) ?_
  refine AllReadyH.cons (o := { dst := some 89, op := Go.Op.call { callee := Go.Callee.value (Go.Operand.func 46), args := #[Go.Operand.tmp 88, Go.Operand.const (Go.Value.int Go.IntKind.i64 0)], argTypes := #[25, 3] }, type := 9, pos := _, after := #[{ on := 9, ground := Go.Ground.data }, { on := 4, ground := Go.Ground.chain }], guard := none }) rfl (fun K hK => ?_) AllReadyH.nil
  go_simp
  refine (c2 _ (B2.out)).mono ?_
  rintro e w3 ⟨rfl, hw3⟩
  have B3 := hid (bstep (B2.out) hw3)
  have X3 := cell_kept X2 hw3
  go_wp2_with fail
  refine hK.out _ _ ?_ (fun hHeld2 => ?_)
  · exact hSH _ B3.out X3
  clear hK K
  refine wpAnyH_take (i := 11) (oi := { dst := some 90, op := Go.Op.binOp Go.BinOp.add 9 (Go.Operand.tmp 84) (Go.Operand.tmp 89) 9, type := 9, pos := _, after := #[{ on := 5, ground := Go.Ground.data }, { on := 10, ground := Go.Ground.data }], guard := none }) (v := ?_) rfl (by kernel_rfl) (by kernel_rfl) (by kernel_rfl) (fun _ _ _ h => h) (Or.inl ⟨by rfl, ?_⟩) (by assumption) ?_
  rotate_left
  · intro w hSw; (try dsimp only at hSw); go_simp <;> first | with_reducible rfl | (rw [if_neg (by first | omega | (simp only [ByteArray.size_append] at *; omega))])
  simp only [Act.put, List.setIfInBounds_toArray, List.set_cons_zero, List.set_cons_succ]
  refine wpAnyH_take (i := 12) (oi := { dst := some 2, op := Go.Op.assign (Go.Operand.tmp 90), type := 9, pos := _, after := #[{ on := 11, ground := Go.Ground.data }, { on := 10, ground := Go.Ground.chain }, { on := 0, ground := Go.Ground.phase }, { on := 1, ground := Go.Ground.phase }, { on := 2, ground := Go.Ground.phase }, { on := 3, ground := Go.Ground.phase }, { on := 4, ground := Go.Ground.phase }, { on := 5, ground := Go.Ground.phase }, { on := 6, ground := Go.Ground.phase }, { on := 7, ground := Go.Ground.phase }, { on := 8, ground := Go.Ground.phase }, { on := 9, ground := Go.Ground.phase }, { on := 10, ground := Go.Ground.phase }, { on := 11, ground := Go.Ground.phase }], guard := none }) (v := ?_) rfl (by kernel_rfl) (by kernel_rfl) (by kernel_rfl) (fun _ _ _ h => h) (Or.inl ⟨by rfl, ?_⟩) (by assumption) ?_
  rotate_left
  · intro w hSw; (try dsimp only at hSw); go_simp <;> first | with_reducible rfl | (rw [if_neg (by first | omega | (simp only [ByteArray.size_append] at *; omega))])
  simp only [Act.put, List.setIfInBounds_toArray, List.set_cons_zero, List.set_cons_succ]
  refine wpAnyH_done (by kernel_rfl) ?_ _
  go_wp2
  go_ret
  exact ⟨rfl, B3.out⟩
set_option maxRecDepth 100000 in
set_option maxHeartbeats 2000000 in
theorem rw_cmp (x a b : Ex) (w : World) (bb o cap : Nat) (ka kb : Option Addr) (ca cb : Nat) (R : Int) (cr : ∀ W, Calls Tryd.prog 44 #[.int .u8 (x.op : Int)] W fun e w' => e = .returned (.int .i64 R) ∧ w' = W) (h3 : (R == 3) = true) (hR0 : 0 ≤ R) (hR7 : R ≤ 7) (hw : IntKind.i64.wrap (R + 1) = R + 1) (e1 : ((x.op : Int) == 1) = false) (e2 : ((x.op : Int) == 2) = false) (e3 : ((x.op : Int) == 3) = false) (e17 : ((x.op : Int) == 17) = false) (e5 : ((x.op : Int) == 5) = false) (e19 : ((x.op : Int) == 19) = false) (e4 : ((x.op : Int) == 4) = false) (e18 : ((x.op : Int) == 18) = false) (T : ByteArray) (hT : T.size ≤ 3) (Y1 Y2 : ByteArray) (hY1 : Y1.size ≤ 13100) (hY2 : Y2.size ≤ 13100)
    (hk : KidAt w bb o a ka ca ∧ KidAt w bb (o + 4) b kb cb)
    (cs : ∀ W, Below w.heap.size w W → Calls Tryd.prog 47 #[.int .u8 (x.op : Int)] W fun e w' => e = .returned (.string T) ∧ Below W.heap.size W w')
    (c1 : ∀ W, Below w.heap.size w W → Calls Tryd.prog 46 #[exV a (.slice ka a.args.length ca), .int .i64 4] W fun e w' => e = .returned (.string Y1) ∧ Below W.heap.size W w')
    (c2 : ∀ W, Below w.heap.size w W → Calls Tryd.prog 46 #[exV b (.slice kb b.args.length cb), .int .i64 (R + 1)] W fun e w' => e = .returned (.string Y2) ∧ Below W.heap.size W w') :
    Calls Tryd.prog 26 #[exV x (.slice (some ⟨bb, o, none⟩) 2 cap)] w fun e w' => e = .returned (.string (Y1 ++ (⟨#[32]⟩ : ByteArray) ++ T ++ (⟨#[32]⟩ : ByteArray) ++ Y2)) ∧ Below w.heap.size w w' := by
  have b1 := (Below.refl w.heap.size w).alloc (Nat.le_refl _) (.cells #[.int .u8 (x.op : Int), .int .i64 x.n, .string x.name, .slice (some ⟨bb, o, none⟩) 2 cap] 25)
  have B1 := hid b1
  have X1 : (w.alloc (.cells #[.int .u8 (x.op : Int), .int .i64 x.n, .string x.name, .slice (some ⟨bb, o, none⟩) 2 cap] 25)).drew.cell? ⟨w.heap.size, 0, none⟩ = some (.int .u8 (x.op : Int)) ∧ (w.alloc (.cells #[.int .u8 (x.op : Int), .int .i64 x.n, .string x.name, .slice (some ⟨bb, o, none⟩) 2 cap] 25)).drew.cell? ⟨w.heap.size, 3, none⟩ = some (.slice (some ⟨bb, o, none⟩) 2 cap) := ⟨box_at w _ 25 0 _ rfl, box_at w _ 25 3 _ rfl⟩
  have hSH : ∀ W, Below w.heap.size w W → (W.cell? ⟨w.heap.size, 0, none⟩ = some (.int .u8 (x.op : Int)) ∧ W.cell? ⟨w.heap.size, 3, none⟩ = some (.slice (some ⟨bb, o, none⟩) 2 cap)) → (W.cell? ⟨w.heap.size, 0, none⟩ = some (.int .u8 (x.op : Int)) ∧ W.cell? ⟨w.heap.size, 3, none⟩ = some (.slice (some ⟨bb, o, none⟩) 2 cap)) ∧ (W.cell? ⟨bb, o, none⟩ = some (.int .u8 (a.op : Int)) ∧ W.cell? ⟨bb, o + 1, none⟩ = some (.int .i64 a.n) ∧ W.cell? ⟨bb, o + 2, none⟩ = some (.string a.name) ∧ W.cell? ⟨bb, o + 3, none⟩ = some (.slice ka a.args.length ca)) ∧ (W.cell? ⟨bb, o + 4, none⟩ = some (.int .u8 (b.op : Int)) ∧ W.cell? ⟨bb, o + 5, none⟩ = some (.int .i64 b.n) ∧ W.cell? ⟨bb, o + 6, none⟩ = some (.string b.name) ∧ W.cell? ⟨bb, o + 7, none⟩ = some (.slice kb b.args.length cb)) := fun W hb h => ⟨h, hk.1.keep hb, hk.2.keep hb⟩
  clear hk b1
  go_enter Tryd.func26, Tryd.ntmps26
  go_wp2_with (go_at_call 44; refine (cr _).mono ?_; rintro e w9 ⟨rfl, rfl⟩; clear cr)
  refine wp_region_held_drew (S := fun W => (W.cell? ⟨w.heap.size, 0, none⟩ = some (.int .u8 (x.op : Int)) ∧ W.cell? ⟨w.heap.size, 3, none⟩ = some (.slice (some ⟨bb, o, none⟩) 2 cap)) ∧ (W.cell? ⟨bb, o, none⟩ = some (.int .u8 (a.op : Int)) ∧ W.cell? ⟨bb, o + 1, none⟩ = some (.int .i64 a.n) ∧ W.cell? ⟨bb, o + 2, none⟩ = some (.string a.name) ∧ W.cell? ⟨bb, o + 3, none⟩ = some (.slice ka a.args.length ca)) ∧ (W.cell? ⟨bb, o + 4, none⟩ = some (.int .u8 (b.op : Int)) ∧ W.cell? ⟨bb, o + 5, none⟩ = some (.int .i64 b.n) ∧ W.cell? ⟨bb, o + 6, none⟩ = some (.string b.name) ∧ W.cell? ⟨bb, o + 7, none⟩ = some (.slice kb b.args.length cb))) (by kernel_rfl) ?_ (fun hHeld => ?_)
  · exact hSH _ B1.out.drew X1
  refine wpAnyH_take (i := 0) (oi := { dst := some 94, op := Go.Op.fieldAddr 25 (Go.Operand.tmp 1) 3, type := 0, pos := _, after := #[], guard := none }) (v := ?_) rfl (by kernel_rfl) (by kernel_rfl) (by kernel_rfl) (fun _ _ _ h => h) (Or.inl ⟨by rfl, ?_⟩) (by assumption) ?_
  rotate_left
  · intro w hSw; (try dsimp only at hSw); go_simp <;> first | with_reducible rfl | (rw [if_neg (by first | omega | (simp only [ByteArray.size_append] at *; omega))])
  simp only [Act.put, List.setIfInBounds_toArray, List.set_cons_zero, List.set_cons_succ]
  refine wpAnyH_take (i := 1) (oi := { dst := some 95, op := Go.Op.load 23 (Go.Operand.tmp 94), type := 23, pos := _, after := #[{ on := 0, ground := Go.Ground.data }], guard := none }) (v := ?_) rfl (by kernel_rfl) (by kernel_rfl) (by kernel_rfl) (fun _ _ _ h => h) (Or.inl ⟨by rfl, ?_⟩) (by assumption) ?_
  rotate_left
  · intro w hSw; (try dsimp only at hSw); go_simp <;> first | with_reducible rfl | (rw [if_neg (by first | omega | (simp only [ByteArray.size_append] at *; omega))])
  simp only [Act.put, List.setIfInBounds_toArray, List.set_cons_zero, List.set_cons_succ]
  refine wpAnyH_take (i := 2) (oi := { dst := some 96, op := Go.Op.indexAddr 23 (Go.Operand.tmp 95) (Go.Operand.const (Go.Value.int Go.IntKind.i64 0)), type := 0, pos := _, after := #[{ on := 1, ground := Go.Ground.data }], guard := none }) (v := ?_) rfl (by kernel_rfl) (by kernel_rfl) (by kernel_rfl) (fun _ _ _ h => h) (Or.inl ⟨by rfl, ?_⟩) (by assumption) ?_
  rotate_left
  · intro w hSw; (try dsimp only at hSw); go_simp <;> first | with_reducible rfl | (rw [if_neg (by first | omega | (simp only [ByteArray.size_append] at *; omega))])
  simp only [Act.put, List.setIfInBounds_toArray, List.set_cons_zero, List.set_cons_succ]
  refine wpAnyH_take (i := 3) (oi := { dst := some 97, op := Go.Op.load 25 (Go.Operand.tmp 96), type := 25, pos := _, after := #[{ on := 2, ground := Go.Ground.data }], guard := none }) (v := ?_) rfl (by kernel_rfl) (by kernel_rfl) (by kernel_rfl) (fun _ _ _ h => h) (Or.inl ⟨by rfl, ?_⟩) (by assumption) ?_
  rotate_left
  · intro w hSw; (try dsimp only at hSw); go_simp <;> first | with_reducible rfl | (rw [if_neg (by first | omega | (simp only [ByteArray.size_append] at *; omega))])
  simp only [Act.put, List.setIfInBounds_toArray, List.set_cons_zero, List.set_cons_succ]
  refine wpAnyH_take (i := 4) (oi := { dst := some 98, op := Go.Op.move (Go.Operand.tmp 5), type := 3, pos := _, after := #[], guard := none }) (v := ?_) rfl (by kernel_rfl) (by kernel_rfl) (by kernel_rfl) (fun _ _ _ h => h) (Or.inl ⟨by rfl, ?_⟩) (by assumption) ?_
  rotate_left
  · intro w hSw; (try dsimp only at hSw); go_simp <;> first | with_reducible rfl | (rw [if_neg (by first | omega | (simp only [ByteArray.size_append] at *; omega))])
  simp only [Act.put, List.setIfInBounds_toArray, List.set_cons_zero, List.set_cons_succ]
  refine wpAnyH_take (i := 7) (oi := { dst := some 101, op := Go.Op.fieldAddr 25 (Go.Operand.tmp 1) 0, type := 0, pos := _, after := #[], guard := none }) (v := ?_) rfl (by kernel_rfl) (by kernel_rfl) (by kernel_rfl) (fun _ _ _ h => h) (Or.inl ⟨by rfl, ?_⟩) (by assumption) ?_
  rotate_left
  · intro w hSw; (try dsimp only at hSw); go_simp <;> first | with_reducible rfl | (rw [if_neg (by first | omega | (simp only [ByteArray.size_append] at *; omega))])
  simp only [Act.put, List.setIfInBounds_toArray, List.set_cons_zero, List.set_cons_succ]
  refine wpAnyH_take (i := 8) (oi := { dst := some 102, op := Go.Op.load 22 (Go.Operand.tmp 101), type := 22, pos := _, after := #[{ on := 7, ground := Go.Ground.data }], guard := none }) (v := ?_) rfl (by kernel_rfl) (by kernel_rfl) (by kernel_rfl) (fun _ _ _ h => h) (Or.inl ⟨by rfl, ?_⟩) (by assumption) ?_
  rotate_left
  · intro w hSw; (try dsimp only at hSw); go_simp <;> first | with_reducible rfl | (rw [if_neg (by first | omega | (simp only [ByteArray.size_append] at *; omega))])
  simp only [Act.put, List.setIfInBounds_toArray, List.set_cons_zero, List.set_cons_succ]
  refine wpAnyH_take (i := 12) (oi := { dst := some 106, op := Go.Op.fieldAddr 25 (Go.Operand.tmp 1) 3, type := 0, pos := _, after := #[], guard := none }) (v := ?_) rfl (by kernel_rfl) (by kernel_rfl) (by kernel_rfl) (fun _ _ _ h => h) (Or.inl ⟨by rfl, ?_⟩) (by assumption) ?_
  rotate_left
  · intro w hSw; (try dsimp only at hSw); go_simp <;> first | with_reducible rfl | (rw [if_neg (by first | omega | (simp only [ByteArray.size_append] at *; omega))])
  simp only [Act.put, List.setIfInBounds_toArray, List.set_cons_zero, List.set_cons_succ]
  refine wpAnyH_take (i := 13) (oi := { dst := some 107, op := Go.Op.load 23 (Go.Operand.tmp 106), type := 23, pos := _, after := #[{ on := 12, ground := Go.Ground.data }], guard := none }) (v := ?_) rfl (by kernel_rfl) (by kernel_rfl) (by kernel_rfl) (fun _ _ _ h => h) (Or.inl ⟨by rfl, ?_⟩) (by assumption) ?_
  rotate_left
  · intro w hSw; (try dsimp only at hSw); go_simp <;> first | with_reducible rfl | (rw [if_neg (by first | omega | (simp only [ByteArray.size_append] at *; omega))])
  simp only [Act.put, List.setIfInBounds_toArray, List.set_cons_zero, List.set_cons_succ]
  refine wpAnyH_take (i := 14) (oi := { dst := some 108, op := Go.Op.indexAddr 23 (Go.Operand.tmp 107) (Go.Operand.const (Go.Value.int Go.IntKind.i64 1)), type := 0, pos := _, after := #[{ on := 13, ground := Go.Ground.data }], guard := none }) (v := ?_) rfl (by kernel_rfl) (by kernel_rfl) (by kernel_rfl) (fun _ _ _ h => h) (Or.inl ⟨by rfl, ?_⟩) (by assumption) ?_
  rotate_left
  · intro w hSw; (try dsimp only at hSw); go_simp <;> first | with_reducible rfl | (rw [if_neg (by first | omega | (simp only [ByteArray.size_append] at *; omega))])
  simp only [Act.put, List.setIfInBounds_toArray, List.set_cons_zero, List.set_cons_succ]
  refine wpAnyH_take (i := 15) (oi := { dst := some 109, op := Go.Op.load 25 (Go.Operand.tmp 108), type := 25, pos := _, after := #[{ on := 14, ground := Go.Ground.data }], guard := none }) (v := ?_) rfl (by kernel_rfl) (by kernel_rfl) (by kernel_rfl) (fun _ _ _ h => h) (Or.inl ⟨by rfl, ?_⟩) (by assumption) ?_
  rotate_left
  · intro w hSw; (try dsimp only at hSw); go_simp <;> first | with_reducible rfl | (rw [if_neg (by first | omega | (simp only [ByteArray.size_append] at *; omega))])
  simp only [Act.put, List.setIfInBounds_toArray, List.set_cons_zero, List.set_cons_succ]
  refine wpAnyH_take (i := 16) (oi := { dst := some 110, op := Go.Op.move (Go.Operand.tmp 3), type := 3, pos := _, after := #[], guard := none }) (v := ?_) rfl (by kernel_rfl) (by kernel_rfl) (by kernel_rfl) (fun _ _ _ h => h) (Or.inl ⟨by rfl, ?_⟩) (by assumption) ?_
  rotate_left
  · intro w hSw; (try dsimp only at hSw); go_simp <;> first | with_reducible rfl | (rw [if_neg (by first | omega | (simp only [ByteArray.size_append] at *; omega))])
  simp only [Act.put, List.setIfInBounds_toArray, List.set_cons_zero, List.set_cons_succ]
  refine wpAnyH_take (i := 17) (oi := { dst := some 111, op := Go.Op.binOp Go.BinOp.add 3 (Go.Operand.tmp 110) (Go.Operand.const (Go.Value.int Go.IntKind.i64 1)) 3, type := 3, pos := _, after := #[{ on := 16, ground := Go.Ground.data }], guard := none }) (v := ?_) rfl (by kernel_rfl) (by kernel_rfl) (by kernel_rfl) (fun _ _ _ h => h) (Or.inl ⟨by rfl, ?_⟩) (by assumption) ?_
  rotate_left
  · intro w hSw; (try dsimp only at hSw); go_simp <;> first | with_reducible rfl | (rw [if_neg (by first | omega | (simp only [ByteArray.size_append] at *; omega))])
  simp only [Act.put, List.setIfInBounds_toArray, List.set_cons_zero, List.set_cons_succ]
  refine wpAnyH_ready (rs := [5]) (by kernel_rfl) (by simp) ?_
  refine AllReadyH.cons (o := { dst := some 99, op := Go.Op.call { callee := Go.Callee.value (Go.Operand.func 46), args := #[Go.Operand.tmp 97, Go.Operand.tmp 98], argTypes := #[25, 3] }, type := 9, pos := _, after := #[{ on := 3, ground := Go.Ground.data }, { on := 4, ground := Go.Ground.data }], guard := none }) rfl (fun K hK => ?_) AllReadyH.nil
  go_simp
  refine (c1 _ (B1.out.drew)).mono ?_
  rintro e w2 ⟨rfl, hw2⟩
  have B2 := hid (bstep (B1.out.drew) hw2)
  have X2 : w2.cell? ⟨w.heap.size, 0, none⟩ = some (.int .u8 (x.op : Int)) ∧ w2.cell? ⟨w.heap.size, 3, none⟩ = some (.slice (some ⟨bb, o, none⟩) 2 cap) := ⟨cell_kept X1.1 hw2, cell_kept X1.2 hw2⟩
  go_wp2_with fail
  refine hK.out _ _ ?_ (fun hHeld1 => ?_)
  · exact hSH _ B2.out X2
  clear hK K
  refine wpAnyH_take (i := 6) (oi := { dst := some 100, op := Go.Op.binOp Go.BinOp.add 9 (Go.Operand.tmp 99) (Go.Operand.const (Go.Value.string { data := #[32] })) 9, type := 9, pos := _, after := #[{ on := 5, ground := Go.Ground.data }], guard := none }) (v := ?_) rfl (by kernel_rfl) (by kernel_rfl) (by kernel_rfl) (fun _ _ _ h => h) (Or.inl ⟨by rfl, ?_⟩) (by assumption) ?_
  rotate_left
  · intro w hSw; (try dsimp only at hSw); go_simp <;> first | with_reducible rfl | (rw [if_neg (by first | omega | (simp only [ByteArray.size_append] at *; omega))])
  simp only [Act.put, List.setIfInBounds_toArray, List.set_cons_zero, List.set_cons_succ]
  refine wpAnyH_ready (rs := [9]) (by kernel_rfl) (by simp) ?_
  refine AllReadyH.cons (o := { dst := some 103, op := Go.Op.call { callee := Go.Callee.value (Go.Operand.func 47), args := #[Go.Operand.tmp 102], argTypes := #[22] }, type := 9, pos := _, after := #[{ on := 8, ground := Go.Ground.data }, { on := 5, ground := Go.Ground.chain }], guard := none }) rfl (fun K hK => ?_) AllReadyH.nil
  go_simp
  refine (cs _ (B2.out)).mono ?_
  rintro e w3 ⟨rfl, hw3⟩
  have B3 := hid (bstep (B2.out) hw3)
  have X3 : w3.cell? ⟨w.heap.size, 0, none⟩ = some (.int .u8 (x.op : Int)) ∧ w3.cell? ⟨w.heap.size, 3, none⟩ = some (.slice (some ⟨bb, o, none⟩) 2 cap) := ⟨cell_kept X2.1 hw3, cell_kept X2.2 hw3⟩
  go_wp2_with fail
  refine hK.out _ _ ?_ (fun hHeld2 => ?_)
  · exact hSH _ B3.out X3
  clear hK K
  refine wpAnyH_take (i := 10) (oi := { dst := some 104, op := Go.Op.binOp Go.BinOp.add 9 (Go.Operand.tmp 100) (Go.Operand.tmp 103) 9, type := 9, pos := _, after := #[{ on := 6, ground := Go.Ground.data }, { on := 9, ground := Go.Ground.data }], guard := none }) (v := ?_) rfl (by kernel_rfl) (by kernel_rfl) (by kernel_rfl) (fun _ _ _ h => h) (Or.inl ⟨by rfl, ?_⟩) (by assumption) ?_
  rotate_left
  · intro w hSw; (try dsimp only at hSw); go_simp <;> first | with_reducible rfl | (rw [if_neg (by first | omega | (simp only [ByteArray.size_append] at *; omega))])
  simp only [Act.put, List.setIfInBounds_toArray, List.set_cons_zero, List.set_cons_succ]
  refine wpAnyH_take (i := 11) (oi := { dst := some 105, op := Go.Op.binOp Go.BinOp.add 9 (Go.Operand.tmp 104) (Go.Operand.const (Go.Value.string { data := #[32] })) 9, type := 9, pos := _, after := #[{ on := 10, ground := Go.Ground.data }], guard := none }) (v := ?_) rfl (by kernel_rfl) (by kernel_rfl) (by kernel_rfl) (fun _ _ _ h => h) (Or.inl ⟨by rfl, ?_⟩) (by assumption) ?_
  rotate_left
  · intro w hSw; (try dsimp only at hSw); go_simp <;> first | with_reducible rfl | (rw [if_neg (by first | omega | (simp only [ByteArray.size_append] at *; omega))])
  simp only [Act.put, List.setIfInBounds_toArray, List.set_cons_zero, List.set_cons_succ]
  refine wpAnyH_ready (rs := [18]) (by kernel_rfl) (by simp) ?_
  refine AllReadyH.cons (o := { dst := some 112, op := Go.Op.call { callee := Go.Callee.value (Go.Operand.func 46), args := #[Go.Operand.tmp 109, Go.Operand.tmp 111], argTypes := #[25, 3] }, type := 9, pos := _, after := #[{ on := 15, ground := Go.Ground.data }, { on := 17, ground := Go.Ground.data }, { on := 9, ground := Go.Ground.chain }], guard := none }) rfl (fun K hK => ?_) AllReadyH.nil
  go_simp
  refine (c2 _ (B3.out)).mono ?_
  rintro e w4 ⟨rfl, hw4⟩
  have B4 := hid (bstep (B3.out) hw4)
  have X4 : w4.cell? ⟨w.heap.size, 0, none⟩ = some (.int .u8 (x.op : Int)) ∧ w4.cell? ⟨w.heap.size, 3, none⟩ = some (.slice (some ⟨bb, o, none⟩) 2 cap) := ⟨cell_kept X3.1 hw4, cell_kept X3.2 hw4⟩
  go_wp2_with fail
  refine hK.out _ _ ?_ (fun hHeld3 => ?_)
  · exact hSH _ B4.out X4
  clear hK K
  refine wpAnyH_take (i := 19) (oi := { dst := some 113, op := Go.Op.binOp Go.BinOp.add 9 (Go.Operand.tmp 105) (Go.Operand.tmp 112) 9, type := 9, pos := _, after := #[{ on := 11, ground := Go.Ground.data }, { on := 18, ground := Go.Ground.data }], guard := none }) (v := ?_) rfl (by kernel_rfl) (by kernel_rfl) (by kernel_rfl) (fun _ _ _ h => h) (Or.inl ⟨by rfl, ?_⟩) (by assumption) ?_
  rotate_left
  · intro w hSw; (try dsimp only at hSw); go_simp <;> first | with_reducible rfl | (rw [if_neg (by first | omega | (simp only [ByteArray.size_append] at *; omega))])
  simp only [Act.put, List.setIfInBounds_toArray, List.set_cons_zero, List.set_cons_succ]
  refine wpAnyH_take (i := 20) (oi := { dst := some 2, op := Go.Op.assign (Go.Operand.tmp 113), type := 9, pos := _, after := #[{ on := 19, ground := Go.Ground.data }, { on := 18, ground := Go.Ground.chain }, { on := 0, ground := Go.Ground.phase }, { on := 1, ground := Go.Ground.phase }, { on := 2, ground := Go.Ground.phase }, { on := 3, ground := Go.Ground.phase }, { on := 4, ground := Go.Ground.phase }, { on := 5, ground := Go.Ground.phase }, { on := 6, ground := Go.Ground.phase }, { on := 7, ground := Go.Ground.phase }, { on := 8, ground := Go.Ground.phase }, { on := 9, ground := Go.Ground.phase }, { on := 10, ground := Go.Ground.phase }, { on := 11, ground := Go.Ground.phase }, { on := 12, ground := Go.Ground.phase }, { on := 13, ground := Go.Ground.phase }, { on := 14, ground := Go.Ground.phase }, { on := 15, ground := Go.Ground.phase }, { on := 16, ground := Go.Ground.phase }, { on := 17, ground := Go.Ground.phase }, { on := 18, ground := Go.Ground.phase }, { on := 19, ground := Go.Ground.phase }], guard := none }) (v := ?_) rfl (by kernel_rfl) (by kernel_rfl) (by kernel_rfl) (fun _ _ _ h => h) (Or.inl ⟨by rfl, ?_⟩) (by assumption) ?_
  rotate_left
  · intro w hSw; (try dsimp only at hSw); go_simp <;> first | with_reducible rfl | (rw [if_neg (by first | omega | (simp only [ByteArray.size_append] at *; omega))])
  simp only [Act.put, List.setIfInBounds_toArray, List.set_cons_zero, List.set_cons_succ]
  refine wpAnyH_done (by kernel_rfl) ?_ _
  go_wp2
  go_ret
  exact ⟨rfl, B4.out⟩
set_option maxRecDepth 100000 in
set_option maxHeartbeats 2000000 in
theorem rw_join (x a b : Ex) (w : World) (bb o cap : Nat) (ka kb : Option Addr) (ca cb : Nat) (R : Int) (cr : ∀ W, Calls Tryd.prog 44 #[.int .u8 (x.op : Int)] W fun e w' => e = .returned (.int .i64 R) ∧ w' = W) (h3 : (R == 3) = false) (hR0 : 0 ≤ R) (hR7 : R ≤ 7) (hw : IntKind.i64.wrap (R + 1) = R + 1) (e1 : ((x.op : Int) == 1) = false) (e2 : ((x.op : Int) == 2) = false) (e3 : ((x.op : Int) == 3) = false) (e17 : ((x.op : Int) == 17) = false) (e5 : ((x.op : Int) == 5) = false) (e19 : ((x.op : Int) == 19) = false) (e4 : ((x.op : Int) == 4) = false) (e18 : ((x.op : Int) == 18) = false) (T : ByteArray) (hT : T.size ≤ 3) (Y1 Y2 : ByteArray) (hY1 : Y1.size ≤ 13100) (hY2 : Y2.size ≤ 13100)
    (hk : KidAt w bb o a ka ca ∧ KidAt w bb (o + 4) b kb cb)
    (cs : ∀ W, Below w.heap.size w W → Calls Tryd.prog 47 #[.int .u8 (x.op : Int)] W fun e w' => e = .returned (.string T) ∧ Below W.heap.size W w')
    (c1 : ∀ W, Below w.heap.size w W → Calls Tryd.prog 46 #[exV a (.slice ka a.args.length ca), .int .i64 R] W fun e w' => e = .returned (.string Y1) ∧ Below W.heap.size W w')
    (c2 : ∀ W, Below w.heap.size w W → Calls Tryd.prog 46 #[exV b (.slice kb b.args.length cb), .int .i64 (R + 1)] W fun e w' => e = .returned (.string Y2) ∧ Below W.heap.size W w') :
    Calls Tryd.prog 26 #[exV x (.slice (some ⟨bb, o, none⟩) 2 cap)] w fun e w' => e = .returned (.string (Y1 ++ (⟨#[32]⟩ : ByteArray) ++ T ++ (⟨#[32]⟩ : ByteArray) ++ Y2)) ∧ Below w.heap.size w w' := by
  have b1 := (Below.refl w.heap.size w).alloc (Nat.le_refl _) (.cells #[.int .u8 (x.op : Int), .int .i64 x.n, .string x.name, .slice (some ⟨bb, o, none⟩) 2 cap] 25)
  have B1 := hid b1
  have X1 : (w.alloc (.cells #[.int .u8 (x.op : Int), .int .i64 x.n, .string x.name, .slice (some ⟨bb, o, none⟩) 2 cap] 25)).drew.cell? ⟨w.heap.size, 0, none⟩ = some (.int .u8 (x.op : Int)) ∧ (w.alloc (.cells #[.int .u8 (x.op : Int), .int .i64 x.n, .string x.name, .slice (some ⟨bb, o, none⟩) 2 cap] 25)).drew.cell? ⟨w.heap.size, 3, none⟩ = some (.slice (some ⟨bb, o, none⟩) 2 cap) := ⟨box_at w _ 25 0 _ rfl, box_at w _ 25 3 _ rfl⟩
  have hSH : ∀ W, Below w.heap.size w W → (W.cell? ⟨w.heap.size, 0, none⟩ = some (.int .u8 (x.op : Int)) ∧ W.cell? ⟨w.heap.size, 3, none⟩ = some (.slice (some ⟨bb, o, none⟩) 2 cap)) → (W.cell? ⟨w.heap.size, 0, none⟩ = some (.int .u8 (x.op : Int)) ∧ W.cell? ⟨w.heap.size, 3, none⟩ = some (.slice (some ⟨bb, o, none⟩) 2 cap)) ∧ (W.cell? ⟨bb, o, none⟩ = some (.int .u8 (a.op : Int)) ∧ W.cell? ⟨bb, o + 1, none⟩ = some (.int .i64 a.n) ∧ W.cell? ⟨bb, o + 2, none⟩ = some (.string a.name) ∧ W.cell? ⟨bb, o + 3, none⟩ = some (.slice ka a.args.length ca)) ∧ (W.cell? ⟨bb, o + 4, none⟩ = some (.int .u8 (b.op : Int)) ∧ W.cell? ⟨bb, o + 5, none⟩ = some (.int .i64 b.n) ∧ W.cell? ⟨bb, o + 6, none⟩ = some (.string b.name) ∧ W.cell? ⟨bb, o + 7, none⟩ = some (.slice kb b.args.length cb)) := fun W hb h => ⟨h, hk.1.keep hb, hk.2.keep hb⟩
  clear hk b1
  go_enter Tryd.func26, Tryd.ntmps26
  go_wp2_with (go_at_call 44; refine (cr _).mono ?_; rintro e w9 ⟨rfl, rfl⟩; clear cr)
  refine wp_region_held_drew (S := fun W => (W.cell? ⟨w.heap.size, 0, none⟩ = some (.int .u8 (x.op : Int)) ∧ W.cell? ⟨w.heap.size, 3, none⟩ = some (.slice (some ⟨bb, o, none⟩) 2 cap)) ∧ (W.cell? ⟨bb, o, none⟩ = some (.int .u8 (a.op : Int)) ∧ W.cell? ⟨bb, o + 1, none⟩ = some (.int .i64 a.n) ∧ W.cell? ⟨bb, o + 2, none⟩ = some (.string a.name) ∧ W.cell? ⟨bb, o + 3, none⟩ = some (.slice ka a.args.length ca)) ∧ (W.cell? ⟨bb, o + 4, none⟩ = some (.int .u8 (b.op : Int)) ∧ W.cell? ⟨bb, o + 5, none⟩ = some (.int .i64 b.n) ∧ W.cell? ⟨bb, o + 6, none⟩ = some (.string b.name) ∧ W.cell? ⟨bb, o + 7, none⟩ = some (.slice kb b.args.length cb))) (by kernel_rfl) ?_ (fun hHeld => ?_)
  · exact hSH _ B1.out.drew X1
  refine wpAnyH_take (i := 0) (oi := { dst := some 94, op := Go.Op.fieldAddr 25 (Go.Operand.tmp 1) 3, type := 0, pos := _, after := #[], guard := none }) (v := ?_) rfl (by kernel_rfl) (by kernel_rfl) (by kernel_rfl) (fun _ _ _ h => h) (Or.inl ⟨by rfl, ?_⟩) (by assumption) ?_
  rotate_left
  · intro w hSw; (try dsimp only at hSw); go_simp <;> first | with_reducible rfl | (rw [if_neg (by first | omega | (simp only [ByteArray.size_append] at *; omega))])
  simp only [Act.put, List.setIfInBounds_toArray, List.set_cons_zero, List.set_cons_succ]
  refine wpAnyH_take (i := 1) (oi := { dst := some 95, op := Go.Op.load 23 (Go.Operand.tmp 94), type := 23, pos := _, after := #[{ on := 0, ground := Go.Ground.data }], guard := none }) (v := ?_) rfl (by kernel_rfl) (by kernel_rfl) (by kernel_rfl) (fun _ _ _ h => h) (Or.inl ⟨by rfl, ?_⟩) (by assumption) ?_
  rotate_left
  · intro w hSw; (try dsimp only at hSw); go_simp <;> first | with_reducible rfl | (rw [if_neg (by first | omega | (simp only [ByteArray.size_append] at *; omega))])
  simp only [Act.put, List.setIfInBounds_toArray, List.set_cons_zero, List.set_cons_succ]
  refine wpAnyH_take (i := 2) (oi := { dst := some 96, op := Go.Op.indexAddr 23 (Go.Operand.tmp 95) (Go.Operand.const (Go.Value.int Go.IntKind.i64 0)), type := 0, pos := _, after := #[{ on := 1, ground := Go.Ground.data }], guard := none }) (v := ?_) rfl (by kernel_rfl) (by kernel_rfl) (by kernel_rfl) (fun _ _ _ h => h) (Or.inl ⟨by rfl, ?_⟩) (by assumption) ?_
  rotate_left
  · intro w hSw; (try dsimp only at hSw); go_simp <;> first | with_reducible rfl | (rw [if_neg (by first | omega | (simp only [ByteArray.size_append] at *; omega))])
  simp only [Act.put, List.setIfInBounds_toArray, List.set_cons_zero, List.set_cons_succ]
  refine wpAnyH_take (i := 3) (oi := { dst := some 97, op := Go.Op.load 25 (Go.Operand.tmp 96), type := 25, pos := _, after := #[{ on := 2, ground := Go.Ground.data }], guard := none }) (v := ?_) rfl (by kernel_rfl) (by kernel_rfl) (by kernel_rfl) (fun _ _ _ h => h) (Or.inl ⟨by rfl, ?_⟩) (by assumption) ?_
  rotate_left
  · intro w hSw; (try dsimp only at hSw); go_simp <;> first | with_reducible rfl | (rw [if_neg (by first | omega | (simp only [ByteArray.size_append] at *; omega))])
  simp only [Act.put, List.setIfInBounds_toArray, List.set_cons_zero, List.set_cons_succ]
  refine wpAnyH_take (i := 4) (oi := { dst := some 98, op := Go.Op.move (Go.Operand.tmp 5), type := 3, pos := _, after := #[], guard := none }) (v := ?_) rfl (by kernel_rfl) (by kernel_rfl) (by kernel_rfl) (fun _ _ _ h => h) (Or.inl ⟨by rfl, ?_⟩) (by assumption) ?_
  rotate_left
  · intro w hSw; (try dsimp only at hSw); go_simp <;> first | with_reducible rfl | (rw [if_neg (by first | omega | (simp only [ByteArray.size_append] at *; omega))])
  simp only [Act.put, List.setIfInBounds_toArray, List.set_cons_zero, List.set_cons_succ]
  refine wpAnyH_take (i := 7) (oi := { dst := some 101, op := Go.Op.fieldAddr 25 (Go.Operand.tmp 1) 0, type := 0, pos := _, after := #[], guard := none }) (v := ?_) rfl (by kernel_rfl) (by kernel_rfl) (by kernel_rfl) (fun _ _ _ h => h) (Or.inl ⟨by rfl, ?_⟩) (by assumption) ?_
  rotate_left
  · intro w hSw; (try dsimp only at hSw); go_simp <;> first | with_reducible rfl | (rw [if_neg (by first | omega | (simp only [ByteArray.size_append] at *; omega))])
  simp only [Act.put, List.setIfInBounds_toArray, List.set_cons_zero, List.set_cons_succ]
  refine wpAnyH_take (i := 8) (oi := { dst := some 102, op := Go.Op.load 22 (Go.Operand.tmp 101), type := 22, pos := _, after := #[{ on := 7, ground := Go.Ground.data }], guard := none }) (v := ?_) rfl (by kernel_rfl) (by kernel_rfl) (by kernel_rfl) (fun _ _ _ h => h) (Or.inl ⟨by rfl, ?_⟩) (by assumption) ?_
  rotate_left
  · intro w hSw; (try dsimp only at hSw); go_simp <;> first | with_reducible rfl | (rw [if_neg (by first | omega | (simp only [ByteArray.size_append] at *; omega))])
  simp only [Act.put, List.setIfInBounds_toArray, List.set_cons_zero, List.set_cons_succ]
  refine wpAnyH_take (i := 12) (oi := { dst := some 106, op := Go.Op.fieldAddr 25 (Go.Operand.tmp 1) 3, type := 0, pos := _, after := #[], guard := none }) (v := ?_) rfl (by kernel_rfl) (by kernel_rfl) (by kernel_rfl) (fun _ _ _ h => h) (Or.inl ⟨by rfl, ?_⟩) (by assumption) ?_
  rotate_left
  · intro w hSw; (try dsimp only at hSw); go_simp <;> first | with_reducible rfl | (rw [if_neg (by first | omega | (simp only [ByteArray.size_append] at *; omega))])
  simp only [Act.put, List.setIfInBounds_toArray, List.set_cons_zero, List.set_cons_succ]
  refine wpAnyH_take (i := 13) (oi := { dst := some 107, op := Go.Op.load 23 (Go.Operand.tmp 106), type := 23, pos := _, after := #[{ on := 12, ground := Go.Ground.data }], guard := none }) (v := ?_) rfl (by kernel_rfl) (by kernel_rfl) (by kernel_rfl) (fun _ _ _ h => h) (Or.inl ⟨by rfl, ?_⟩) (by assumption) ?_
  rotate_left
  · intro w hSw; (try dsimp only at hSw); go_simp <;> first | with_reducible rfl | (rw [if_neg (by first | omega | (simp only [ByteArray.size_append] at *; omega))])
  simp only [Act.put, List.setIfInBounds_toArray, List.set_cons_zero, List.set_cons_succ]
  refine wpAnyH_take (i := 14) (oi := { dst := some 108, op := Go.Op.indexAddr 23 (Go.Operand.tmp 107) (Go.Operand.const (Go.Value.int Go.IntKind.i64 1)), type := 0, pos := _, after := #[{ on := 13, ground := Go.Ground.data }], guard := none }) (v := ?_) rfl (by kernel_rfl) (by kernel_rfl) (by kernel_rfl) (fun _ _ _ h => h) (Or.inl ⟨by rfl, ?_⟩) (by assumption) ?_
  rotate_left
  · intro w hSw; (try dsimp only at hSw); go_simp <;> first | with_reducible rfl | (rw [if_neg (by first | omega | (simp only [ByteArray.size_append] at *; omega))])
  simp only [Act.put, List.setIfInBounds_toArray, List.set_cons_zero, List.set_cons_succ]
  refine wpAnyH_take (i := 15) (oi := { dst := some 109, op := Go.Op.load 25 (Go.Operand.tmp 108), type := 25, pos := _, after := #[{ on := 14, ground := Go.Ground.data }], guard := none }) (v := ?_) rfl (by kernel_rfl) (by kernel_rfl) (by kernel_rfl) (fun _ _ _ h => h) (Or.inl ⟨by rfl, ?_⟩) (by assumption) ?_
  rotate_left
  · intro w hSw; (try dsimp only at hSw); go_simp <;> first | with_reducible rfl | (rw [if_neg (by first | omega | (simp only [ByteArray.size_append] at *; omega))])
  simp only [Act.put, List.setIfInBounds_toArray, List.set_cons_zero, List.set_cons_succ]
  refine wpAnyH_take (i := 16) (oi := { dst := some 110, op := Go.Op.move (Go.Operand.tmp 3), type := 3, pos := _, after := #[], guard := none }) (v := ?_) rfl (by kernel_rfl) (by kernel_rfl) (by kernel_rfl) (fun _ _ _ h => h) (Or.inl ⟨by rfl, ?_⟩) (by assumption) ?_
  rotate_left
  · intro w hSw; (try dsimp only at hSw); go_simp <;> first | with_reducible rfl | (rw [if_neg (by first | omega | (simp only [ByteArray.size_append] at *; omega))])
  simp only [Act.put, List.setIfInBounds_toArray, List.set_cons_zero, List.set_cons_succ]
  refine wpAnyH_take (i := 17) (oi := { dst := some 111, op := Go.Op.binOp Go.BinOp.add 3 (Go.Operand.tmp 110) (Go.Operand.const (Go.Value.int Go.IntKind.i64 1)) 3, type := 3, pos := _, after := #[{ on := 16, ground := Go.Ground.data }], guard := none }) (v := ?_) rfl (by kernel_rfl) (by kernel_rfl) (by kernel_rfl) (fun _ _ _ h => h) (Or.inl ⟨by rfl, ?_⟩) (by assumption) ?_
  rotate_left
  · intro w hSw; (try dsimp only at hSw); go_simp <;> first | with_reducible rfl | (rw [if_neg (by first | omega | (simp only [ByteArray.size_append] at *; omega))])
  simp only [Act.put, List.setIfInBounds_toArray, List.set_cons_zero, List.set_cons_succ]
  refine wpAnyH_ready (rs := [5]) (by kernel_rfl) (by simp) ?_
  refine AllReadyH.cons (o := { dst := some 99, op := Go.Op.call { callee := Go.Callee.value (Go.Operand.func 46), args := #[Go.Operand.tmp 97, Go.Operand.tmp 98], argTypes := #[25, 3] }, type := 9, pos := _, after := #[{ on := 3, ground := Go.Ground.data }, { on := 4, ground := Go.Ground.data }], guard := none }) rfl (fun K hK => ?_) AllReadyH.nil
  go_simp
  refine (c1 _ (B1.out.drew)).mono ?_
  rintro e w2 ⟨rfl, hw2⟩
  have B2 := hid (bstep (B1.out.drew) hw2)
  have X2 : w2.cell? ⟨w.heap.size, 0, none⟩ = some (.int .u8 (x.op : Int)) ∧ w2.cell? ⟨w.heap.size, 3, none⟩ = some (.slice (some ⟨bb, o, none⟩) 2 cap) := ⟨cell_kept X1.1 hw2, cell_kept X1.2 hw2⟩
  go_wp2_with fail
  refine hK.out _ _ ?_ (fun hHeld1 => ?_)
  · exact hSH _ B2.out X2
  clear hK K
  refine wpAnyH_take (i := 6) (oi := { dst := some 100, op := Go.Op.binOp Go.BinOp.add 9 (Go.Operand.tmp 99) (Go.Operand.const (Go.Value.string { data := #[32] })) 9, type := 9, pos := _, after := #[{ on := 5, ground := Go.Ground.data }], guard := none }) (v := ?_) rfl (by kernel_rfl) (by kernel_rfl) (by kernel_rfl) (fun _ _ _ h => h) (Or.inl ⟨by rfl, ?_⟩) (by assumption) ?_
  rotate_left
  · intro w hSw; (try dsimp only at hSw); go_simp <;> first | with_reducible rfl | (rw [if_neg (by first | omega | (simp only [ByteArray.size_append] at *; omega))])
  simp only [Act.put, List.setIfInBounds_toArray, List.set_cons_zero, List.set_cons_succ]
  refine wpAnyH_ready (rs := [9]) (by kernel_rfl) (by simp) ?_
  refine AllReadyH.cons (o := { dst := some 103, op := Go.Op.call { callee := Go.Callee.value (Go.Operand.func 47), args := #[Go.Operand.tmp 102], argTypes := #[22] }, type := 9, pos := _, after := #[{ on := 8, ground := Go.Ground.data }, { on := 5, ground := Go.Ground.chain }], guard := none }) rfl (fun K hK => ?_) AllReadyH.nil
  go_simp
  refine (cs _ (B2.out)).mono ?_
  rintro e w3 ⟨rfl, hw3⟩
  have B3 := hid (bstep (B2.out) hw3)
  have X3 : w3.cell? ⟨w.heap.size, 0, none⟩ = some (.int .u8 (x.op : Int)) ∧ w3.cell? ⟨w.heap.size, 3, none⟩ = some (.slice (some ⟨bb, o, none⟩) 2 cap) := ⟨cell_kept X2.1 hw3, cell_kept X2.2 hw3⟩
  go_wp2_with fail
  refine hK.out _ _ ?_ (fun hHeld2 => ?_)
  · exact hSH _ B3.out X3
  clear hK K
  refine wpAnyH_take (i := 10) (oi := { dst := some 104, op := Go.Op.binOp Go.BinOp.add 9 (Go.Operand.tmp 100) (Go.Operand.tmp 103) 9, type := 9, pos := _, after := #[{ on := 6, ground := Go.Ground.data }, { on := 9, ground := Go.Ground.data }], guard := none }) (v := ?_) rfl (by kernel_rfl) (by kernel_rfl) (by kernel_rfl) (fun _ _ _ h => h) (Or.inl ⟨by rfl, ?_⟩) (by assumption) ?_
  rotate_left
  · intro w hSw; (try dsimp only at hSw); go_simp <;> first | with_reducible rfl | (rw [if_neg (by first | omega | (simp only [ByteArray.size_append] at *; omega))])
  simp only [Act.put, List.setIfInBounds_toArray, List.set_cons_zero, List.set_cons_succ]
  refine wpAnyH_take (i := 11) (oi := { dst := some 105, op := Go.Op.binOp Go.BinOp.add 9 (Go.Operand.tmp 104) (Go.Operand.const (Go.Value.string { data := #[32] })) 9, type := 9, pos := _, after := #[{ on := 10, ground := Go.Ground.data }], guard := none }) (v := ?_) rfl (by kernel_rfl) (by kernel_rfl) (by kernel_rfl) (fun _ _ _ h => h) (Or.inl ⟨by rfl, ?_⟩) (by assumption) ?_
  rotate_left
  · intro w hSw; (try dsimp only at hSw); go_simp <;> first | with_reducible rfl | (rw [if_neg (by first | omega | (simp only [ByteArray.size_append] at *; omega))])
  simp only [Act.put, List.setIfInBounds_toArray, List.set_cons_zero, List.set_cons_succ]
  refine wpAnyH_ready (rs := [18]) (by kernel_rfl) (by simp) ?_
  refine AllReadyH.cons (o := { dst := some 112, op := Go.Op.call { callee := Go.Callee.value (Go.Operand.func 46), args := #[Go.Operand.tmp 109, Go.Operand.tmp 111], argTypes := #[25, 3] }, type := 9, pos := _, after := #[{ on := 15, ground := Go.Ground.data }, { on := 17, ground := Go.Ground.data }, { on := 9, ground := Go.Ground.chain }], guard := none }) rfl (fun K hK => ?_) AllReadyH.nil
  go_simp
  refine (c2 _ (B3.out)).mono ?_
  rintro e w4 ⟨rfl, hw4⟩
  have B4 := hid (bstep (B3.out) hw4)
  have X4 : w4.cell? ⟨w.heap.size, 0, none⟩ = some (.int .u8 (x.op : Int)) ∧ w4.cell? ⟨w.heap.size, 3, none⟩ = some (.slice (some ⟨bb, o, none⟩) 2 cap) := ⟨cell_kept X3.1 hw4, cell_kept X3.2 hw4⟩
  go_wp2_with fail
  refine hK.out _ _ ?_ (fun hHeld3 => ?_)
  · exact hSH _ B4.out X4
  clear hK K
  refine wpAnyH_take (i := 19) (oi := { dst := some 113, op := Go.Op.binOp Go.BinOp.add 9 (Go.Operand.tmp 105) (Go.Operand.tmp 112) 9, type := 9, pos := _, after := #[{ on := 11, ground := Go.Ground.data }, { on := 18, ground := Go.Ground.data }], guard := none }) (v := ?_) rfl (by kernel_rfl) (by kernel_rfl) (by kernel_rfl) (fun _ _ _ h => h) (Or.inl ⟨by rfl, ?_⟩) (by assumption) ?_
  rotate_left
  · intro w hSw; (try dsimp only at hSw); go_simp <;> first | with_reducible rfl | (rw [if_neg (by first | omega | (simp only [ByteArray.size_append] at *; omega))])
  simp only [Act.put, List.setIfInBounds_toArray, List.set_cons_zero, List.set_cons_succ]
  refine wpAnyH_take (i := 20) (oi := { dst := some 2, op := Go.Op.assign (Go.Operand.tmp 113), type := 9, pos := _, after := #[{ on := 19, ground := Go.Ground.data }, { on := 18, ground := Go.Ground.chain }, { on := 0, ground := Go.Ground.phase }, { on := 1, ground := Go.Ground.phase }, { on := 2, ground := Go.Ground.phase }, { on := 3, ground := Go.Ground.phase }, { on := 4, ground := Go.Ground.phase }, { on := 5, ground := Go.Ground.phase }, { on := 6, ground := Go.Ground.phase }, { on := 7, ground := Go.Ground.phase }, { on := 8, ground := Go.Ground.phase }, { on := 9, ground := Go.Ground.phase }, { on := 10, ground := Go.Ground.phase }, { on := 11, ground := Go.Ground.phase }, { on := 12, ground := Go.Ground.phase }, { on := 13, ground := Go.Ground.phase }, { on := 14, ground := Go.Ground.phase }, { on := 15, ground := Go.Ground.phase }, { on := 16, ground := Go.Ground.phase }, { on := 17, ground := Go.Ground.phase }, { on := 18, ground := Go.Ground.phase }, { on := 19, ground := Go.Ground.phase }], guard := none }) (v := ?_) rfl (by kernel_rfl) (by kernel_rfl) (by kernel_rfl) (fun _ _ _ h => h) (Or.inl ⟨by rfl, ?_⟩) (by assumption) ?_
  rotate_left
  · intro w hSw; (try dsimp only at hSw); go_simp <;> first | with_reducible rfl | (rw [if_neg (by first | omega | (simp only [ByteArray.size_append] at *; omega))])
  simp only [Act.put, List.setIfInBounds_toArray, List.set_cons_zero, List.set_cons_succ]
  refine wpAnyH_done (by kernel_rfl) ?_ _
  go_wp2
  go_ret
  exact ⟨rfl, B4.out⟩
end Go.Proofs.YtkieljleopbhoaaDoor.Lex
