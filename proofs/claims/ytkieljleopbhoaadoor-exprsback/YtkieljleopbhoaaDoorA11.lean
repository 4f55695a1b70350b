/-
  The walk of the law on what is written and read again, whatever it is.
-/
import Derived.Test.YtkieljleopbhoaaDoorA9
import Derived.Test.YtkieljleopbhoaaDoorA8
import Derived.Test.YtkieljleopbhoaaDoorA10
namespace Go.Proofs.YtkieljleopbhoaaDoor.Lex
open Go.ChangeShapes Go.WideShapes Go.ChangeAt Go.RowKit Go.Joins

theorem rd_yes (T : ByteArray) (x : Ex) (h : readX T.data.toList = some x) (hs : T.size ≤ 65536) (w : World) (A : AEnv w) : Calls Tryd.prog 15 #[.string T] w fun e w' => Below w.heap.size w w' ∧ ∃ ao cap, e = .returned (.tuple #[exV x (.slice ao x.args.length cap), .bool true]) ∧ St w' x (.slice ao x.args.length cap) := by
  refine (readE T w hs A).mono ?_
  rintro e w' ⟨hb, y, ao, cap, rfl, st, hy⟩
  obtain rfl := hy x h
  rw [h]
  exact ⟨hb, ao, cap, rfl, st.st⟩
theorem rd_no (T : ByteArray) (h : readX T.data.toList = none) (hs : T.size ≤ 65536) (w : World) (A : AEnv w) : Calls Tryd.prog 15 #[.string T] w fun e w' => Below w.heap.size w w' ∧ ∃ y ao cap, e = .returned (.tuple #[exV y (.slice ao y.args.length cap), .bool false]) := by
  refine (readE T w hs A).mono ?_
  rintro e w' ⟨hb, y, ao, cap, rfl, st, hy⟩
  rw [h]
  exact ⟨hb, y, ao, cap, rfl⟩
theorem readX_chk {l : List UInt8} {x : Ex} (h : readX l = some x) : chk x = true := by
  unfold readX at h
  split at h
  · cases h
  · split at h
    · split at h
      · rename_i hc; cases h; exact hc.1
      · cases h
    · cases h
theorem tx_yes (x : Ex) (hc : chk x = true) (w : World) (s : Value) (hS : St w x s) (hE : Env w) : Calls Tryd.prog 9 #[exV x s] w fun e w' => e = .returned (.tuple #[.string ⟨(wr x).toArray⟩, .int .i64 0]) ∧ Below w.heap.size w w' := by
  have e1 : txt x = wr x := by unfold txt; rw [hc]; rfl
  have e2 : txtE x = 0 := by unfold txtE; rw [hc]; rfl
  have := text x w s hS hE
  rw [e1, e2] at this
  exact this
theorem tx_no (x : Ex) (hc : chk x = false) (w : World) (s : Value) (hS : St w x s) (hE : Env w) : Calls Tryd.prog 9 #[exV x s] w fun e w' => e = .returned (.tuple #[.string ⟨#[]⟩, .int .i64 1]) ∧ Below w.heap.size w w' := by
  have e1 : txt x = [] := by unfold txt; rw [hc]; rfl
  have e2 : txtE x = 1 := by unfold txtE; rw [hc]; rfl
  have := text x w s hS hE
  rw [e1, e2] at this
  exact this
theorem wr_small {x : Ex} {w : World} {s : Value} (hc : chk x = true) (hS : St w x s) : (⟨(wr x).toArray⟩ : ByteArray).size ≤ 65536 := by
  unfold chk at hc
  obtain ⟨k, hk⟩ := Option.isSome_iff_exists.1 hc
  have h1 := wr_len 32 200 x k w s hk hS
  have h2 := sz_le 32 200 x k hk
  have : (⟨(wr x).toArray⟩ : ByteArray).size = (wr x).length := by rw [Lib.size_eq]
  omega
theorem tx_rd (x : Ex) (hc : chk x = true) {w : World} {s : Value} (hS : St w x s) : ∃ T : ByteArray, (∀ (W : World) (s : Value), St W x s → AEnv W → Calls Tryd.prog 9 #[exV x s] W fun e w' => e = .returned (.tuple #[.string T, .int .i64 0]) ∧ Below W.heap.size W w') ∧ (∀ (W : World), AEnv W → Calls Tryd.prog 15 #[.string T] W fun e w' => Below W.heap.size W w' ∧ ∃ ao cap, e = .returned (.tuple #[exV x (.slice ao x.args.length cap), .bool true]) ∧ St w' x (.slice ao x.args.length cap)) :=
  ⟨⟨(wr x).toArray⟩, fun W s h A => tx_yes x hc W s h A.env, fun W A => rd_yes _ x (read_wr hc hS) (wr_small hc hS) W A⟩
set_option maxRecDepth 100000 in
set_option maxHeartbeats 2000000 in
theorem walk_long (al : ∀ (w : World), AEnv w → Calls Tryd.prog 14 #[] w fun e w' => e = .returned (.bool true) ∧ Below w.heap.size w w') (x : Ex) (s : Value) (S : ByteArray) (w : World) (hS : St w x s) (A : AEnv w) (h : 5000 < S.size) : Calls Tryd.prog 4 #[exV x s, .string S] w fun e w' => e = .returned (.bool true) ∧ Below w.heap.size w w' := by
  obtain ⟨ao, cap, sl, rfl, _⟩ := hS.out
  have AV0 := hid ((AV.push (L := []) ⟨Below.refl w.heap.size w, fun p hp => by cases hp⟩ (ex4 x (.slice ao x.args.length cap))))
  have HS := hid hS
  have HA := hid A
  have hz5 : decide (5000 < (S.size : Int)) = true := decide_eq_true (by omega)
  clear hS A
  go_enter Tryd.func4, Tryd.ntmps4
  go_wp2_with (first
    | (go_at_call 14; refine (al _ (HA.out.below AV0.out.below)).mono ?_; rintro e w1 ⟨rfl, b1⟩; have AV1 := hid (AV0.out.step b1); obtain ⟨p0, p1, p2, p3⟩ := row_cells4 (AV1.out.row w.heap.size (ex4 x (.slice ao x.args.length cap)) (by simp)); clear AV0 b1)
    | (go_at_call 7; refine (size_any _ x (Nat.le_refl _) _ _ (HS.out.keep AV1.out.below)).mono ?_; rintro e w2 ⟨⟨m, rfl⟩, b2⟩; have AV2 := hid (AV1.out.step b2); clear p0 p1 p2 p3; obtain ⟨p0, p1, p2, p3⟩ := row_cells4 (AV2.out.row w.heap.size (ex4 x (.slice ao x.args.length cap)) (by simp)); clear AV1 b2)
    | (go_at_call 14; refine (al _ (HA.out.below AV2.out.below)).mono ?_; rintro e w90 ⟨rfl, b90⟩; have BZ := hid (bstep AV2.out.below b90); clear AV2 b90))
  all_goals (go_ret; first | exact ⟨rfl, BZ.out⟩ | exact ⟨rfl, AV2.out.below⟩)
set_option maxRecDepth 100000 in
set_option maxHeartbeats 2000000 in
theorem walk_yn (al : ∀ (w : World), AEnv w → Calls Tryd.prog 14 #[] w fun e w' => e = .returned (.bool true) ∧ Below w.heap.size w w') (x : Ex) (s : Value) (S : ByteArray) (w : World) (hS : St w x s) (A : AEnv w) (h : S.size ≤ 5000) (hc : chk x = true) (hr : readX S.data.toList = none) : Calls Tryd.prog 4 #[exV x s, .string S] w fun e w' => e = .returned (.bool true) ∧ Below w.heap.size w w' := by
  obtain ⟨ao, cap, sl, rfl, _⟩ := hS.out
  have AV0 := hid ((AV.push (L := []) ⟨Below.refl w.heap.size w, fun p hp => by cases hp⟩ (ex4 x (.slice ao x.args.length cap))))
  have HS := hid hS
  have HA := hid A
  have hz5 : decide (5000 < (S.size : Int)) = false := decide_eq_false (by omega)
  have hz : S.size ≤ 65536 := by omega
  obtain ⟨T, c9, c15⟩ := tx_rd x hc hS
  have c11 := check x
  rw [hc] at c11
  clear h hc
  clear hS A
  go_enter Tryd.func4, Tryd.ntmps4
  go_wp2_with (first
    | (go_at_call 14; refine (al _ (HA.out.below AV0.out.below)).mono ?_; rintro e w1 ⟨rfl, b1⟩; have AV1 := hid (AV0.out.step b1); obtain ⟨p0, p1, p2, p3⟩ := row_cells4 (AV1.out.row w.heap.size (ex4 x (.slice ao x.args.length cap)) (by simp)); clear AV0 b1)
    | (go_at_call 7; refine (size_any _ x (Nat.le_refl _) _ _ (HS.out.keep AV1.out.below)).mono ?_; rintro e w2 ⟨⟨m, rfl⟩, b2⟩; have AV2 := hid (AV1.out.step b2); clear p0 p1 p2 p3; obtain ⟨p0, p1, p2, p3⟩ := row_cells4 (AV2.out.row w.heap.size (ex4 x (.slice ao x.args.length cap)) (by simp)); clear AV1 b2)
    | (go_at_call 14; refine (al _ (HA.out.below AV2.out.below)).mono ?_; rintro e w90 ⟨rfl, b90⟩; have BZ := hid (bstep AV2.out.below b90); clear AV2 b90)
    | (go_at_call 9; refine (c9 _ _ (HS.out.keep AV2.out.below) (HA.out.below AV2.out.below)).mono ?_; rintro e w3 ⟨rfl, b3⟩; have AV3 := hid (AV2.out.step b3); clear p0 p1 p2 p3; obtain ⟨p0, p1, p2, p3⟩ := row_cells4 (AV3.out.row w.heap.size (ex4 x (.slice ao x.args.length cap)) (by simp)); clear AV2 b3 c9)
    | (go_at_call 11; refine (c11 _ _ (HS.out.keep AV3.out.below) (HA.out.below AV3.out.below).env.res (HA.out.below AV3.out.below).env.joins).mono ?_; rintro e w4 ⟨rfl, b4⟩; have AV4 := hid (AV3.out.step b4); clear p0 p1 p2 p3; obtain ⟨p0, p1, p2, p3⟩ := row_cells4 (AV4.out.row w.heap.size (ex4 x (.slice ao x.args.length cap)) (by simp)); clear AV3 b4 c11)
    | (go_at_call 15; refine (c15 _ (HA.out.below AV4.out.below)).mono ?_; rintro e w5 ⟨b5, a5, c5, rfl, st5⟩; have AV5 := hid ((AV4.out.step b5).push (ex4 x (.slice a5 x.args.length c5))); have ST5 := hid (st5.keep ((Below.refl w5.heap.size w5).alloc (Nat.le_refl _) (.cells (ex4 x (.slice a5 x.args.length c5)) 25))); clear p0 p1 p2 p3; obtain ⟨p0, p1, p2, p3⟩ := row_cells4 (AV5.out.row w.heap.size (ex4 x (.slice ao x.args.length cap)) (by simp)); obtain ⟨q0, q1, q2, q3⟩ := row_cells4 (AV5.out.row w5.heap.size (ex4 x (.slice a5 x.args.length c5)) (by simp)); clear AV4 b5 c15 st5)
    | (go_at_call 16; refine (same x _ _ _ ST5.out (HS.out.keep AV5.out.below)).mono ?_; rintro e w6 ⟨rfl, b6⟩; have AV6 := hid (AV5.out.step b6); clear p0 p1 p2 p3 q0 q1 q2 q3; obtain ⟨p0, p1, p2, p3⟩ := row_cells4 (AV6.out.row w.heap.size (ex4 x (.slice ao x.args.length cap)) (by simp)); clear AV5 b6 ST5)
    | (go_at_call 15; refine (rd_no S hr hz _ (HA.out.below AV6.out.below)).mono ?_; rintro e w7 ⟨b7, y, a7, c7, rfl⟩; have AV7 := hid ((AV6.out.step b7).push (ex4 y (.slice a7 y.args.length c7))); clear p0 p1 p2 p3; clear AV6 b7 hr))
  all_goals (go_ret; first | exact ⟨rfl, BZ.out⟩ | exact ⟨rfl, AV7.out.below⟩)
set_option maxRecDepth 100000 in
set_option maxHeartbeats 2000000 in
theorem walk_yy (al : ∀ (w : World), AEnv w → Calls Tryd.prog 14 #[] w fun e w' => e = .returned (.bool true) ∧ Below w.heap.size w w') (x : Ex) (s : Value) (S : ByteArray) (w : World) (hS : St w x s) (A : AEnv w) (h : S.size ≤ 5000) (hc : chk x = true) (y : Ex) (hr : readX S.data.toList = some y) : Calls Tryd.prog 4 #[exV x s, .string S] w fun e w' => e = .returned (.bool true) ∧ Below w.heap.size w w' := by
  obtain ⟨ao, cap, sl, rfl, _⟩ := hS.out
  have AV0 := hid ((AV.push (L := []) ⟨Below.refl w.heap.size w, fun p hp => by cases hp⟩ (ex4 x (.slice ao x.args.length cap))))
  have HS := hid hS
  have HA := hid A
  have hz5 : decide (5000 < (S.size : Int)) = false := decide_eq_false (by omega)
  have hz : S.size ≤ 65536 := by omega
  have hcy := readX_chk hr
  have c11y := check y
  rw [hcy] at c11y
  obtain ⟨T, c9, c15⟩ := tx_rd x hc hS
  have c11 := check x
  rw [hc] at c11
  clear h hc
  clear hS A
  go_enter Tryd.func4, Tryd.ntmps4
  go_wp2_with (first
    | (go_at_call 14; refine (al _ (HA.out.below AV0.out.below)).mono ?_; rintro e w1 ⟨rfl, b1⟩; have AV1 := hid (AV0.out.step b1); obtain ⟨p0, p1, p2, p3⟩ := row_cells4 (AV1.out.row w.heap.size (ex4 x (.slice ao x.args.length cap)) (by simp)); clear AV0 b1)
    | (go_at_call 7; refine (size_any _ x (Nat.le_refl _) _ _ (HS.out.keep AV1.out.below)).mono ?_; rintro e w2 ⟨⟨m, rfl⟩, b2⟩; have AV2 := hid (AV1.out.step b2); clear p0 p1 p2 p3; obtain ⟨p0, p1, p2, p3⟩ := row_cells4 (AV2.out.row w.heap.size (ex4 x (.slice ao x.args.length cap)) (by simp)); clear AV1 b2)
    | (go_at_call 14; refine (al _ (HA.out.below AV2.out.below)).mono ?_; rintro e w90 ⟨rfl, b90⟩; have BZ := hid (bstep AV2.out.below b90); clear AV2 b90)
    | (go_at_call 9; refine (c9 _ _ (HS.out.keep AV2.out.below) (HA.out.below AV2.out.below)).mono ?_; rintro e w3 ⟨rfl, b3⟩; have AV3 := hid (AV2.out.step b3); clear p0 p1 p2 p3; obtain ⟨p0, p1, p2, p3⟩ := row_cells4 (AV3.out.row w.heap.size (ex4 x (.slice ao x.args.length cap)) (by simp)); clear AV2 b3 c9)
    | (go_at_call 11; refine (c11 _ _ (HS.out.keep AV3.out.below) (HA.out.below AV3.out.below).env.res (HA.out.below AV3.out.below).env.joins).mono ?_; rintro e w4 ⟨rfl, b4⟩; have AV4 := hid (AV3.out.step b4); clear p0 p1 p2 p3; obtain ⟨p0, p1, p2, p3⟩ := row_cells4 (AV4.out.row w.heap.size (ex4 x (.slice ao x.args.length cap)) (by simp)); clear AV3 b4 c11)
    | (go_at_call 15; refine (c15 _ (HA.out.below AV4.out.below)).mono ?_; rintro e w5 ⟨b5, a5, c5, rfl, st5⟩; have AV5 := hid ((AV4.out.step b5).push (ex4 x (.slice a5 x.args.length c5))); have ST5 := hid (st5.keep ((Below.refl w5.heap.size w5).alloc (Nat.le_refl _) (.cells (ex4 x (.slice a5 x.args.length c5)) 25))); clear p0 p1 p2 p3; obtain ⟨p0, p1, p2, p3⟩ := row_cells4 (AV5.out.row w.heap.size (ex4 x (.slice ao x.args.length cap)) (by simp)); obtain ⟨q0, q1, q2, q3⟩ := row_cells4 (AV5.out.row w5.heap.size (ex4 x (.slice a5 x.args.length c5)) (by simp)); clear AV4 b5 c15 st5)
    | (go_at_call 16; refine (same x _ _ _ ST5.out (HS.out.keep AV5.out.below)).mono ?_; rintro e w6 ⟨rfl, b6⟩; have AV6 := hid (AV5.out.step b6); clear p0 p1 p2 p3 q0 q1 q2 q3; obtain ⟨p0, p1, p2, p3⟩ := row_cells4 (AV6.out.row w.heap.size (ex4 x (.slice ao x.args.length cap)) (by simp)); clear AV5 b6 ST5)
    | (go_at_call 15; refine (rd_yes S y hr hz _ (HA.out.below AV6.out.below)).mono ?_; rintro e w7 ⟨b7, a7, c7, rfl, st7⟩; have AV7 := hid ((AV6.out.step b7).push (ex4 y (.slice a7 y.args.length c7))); have ST7 := hid (st7.keep ((Below.refl w7.heap.size w7).alloc (Nat.le_refl _) (.cells (ex4 y (.slice a7 y.args.length c7)) 25))); obtain ⟨T2, d9, d15⟩ := tx_rd y hcy ST7.out; clear p0 p1 p2 p3; obtain ⟨p0, p1, p2, p3⟩ := row_cells4 (AV7.out.row w7.heap.size (ex4 y (.slice a7 y.args.length c7)) (by simp)); clear AV6 b7 st7 hr)
    | (go_at_call 9; refine (d9 _ _ ST7.out (HA.out.below AV7.out.below)).mono ?_; rintro e w8 ⟨rfl, b8⟩; have AV8 := hid (AV7.out.step b8); have ST8 := hid (ST7.out.keep b8); clear p0 p1 p2 p3; obtain ⟨p0, p1, p2, p3⟩ := row_cells4 (AV8.out.row w7.heap.size (ex4 y (.slice a7 y.args.length c7)) (by simp)); clear AV7 b8 d9 ST7)
    | (go_at_call 15; refine (d15 _ (HA.out.below AV8.out.below)).mono ?_; rintro e w9 ⟨b9, a9, c9, rfl, st9⟩; have AV9 := hid ((AV8.out.step b9).push (ex4 y (.slice a9 y.args.length c9))); have SZ9 := hid (st9.keep ((Below.refl w9.heap.size w9).alloc (Nat.le_refl _) (.cells (ex4 y (.slice a9 y.args.length c9)) 25))); have ST9 := hid (ST8.out.keep (bstep b9 ((Below.refl w9.heap.size w9).alloc (Nat.le_refl _) (.cells (ex4 y (.slice a9 y.args.length c9)) 25)))); clear p0 p1 p2 p3; obtain ⟨p0, p1, p2, p3⟩ := row_cells4 (AV9.out.row w7.heap.size (ex4 y (.slice a7 y.args.length c7)) (by simp)); obtain ⟨q0, q1, q2, q3⟩ := row_cells4 (AV9.out.row w9.heap.size (ex4 y (.slice a9 y.args.length c9)) (by simp)); clear AV8 b9 d15 st9 ST8)
    | (go_at_call 11; refine (c11y _ _ ST9.out (HA.out.below AV9.out.below).env.res (HA.out.below AV9.out.below).env.joins).mono ?_; rintro e w10 ⟨rfl, b10⟩; have AV10 := hid (AV9.out.step b10); have ST10 := hid (ST9.out.keep b10); have SZ10 := hid (SZ9.out.keep b10); clear p0 p1 p2 p3 q0 q1 q2 q3; obtain ⟨p0, p1, p2, p3⟩ := row_cells4 (AV10.out.row w7.heap.size (ex4 y (.slice a7 y.args.length c7)) (by simp)); obtain ⟨q0, q1, q2, q3⟩ := row_cells4 (AV10.out.row w9.heap.size (ex4 y (.slice a9 y.args.length c9)) (by simp)); clear AV9 b10 ST9 SZ9 c11y)
    | (go_at_call 16; refine (same y _ _ _ SZ10.out ST10.out).mono ?_; rintro e w11 ⟨rfl, b11⟩; have AV11 := hid (AV10.out.step b11); clear p0 p1 p2 p3 q0 q1 q2 q3; clear AV10 b11 ST10 SZ10))
  all_goals (go_ret; first | exact ⟨rfl, BZ.out⟩ | exact ⟨rfl, AV11.out.below⟩)
set_option maxRecDepth 100000 in
set_option maxHeartbeats 2000000 in
theorem walk_nn (al : ∀ (w : World), AEnv w → Calls Tryd.prog 14 #[] w fun e w' => e = .returned (.bool true) ∧ Below w.heap.size w w') (x : Ex) (s : Value) (S : ByteArray) (w : World) (hS : St w x s) (A : AEnv w) (h : S.size ≤ 5000) (hc : chk x = false) (hr : readX S.data.toList = none) : Calls Tryd.prog 4 #[exV x s, .string S] w fun e w' => e = .returned (.bool true) ∧ Below w.heap.size w w' := by
  obtain ⟨ao, cap, sl, rfl, _⟩ := hS.out
  have AV0 := hid ((AV.push (L := []) ⟨Below.refl w.heap.size w, fun p hp => by cases hp⟩ (ex4 x (.slice ao x.args.length cap))))
  have HS := hid hS
  have HA := hid A
  have hz5 : decide (5000 < (S.size : Int)) = false := decide_eq_false (by omega)
  have hz : S.size ≤ 65536 := by omega
  have c9 := tx_no x hc
  have c11 := check x
  rw [hc] at c11
  clear h hc
  clear hS A
  go_enter Tryd.func4, Tryd.ntmps4
  go_wp2_with (first
    | (go_at_call 14; refine (al _ (HA.out.below AV0.out.below)).mono ?_; rintro e w1 ⟨rfl, b1⟩; have AV1 := hid (AV0.out.step b1); obtain ⟨p0, p1, p2, p3⟩ := row_cells4 (AV1.out.row w.heap.size (ex4 x (.slice ao x.args.length cap)) (by simp)); clear AV0 b1)
    | (go_at_call 7; refine (size_any _ x (Nat.le_refl _) _ _ (HS.out.keep AV1.out.below)).mono ?_; rintro e w2 ⟨⟨m, rfl⟩, b2⟩; have AV2 := hid (AV1.out.step b2); clear p0 p1 p2 p3; obtain ⟨p0, p1, p2, p3⟩ := row_cells4 (AV2.out.row w.heap.size (ex4 x (.slice ao x.args.length cap)) (by simp)); clear AV1 b2)
    | (go_at_call 14; refine (al _ (HA.out.below AV2.out.below)).mono ?_; rintro e w90 ⟨rfl, b90⟩; have BZ := hid (bstep AV2.out.below b90); clear AV2 b90)
    | (go_at_call 9; refine (c9 _ _ (HS.out.keep AV2.out.below) (HA.out.below AV2.out.below).env).mono ?_; rintro e w3 ⟨rfl, b3⟩; have AV3 := hid (AV2.out.step b3); clear p0 p1 p2 p3; obtain ⟨p0, p1, p2, p3⟩ := row_cells4 (AV3.out.row w.heap.size (ex4 x (.slice ao x.args.length cap)) (by simp)); clear AV2 b3 c9)
    | (go_at_call 11; refine (c11 _ _ (HS.out.keep AV3.out.below) (HA.out.below AV3.out.below).env.res (HA.out.below AV3.out.below).env.joins).mono ?_; rintro e w4 ⟨rfl, b4⟩; have AV4 := hid (AV3.out.step b4); clear p0 p1 p2 p3; obtain ⟨p0, p1, p2, p3⟩ := row_cells4 (AV4.out.row w.heap.size (ex4 x (.slice ao x.args.length cap)) (by simp)); clear AV3 b4 c11)
    | (go_at_call 15; refine (rd_no S hr hz _ (HA.out.below AV4.out.below)).mono ?_; rintro e w5 ⟨b5, y, a5, c5, rfl⟩; have AV5 := hid ((AV4.out.step b5).push (ex4 y (.slice a5 y.args.length c5))); clear p0 p1 p2 p3; clear AV4 b5 hr))
  all_goals (go_ret; first | exact ⟨rfl, BZ.out⟩ | exact ⟨rfl, AV5.out.below⟩)
set_option maxRecDepth 100000 in
set_option maxHeartbeats 2000000 in
theorem walk_ny (al : ∀ (w : World), AEnv w → Calls Tryd.prog 14 #[] w fun e w' => e = .returned (.bool true) ∧ Below w.heap.size w w') (x : Ex) (s : Value) (S : ByteArray) (w : World) (hS : St w x s) (A : AEnv w) (h : S.size ≤ 5000) (hc : chk x = false) (y : Ex) (hr : readX S.data.toList = some y) : Calls Tryd.prog 4 #[exV x s, .string S] w fun e w' => e = .returned (.bool true) ∧ Below w.heap.size w w' := by
  obtain ⟨ao, cap, sl, rfl, _⟩ := hS.out
  have AV0 := hid ((AV.push (L := []) ⟨Below.refl w.heap.size w, fun p hp => by cases hp⟩ (ex4 x (.slice ao x.args.length cap))))
  have HS := hid hS
  have HA := hid A
  have hz5 : decide (5000 < (S.size : Int)) = false := decide_eq_false (by omega)
  have hz : S.size ≤ 65536 := by omega
  have hcy := readX_chk hr
  have c11y := check y
  rw [hcy] at c11y
  have c9 := tx_no x hc
  have c11 := check x
  rw [hc] at c11
  clear h hc
  clear hS A
  go_enter Tryd.func4, Tryd.ntmps4
  go_wp2_with (first
    | (go_at_call 14; refine (al _ (HA.out.below AV0.out.below)).mono ?_; rintro e w1 ⟨rfl, b1⟩; have AV1 := hid (AV0.out.step b1); obtain ⟨p0, p1, p2, p3⟩ := row_cells4 (AV1.out.row w.heap.size (ex4 x (.slice ao x.args.length cap)) (by simp)); clear AV0 b1)
    | (go_at_call 7; refine (size_any _ x (Nat.le_refl _) _ _ (HS.out.keep AV1.out.below)).mono ?_; rintro e w2 ⟨⟨m, rfl⟩, b2⟩; have AV2 := hid (AV1.out.step b2); clear p0 p1 p2 p3; obtain ⟨p0, p1, p2, p3⟩ := row_cells4 (AV2.out.row w.heap.size (ex4 x (.slice ao x.args.length cap)) (by simp)); clear AV1 b2)
    | (go_at_call 14; refine (al _ (HA.out.below AV2.out.below)).mono ?_; rintro e w90 ⟨rfl, b90⟩; have BZ := hid (bstep AV2.out.below b90); clear AV2 b90)
    | (go_at_call 9; refine (c9 _ _ (HS.out.keep AV2.out.below) (HA.out.below AV2.out.below).env).mono ?_; rintro e w3 ⟨rfl, b3⟩; have AV3 := hid (AV2.out.step b3); clear p0 p1 p2 p3; obtain ⟨p0, p1, p2, p3⟩ := row_cells4 (AV3.out.row w.heap.size (ex4 x (.slice ao x.args.length cap)) (by simp)); clear AV2 b3 c9)
    | (go_at_call 11; refine (c11 _ _ (HS.out.keep AV3.out.below) (HA.out.below AV3.out.below).env.res (HA.out.below AV3.out.below).env.joins).mono ?_; rintro e w4 ⟨rfl, b4⟩; have AV4 := hid (AV3.out.step b4); clear p0 p1 p2 p3; obtain ⟨p0, p1, p2, p3⟩ := row_cells4 (AV4.out.row w.heap.size (ex4 x (.slice ao x.args.length cap)) (by simp)); clear AV3 b4 c11)
    | (go_at_call 15; refine (rd_yes S y hr hz _ (HA.out.below AV4.out.below)).mono ?_; rintro e w5 ⟨b5, a5, c5, rfl, st5⟩; have AV5 := hid ((AV4.out.step b5).push (ex4 y (.slice a5 y.args.length c5))); have ST5 := hid (st5.keep ((Below.refl w5.heap.size w5).alloc (Nat.le_refl _) (.cells (ex4 y (.slice a5 y.args.length c5)) 25))); obtain ⟨T2, d9, d15⟩ := tx_rd y hcy ST5.out; clear p0 p1 p2 p3; obtain ⟨p0, p1, p2, p3⟩ := row_cells4 (AV5.out.row w5.heap.size (ex4 y (.slice a5 y.args.length c5)) (by simp)); clear AV4 b5 st5 hr)
    | (go_at_call 9; refine (d9 _ _ ST5.out (HA.out.below AV5.out.below)).mono ?_; rintro e w6 ⟨rfl, b6⟩; have AV6 := hid (AV5.out.step b6); have ST6 := hid (ST5.out.keep b6); clear p0 p1 p2 p3; obtain ⟨p0, p1, p2, p3⟩ := row_cells4 (AV6.out.row w5.heap.size (ex4 y (.slice a5 y.args.length c5)) (by simp)); clear AV5 b6 d9 ST5)
    | (go_at_call 15; refine (d15 _ (HA.out.below AV6.out.below)).mono ?_; rintro e w7 ⟨b7, a7, c7, rfl, st7⟩; have AV7 := hid ((AV6.out.step b7).push (ex4 y (.slice a7 y.args.length c7))); have SZ7 := hid (st7.keep ((Below.refl w7.heap.size w7).alloc (Nat.le_refl _) (.cells (ex4 y (.slice a7 y.args.length c7)) 25))); have ST7 := hid (ST6.out.keep (bstep b7 ((Below.refl w7.heap.size w7).alloc (Nat.le_refl _) (.cells (ex4 y (.slice a7 y.args.length c7)) 25)))); clear p0 p1 p2 p3; obtain ⟨p0, p1, p2, p3⟩ := row_cells4 (AV7.out.row w5.heap.size (ex4 y (.slice a5 y.args.length c5)) (by simp)); obtain ⟨q0, q1, q2, q3⟩ := row_cells4 (AV7.out.row w7.heap.size (ex4 y (.slice a7 y.args.length c7)) (by simp)); clear AV6 b7 d15 st7 ST6)
    | (go_at_call 11; refine (c11y _ _ ST7.out (HA.out.below AV7.out.below).env.res (HA.out.below AV7.out.below).env.joins).mono ?_; rintro e w8 ⟨rfl, b8⟩; have AV8 := hid (AV7.out.step b8); have ST8 := hid (ST7.out.keep b8); have SZ8 := hid (SZ7.out.keep b8); clear p0 p1 p2 p3 q0 q1 q2 q3; obtain ⟨p0, p1, p2, p3⟩ := row_cells4 (AV8.out.row w5.heap.size (ex4 y (.slice a5 y.args.length c5)) (by simp)); obtain ⟨q0, q1, q2, q3⟩ := row_cells4 (AV8.out.row w7.heap.size (ex4 y (.slice a7 y.args.length c7)) (by simp)); clear AV7 b8 ST7 SZ7 c11y)
    | (go_at_call 16; refine (same y _ _ _ SZ8.out ST8.out).mono ?_; rintro e w9 ⟨rfl, b9⟩; have AV9 := hid (AV8.out.step b9); clear p0 p1 p2 p3 q0 q1 q2 q3; clear AV8 b9 ST8 SZ8))
  all_goals (go_ret; first | exact ⟨rfl, BZ.out⟩ | exact ⟨rfl, AV9.out.below⟩)
/-- The walk of the law, whatever the input. -/
theorem walk4 (x : Ex) (s : Value) (S : ByteArray) (w : World) (hS : St w x s) (A : AEnv w) : Calls Tryd.prog 4 #[exV x s, .string S] w fun e w' => e = .returned (.bool true) ∧ Below w.heap.size w w' := by
  by_cases h : S.size ≤ 5000
  · cases hc : chk x with
    | true => cases hr : readX S.data.toList with
      | none => exact walk_yn alive x s S w hS A h hc hr
      | some y => exact walk_yy alive x s S w hS A h hc y hr
    | false => cases hr : readX S.data.toList with
      | none => exact walk_nn alive x s S w hS A h hc hr
      | some y => exact walk_ny alive x s S w hS A h hc y hr
  · exact walk_long alive x s S w hS A (by omega)
end Go.Proofs.YtkieljleopbhoaaDoor.Lex
