/-
  The contracts of written and inPlace.
-/
import Derived.Test.YtkieljleopbhoaaDoorRanks
import Derived.Test.YtkieljleopbhoaaDoorTwinAny
import Derived.Lib.AppendIntMem
namespace Go.Proofs.YtkieljleopbhoaaDoor.Lex
open Go.ChangeShapes Go.WideShapes Go.ChangeAt Go.RowKit Go.Joins
set_option linter.unusedVariables false
/-- The powers of ten stand in their variable. -/
def TabP (w : World) : Prop := Lib.TabIs Tryd.prog w "internal/strconv.uint64pow10" .u64 Lib.pow10Tab
theorem gPow : Tryd.prog.globalNamed "internal/strconv.uint64pow10" = some 2 := by kernel_rfl
theorem TabP.below {w W : World} (h : TabP w) (hb : Below w.heap.size w W) : TabP W := by
  unfold TabP Lib.TabIs World.var? at h ⊢
  rw [gPow] at h ⊢
  simp only [Option.bind_some] at h ⊢
  by_cases hl : 2 < w.heap.size
  · rw [hb.block 2 hl]; exact h
  · rw [Array.getElem?_eq_none (by omega)] at h; cases h
/-- What the variables hold. -/
structure Env (w : World) : Prop where
  res : TabR w
  joins : TabJ w
  pow : TabP w
theorem Env.below {w W : World} (h : Env w) (hb : Below w.heap.size w W) : Env W := ⟨h.res.below hb, h.joins.below hb, h.pow.below hb⟩
/-- A part's cells. -/
def KidAt (W : World) (bb off : Nat) (a : Ex) (ka : Option Addr) (ca : Nat) : Prop :=
  W.cell? ⟨bb, off, none⟩ = some (.int .u8 (a.op : Int)) ∧ W.cell? ⟨bb, off + 1, none⟩ = some (.int .i64 a.n) ∧ W.cell? ⟨bb, off + 2, none⟩ = some (.string a.name) ∧ W.cell? ⟨bb, off + 3, none⟩ = some (.slice ka a.args.length ca)
theorem KidAt.keep {w W : World} {bb off : Nat} {a : Ex} {ka : Option Addr} {ca : Nat} (h : KidAt w bb off a ka ca) (hb : Below w.heap.size w W) : KidAt W bb off a ka ca :=
  ⟨cell_kept h.1 hb, cell_kept h.2.1 hb, cell_kept h.2.2.1 hb, cell_kept h.2.2.2 hb⟩
theorem St.kids {w : World} {x : Ex} {s : Value} (h : St w x s) (h0 : x.args.length ≠ 0) : ∃ bb o cap, s = .slice (some ⟨bb, o, none⟩) x.args.length cap ∧ ∀ i (hi : i < x.args.length), ∃ ka ca, St w x.args[i] (.slice ka x.args[i].args.length ca) ∧ KidAt w bb (o + i * 4) x.args[i] ka ca := by
  obtain ⟨ao, cap, sl, rfl, _, _, _, _, _, hc, hs⟩ := h.out
  obtain ⟨bb, o, rfl, hcc⟩ := hc.resolve_left h0
  refine ⟨bb, o, cap, rfl, fun i hi => ?_⟩
  obtain ⟨c0, c1, c2, c3⟩ := hcc i hi
  have hst := hs i hi
  obtain ⟨ka, ca, _, e, _⟩ := hst.out
  rw [e] at hst c3
  exact ⟨ka, ca, hst, c0, c1, c2, c3⟩
def WrC (d : Nat) : Prop := ∀ (x : Ex) (w : World) (s : Value) (M k : Nat), M ≤ 200 → sz d M x = some k → St w x s → Env w → Calls Tryd.prog 25 #[exV x s] w fun e w' => e = .returned (.string ⟨(wr x).toArray⟩) ∧ Below w.heap.size w w'
def PlC (d : Nat) : Prop := ∀ (x : Ex) (w : World) (s : Value) (M k asked : Nat), M ≤ 200 → asked ≤ 7 → sz d M x = some k → St w x s → Env w → Calls Tryd.prog 42 #[exV x s, .int .i64 (asked : Int)] w fun e w' => e = .returned (.string ⟨(put asked (rkOf x.op) (wr x)).toArray⟩) ∧ Below w.heap.size w w'
theorem bsize (l : List UInt8) : (⟨l.toArray⟩ : ByteArray).size = l.length := by rw [Lib.size_eq]
theorem bapp (a b : List UInt8) : (⟨a.toArray⟩ : ByteArray) ++ (⟨b.toArray⟩ : ByteArray) = ⟨(a ++ b).toArray⟩ := by
  apply ByteArray.ext
  rw [ByteArray.data_append]
  simp
set_option maxRecDepth 100000 in
theorem pl_of (d : Nat) (h : WrC d) : PlC d := by
  intro x w s M k asked hM hA hz hS hE
  obtain ⟨ao, cap, sl, rfl, _⟩ := hS.out
  have hl := wr_len d M x k w _ hz hS
  have hk := (sz_le _ _ _ _ hz).2
  have b1 := (Below.refl w.heap.size w).alloc (Nat.le_refl _) (.cells #[.int .u8 (x.op : Int), .int .i64 x.n, .string x.name, .slice ao x.args.length cap] 25)
  have cr := rankOf x.op _ (hE.joins.below b1)
  have cw := fun W (hb : Below w.heap.size w W) => h x W _ M k hM hz (hS.keep hb) (hE.below hb)
  have B1 := hid b1
  have bx := fun j v => box_at w #[.int .u8 (x.op : Int), .int .i64 x.n, .string x.name, .slice ao x.args.length cap] 25 j v
  obtain ⟨X, hX⟩ : ∃ X : ByteArray, (⟨(wr x).toArray⟩ : ByteArray) = X := ⟨_, rfl⟩
  have hXs : X.size ≤ 13000 := by rw [← hX, bsize]; omega
  unfold put
  clear hS hE hz hl hk b1 h
  by_cases hr : rkOf x.op < asked
  · have hr' : (rkOf x.op : Int) < (asked : Int) := by omega
    have HG : Hid ((⟨(40 :: (wr x ++ [41])).toArray⟩ : ByteArray) = (⟨#[40]⟩ : ByteArray) ++ X ++ (⟨#[41]⟩ : ByteArray)) := by
      unfold Hid
      rw [← hX]
      apply ByteArray.ext
      rw [ByteArray.data_append, ByteArray.data_append]
      simp
    rw [if_pos hr, HG.out]
    rw [hX] at cw
    clear hr HG hX
    generalize (rkOf x.op : Int) = R at *
    go_enter Tryd.func42, Tryd.ntmps42
    go_wp2_with (first
      | (go_at_call 70; refine cr.mono ?_; rintro e w2 ⟨rfl, hb2⟩; have y0 := cell_kept (bx 0 _ rfl) hb2; have y1 := cell_kept (bx 1 _ rfl) hb2; have y2 := cell_kept (bx 2 _ rfl) hb2; have y3 := cell_kept (bx 3 _ rfl) hb2; have B2 := hid (bstep B1.out hb2); clear hb2 bx cr)
      | (go_at_call 25; refine (cw _ B2.out).mono ?_; rintro e w3 ⟨rfl, hb3⟩; have B3 := hid (bstep B2.out hb3); clear hb3 cw))
    go_ret
    exact ⟨rfl, B3.out⟩
  · have hr' : ¬ (rkOf x.op : Int) < (asked : Int) := by omega
    rw [if_neg hr, hX]
    rw [hX] at cw
    clear hr hX
    generalize (rkOf x.op : Int) = R at *
    go_enter Tryd.func42, Tryd.ntmps42
    go_wp2_with (first
      | (go_at_call 70; refine cr.mono ?_; rintro e w2 ⟨rfl, hb2⟩; have y0 := cell_kept (bx 0 _ rfl) hb2; have y1 := cell_kept (bx 1 _ rfl) hb2; have y2 := cell_kept (bx 2 _ rfl) hb2; have y3 := cell_kept (bx 3 _ rfl) hb2; have B2 := hid (bstep B1.out hb2); clear hb2 bx cr)
      | (go_at_call 25; refine (cw _ B2.out).mono ?_; rintro e w3 ⟨rfl, hb3⟩; have B3 := hid (bstep B2.out hb3); clear hb3 cw))
    go_ret
    exact ⟨rfl, B3.out⟩
set_option maxRecDepth 100000 in
theorem wr_int (x : Ex) (w : World) (ao : Option Addr) (cap : Nat) (e1 : ((x.op : Int) == 1) = true) (h0 : -9223372036854775808 ≤ x.n) (h1 : x.n ≤ 9223372036854775807) (hP : TabP w) :
    Calls Tryd.prog 25 #[exV x (.slice ao x.args.length cap)] w fun e w' => e = .returned (.string ⟨(Lib.itoa x.n).toArray⟩) ∧ Below w.heap.size w w' := by
  have b1 := (Below.refl w.heap.size w).alloc (Nat.le_refl _) (.cells #[.int .u8 (x.op : Int), .int .i64 x.n, .string x.name, .slice ao x.args.length cap] 25)
  have c := Tryd.strconv_FormatInt_10 x.n h0 h1 _ (hP.below b1)
  have B1 := hid b1
  clear hP b1
  go_enter Tryd.func25, Tryd.ntmps25
  go_wp2_with (go_at_call 39; refine c.mono ?_; rintro e w2 ⟨rfl, k, os, rfl⟩)
  go_ret
  exact ⟨rfl, bstep B1.out (Lib.below_grow _ _ (Nat.le_refl _) k os)⟩
set_option maxRecDepth 100000 in
theorem wr_bool (x : Ex) (w : World) (ao : Option Addr) (cap : Nat) (e1 : ((x.op : Int) == 1) = false) (e2 : ((x.op : Int) == 2) = true) :
    Calls Tryd.prog 25 #[exV x (.slice ao x.args.length cap)] w fun e w' => e = .returned (.string ⟨(yesNo (x.n == 1)).toArray⟩) ∧ Below w.heap.size w w' := by
  have c := fun b W => Tryd.strconv_FormatBool b W
  have hy : ∀ b, Lib.formatBool b = yesNo b := by intro b; cases b <;> decide
  rw [← hy]
  go_enter Tryd.func25, Tryd.ntmps25
  go_wp2_with (go_at_call 40; refine (c _ _).mono ?_; rintro e w2 ⟨rfl, rfl⟩)
  go_ret
  exact ⟨rfl, (Below.refl _ _).alloc (Nat.le_refl _) _⟩
set_option maxRecDepth 100000 in
theorem wr_name (x : Ex) (w : World) (ao : Option Addr) (cap : Nat) (e1 : ((x.op : Int) == 1) = false) (e2 : ((x.op : Int) == 2) = false) (e3 : ((x.op : Int) == 3) = true) (hs : x.name.size ≤ 65536) :
    Calls Tryd.prog 25 #[exV x (.slice ao x.args.length cap)] w fun e w' => e = .returned (.string x.name) ∧ Below w.heap.size w w' := by
  have b1 := (Below.refl w.heap.size w).alloc (Nat.le_refl _) (.cells #[.int .u8 (x.op : Int), .int .i64 x.n, .string x.name, .slice ao x.args.length cap] 25)
  have c := fun W => clone x.name W hs
  have B1 := hid b1
  clear b1 hs
  go_enter Tryd.func25, Tryd.ntmps25
  go_wp2_with (go_at_call 38; refine (c _).mono ?_; rintro e w2 ⟨rfl, hb2⟩)
  go_ret
  exact ⟨rfl, bstep B1.out hb2⟩
set_option maxRecDepth 100000 in
theorem wr_neg (x a : Ex) (w : World) (bb o cap : Nat) (ka : Option Addr) (ca : Nat) (e1 : ((x.op : Int) == 1) = false) (e2 : ((x.op : Int) == 2) = false) (e3 : ((x.op : Int) == 3) = false) (e4 : ((x.op : Int) == 4) = true) (Y : ByteArray) (hY : Y.size ≤ 13100) (hk : KidAt w bb o a ka ca)
    (c : ∀ W, Below w.heap.size w W → Calls Tryd.prog 42 #[exV a (.slice ka a.args.length ca), .int .i64 6] W fun e w' => e = .returned (.string Y) ∧ Below W.heap.size W w') :
    Calls Tryd.prog 25 #[exV x (.slice (some ⟨bb, o, none⟩) 1 cap)] w fun e w' => e = .returned (.string ⟨(negW Y.data.toList).toArray⟩) ∧ Below w.heap.size w w' := by
  have b1 := (Below.refl w.heap.size w).alloc (Nat.le_refl _) (.cells #[.int .u8 (x.op : Int), .int .i64 x.n, .string x.name, .slice (some ⟨bb, o, none⟩) 1 cap] 25)
  obtain ⟨v0, v1, v2, v3⟩ := hk.keep b1
  have B1 := hid b1
  have cn := fun W => negated Y W (by omega)
  clear hk b1
  go_enter Tryd.func25, Tryd.ntmps25
  go_wp2_with (first
    | (go_at_call 42; refine (c _ B1.out).mono ?_; rintro e w2 ⟨rfl, hb2⟩; have B2 := hid (bstep B1.out hb2); clear hb2 c)
    | (go_at_call 41; refine (cn _).mono ?_; rintro e w3 ⟨rfl, rfl⟩))
  go_ret
  exact ⟨rfl, B2.out⟩
set_option maxRecDepth 100000 in
theorem wr_not (x a : Ex) (w : World) (bb o cap : Nat) (ka : Option Addr) (ca : Nat) (e1 : ((x.op : Int) == 1) = false) (e2 : ((x.op : Int) == 2) = false) (e3 : ((x.op : Int) == 3) = false) (e4 : ((x.op : Int) == 4) = false) (e5 : ((x.op : Int) == 5) = true) (Y : ByteArray) (hY : Y.size ≤ 13100) (hk : KidAt w bb o a ka ca)
    (c : ∀ W, Below w.heap.size w W → Calls Tryd.prog 42 #[exV a (.slice ka a.args.length ca), .int .i64 6] W fun e w' => e = .returned (.string Y) ∧ Below W.heap.size W w') :
    Calls Tryd.prog 25 #[exV x (.slice (some ⟨bb, o, none⟩) 1 cap)] w fun e w' => e = .returned (.string ((⟨#[110, 111, 116, 32]⟩ : ByteArray) ++ Y)) ∧ Below w.heap.size w w' := by
  have b1 := (Below.refl w.heap.size w).alloc (Nat.le_refl _) (.cells #[.int .u8 (x.op : Int), .int .i64 x.n, .string x.name, .slice (some ⟨bb, o, none⟩) 1 cap] 25)
  obtain ⟨v0, v1, v2, v3⟩ := hk.keep b1
  have B1 := hid b1
  clear hk b1
  go_enter Tryd.func25, Tryd.ntmps25
  go_wp2_with (first
    | (go_at_call 42; refine (c _ B1.out).mono ?_; rintro e w2 ⟨rfl, hb2⟩; have B2 := hid (bstep B1.out hb2); clear hb2 c)
    | (go_at_call 41; refine (cn _).mono ?_; rintro e w3 ⟨rfl, rfl⟩))
  go_ret
  exact ⟨rfl, B2.out⟩
set_option maxRecDepth 100000 in
theorem wr_pre (x a : Ex) (w : World) (bb o cap : Nat) (ka : Option Addr) (ca : Nat) (e1 : ((x.op : Int) == 1) = false) (e2 : ((x.op : Int) == 2) = false) (e3 : ((x.op : Int) == 3) = false) (e4 : ((x.op : Int) == 4) = false) (e5 : ((x.op : Int) == 5) = false) (e19 : ((x.op : Int) == 19) = true) (Y : ByteArray) (hY : Y.size ≤ 13100) (hk : KidAt w bb o a ka ca)
    (c : ∀ W, Below w.heap.size w W → Calls Tryd.prog 42 #[exV a (.slice ka a.args.length ca), .int .i64 6] W fun e w' => e = .returned (.string Y) ∧ Below W.heap.size W w') :
    Calls Tryd.prog 25 #[exV x (.slice (some ⟨bb, o, none⟩) 1 cap)] w fun e w' => e = .returned (.string ((⟨#[112, 114, 101, 32]⟩ : ByteArray) ++ Y)) ∧ Below w.heap.size w w' := by
  have b1 := (Below.refl w.heap.size w).alloc (Nat.le_refl _) (.cells #[.int .u8 (x.op : Int), .int .i64 x.n, .string x.name, .slice (some ⟨bb, o, none⟩) 1 cap] 25)
  obtain ⟨v0, v1, v2, v3⟩ := hk.keep b1
  have B1 := hid b1
  clear hk b1
  go_enter Tryd.func25, Tryd.ntmps25
  go_wp2_with (first
    | (go_at_call 42; refine (c _ B1.out).mono ?_; rintro e w2 ⟨rfl, hb2⟩; have B2 := hid (bstep B1.out hb2); clear hb2 c)
    | (go_at_call 41; refine (cn _).mono ?_; rintro e w3 ⟨rfl, rfl⟩))
  go_ret
  exact ⟨rfl, B2.out⟩
set_option maxRecDepth 100000 in
set_option maxHeartbeats 2000000 in
theorem wr_if (x a b c : Ex) (w : World) (bb o cap : Nat) (ka kb kc : Option Addr) (ca cb cc : Nat) (e1 : ((x.op : Int) == 1) = false) (e2 : ((x.op : Int) == 2) = false) (e3 : ((x.op : Int) == 3) = false) (e4 : ((x.op : Int) == 4) = false) (e5 : ((x.op : Int) == 5) = false) (e19 : ((x.op : Int) == 19) = false) (e17 : ((x.op : Int) == 17) = true) (Y1 Y2 Y3 : ByteArray) (hY1 : Y1.size ≤ 13100) (hY2 : Y2.size ≤ 13100) (hY3 : Y3.size ≤ 13100)
    (hk : KidAt w bb o a ka ca ∧ KidAt w bb (o + 4) b kb cb ∧ KidAt w bb (o + 8) c kc cc)
    (c1 : ∀ W, Below w.heap.size w W → Calls Tryd.prog 42 #[exV a (.slice ka a.args.length ca), .int .i64 0] W fun e w' => e = .returned (.string Y1) ∧ Below W.heap.size W w')
    (c2 : ∀ W, Below w.heap.size w W → Calls Tryd.prog 42 #[exV b (.slice kb b.args.length cb), .int .i64 0] W fun e w' => e = .returned (.string Y2) ∧ Below W.heap.size W w')
    (c3 : ∀ W, Below w.heap.size w W → Calls Tryd.prog 42 #[exV c (.slice kc c.args.length cc), .int .i64 0] W fun e w' => e = .returned (.string Y3) ∧ Below W.heap.size W w') :
    Calls Tryd.prog 25 #[exV x (.slice (some ⟨bb, o, none⟩) 3 cap)] w fun e w' => e = .returned (.string ((⟨#[105, 102, 32]⟩ : ByteArray) ++ Y1 ++ (⟨#[32, 116, 104, 101, 110, 32]⟩ : ByteArray) ++ Y2 ++ (⟨#[32, 101, 108, 115, 101, 32]⟩ : ByteArray) ++ Y3)) ∧ Below w.heap.size w w' := by
  have b1 := (Below.refl w.heap.size w).alloc (Nat.le_refl _) (.cells #[.int .u8 (x.op : Int), .int .i64 x.n, .string x.name, .slice (some ⟨bb, o, none⟩) 3 cap] 25)
  have B1 := hid b1
  have X1 : (w.alloc (.cells #[.int .u8 (x.op : Int), .int .i64 x.n, .string x.name, .slice (some ⟨bb, o, none⟩) 3 cap] 25)).drew.cell? ⟨w.heap.size, 3, none⟩ = some (.slice (some ⟨bb, o, none⟩) 3 cap) := box_at w _ 25 3 _ rfl
  have hSH : ∀ W, Below w.heap.size w W → W.cell? ⟨w.heap.size, 3, none⟩ = some (.slice (some ⟨bb, o, none⟩) 3 cap) → W.cell? ⟨w.heap.size, 3, none⟩ = some (.slice (some ⟨bb, o, none⟩) 3 cap) ∧ (W.cell? ⟨bb, o, none⟩ = some (.int .u8 (a.op : Int)) ∧ W.cell? ⟨bb, o + 1, none⟩ = some (.int .i64 a.n) ∧ W.cell? ⟨bb, o + 2, none⟩ = some (.string a.name) ∧ W.cell? ⟨bb, o + 3, none⟩ = some (.slice ka a.args.length ca)) ∧ (W.cell? ⟨bb, o + 4, none⟩ = some (.int .u8 (b.op : Int)) ∧ W.cell? ⟨bb, o + 5, none⟩ = some (.int .i64 b.n) ∧ W.cell? ⟨bb, o + 6, none⟩ = some (.string b.name) ∧ W.cell? ⟨bb, o + 7, none⟩ = some (.slice kb b.args.length cb)) ∧ (W.cell? ⟨bb, o + 8, none⟩ = some (.int .u8 (c.op : Int)) ∧ W.cell? ⟨bb, o + 9, none⟩ = some (.int .i64 c.n) ∧ W.cell? ⟨bb, o + 10, none⟩ = some (.string c.name) ∧ W.cell? ⟨bb, o + 11, none⟩ = some (.slice kc c.args.length cc)) := fun W hb h => ⟨h, hk.1.keep hb, hk.2.1.keep hb, hk.2.2.keep hb⟩
  clear hk b1
  go_enter Tryd.func25, Tryd.ntmps25
  go_wp2
  refine wp_region_held_drew (S := fun W => W.cell? ⟨w.heap.size, 3, none⟩ = some (.slice (some ⟨bb, o, none⟩) 3 cap) ∧ (W.cell? ⟨bb, o, none⟩ = some (.int .u8 (a.op : Int)) ∧ W.cell? ⟨bb, o + 1, none⟩ = some (.int .i64 a.n) ∧ W.cell? ⟨bb, o + 2, none⟩ = some (.string a.name) ∧ W.cell? ⟨bb, o + 3, none⟩ = some (.slice ka a.args.length ca)) ∧ (W.cell? ⟨bb, o + 4, none⟩ = some (.int .u8 (b.op : Int)) ∧ W.cell? ⟨bb, o + 5, none⟩ = some (.int .i64 b.n) ∧ W.cell? ⟨bb, o + 6, none⟩ = some (.string b.name) ∧ W.cell? ⟨bb, o + 7, none⟩ = some (.slice kb b.args.length cb)) ∧ (W.cell? ⟨bb, o + 8, none⟩ = some (.int .u8 (c.op : Int)) ∧ W.cell? ⟨bb, o + 9, none⟩ = some (.int .i64 c.n) ∧ W.cell? ⟨bb, o + 10, none⟩ = some (.string c.name) ∧ W.cell? ⟨bb, o + 11, none⟩ = some (.slice kc c.args.length cc))) (by kernel_rfl) ?_ (fun hHeld => ?_)
  · exact hSH _ B1.out.drew X1
  refine wpAnyH_take (i := 0) (oi := { dst := some 49, op := Go.Op.fieldAddr 25 (Go.Operand.tmp 1) 3, type := 0, pos := _, after := #[], guard := none }) (v := ?_) rfl (by kernel_rfl) (by kernel_rfl) (by kernel_rfl) (fun _ _ _ h => h) (Or.inl ⟨by rfl, ?_⟩) (by assumption) ?_
  rotate_left
  · intro w hSw; (try dsimp only at hSw); go_simp <;> first | with_reducible rfl | (rw [if_neg (by first | omega | (simp only [ByteArray.size_append] at *; omega))])
  simp only [Act.put, List.setIfInBounds_toArray, List.set_cons_zero, List.set_cons_succ]
  refine wpAnyH_take (i := 1) (oi := { dst := some 50, op := Go.Op.load 23 (Go.Operand.tmp 49), type := 23, pos := _, after := #[{ on := 0, ground := Go.Ground.data }], guard := none }) (v := ?_) rfl (by kernel_rfl) (by kernel_rfl) (by kernel_rfl) (fun _ _ _ h => h) (Or.inl ⟨by rfl, ?_⟩) (by assumption) ?_
  rotate_left
  · intro w hSw; (try dsimp only at hSw); go_simp <;> first | with_reducible rfl | (rw [if_neg (by first | omega | (simp only [ByteArray.size_append] at *; omega))])
  simp only [Act.put, List.setIfInBounds_toArray, List.set_cons_zero, List.set_cons_succ]
  refine wpAnyH_take (i := 2) (oi := { dst := some 51, op := Go.Op.indexAddr 23 (Go.Operand.tmp 50) (Go.Operand.const (Go.Value.int Go.IntKind.i64 0)), type := 0, pos := _, after := #[{ on := 1, ground := Go.Ground.data }], guard := none }) (v := ?_) rfl (by kernel_rfl) (by kernel_rfl) (by kernel_rfl) (fun _ _ _ h => h) (Or.inl ⟨by rfl, ?_⟩) (by assumption) ?_
  rotate_left
  · intro w hSw; (try dsimp only at hSw); go_simp <;> first | with_reducible rfl | (rw [if_neg (by first | omega | (simp only [ByteArray.size_append] at *; omega))])
  simp only [Act.put, List.setIfInBounds_toArray, List.set_cons_zero, List.set_cons_succ]
  refine wpAnyH_take (i := 3) (oi := { dst := some 52, op := Go.Op.load 25 (Go.Operand.tmp 51), type := 25, pos := _, after := #[{ on := 2, ground := Go.Ground.data }], guard := none }) (v := ?_) rfl (by kernel_rfl) (by kernel_rfl) (by kernel_rfl) (fun _ _ _ h => h) (Or.inl ⟨by rfl, ?_⟩) (by assumption) ?_
  rotate_left
  · intro w hSw; (try dsimp only at hSw); go_simp <;> first | with_reducible rfl | (rw [if_neg (by first | omega | (simp only [ByteArray.size_append] at *; omega))])
  simp only [Act.put, List.setIfInBounds_toArray, List.set_cons_zero, List.set_cons_succ]
  refine wpAnyH_take (i := 7) (oi := { dst := some 56, op := Go.Op.fieldAddr 25 (Go.Operand.tmp 1) 3, type := 0, pos := _, after := #[], guard := none }) (v := ?_) rfl (by kernel_rfl) (by kernel_rfl) (by kernel_rfl) (fun _ _ _ h => h) (Or.inl ⟨by rfl, ?_⟩) (by assumption) ?_
  rotate_left
  · intro w hSw; (try dsimp only at hSw); go_simp <;> first | with_reducible rfl | (rw [if_neg (by first | omega | (simp only [ByteArray.size_append] at *; omega))])
  simp only [Act.put, List.setIfInBounds_toArray, List.set_cons_zero, List.set_cons_succ]
  refine wpAnyH_take (i := 8) (oi := { dst := some 57, op := Go.Op.load 23 (Go.Operand.tmp 56), type := 23, pos := _, after := #[{ on := 7, ground := Go.Ground.data }], guard := none }) (v := ?_) rfl (by kernel_rfl) (by kernel_rfl) (by kernel_rfl) (fun _ _ _ h => h) (Or.inl ⟨by rfl, ?_⟩) (by assumption) ?_
  rotate_left
  · intro w hSw; (try dsimp only at hSw); go_simp <;> first | with_reducible rfl | (rw [if_neg (by first | omega | (simp only [ByteArray.size_append] at *; omega))])
  simp only [Act.put, List.setIfInBounds_toArray, List.set_cons_zero, List.set_cons_succ]
  refine wpAnyH_take (i := 9) (oi := { dst := some 58, op := Go.Op.indexAddr 23 (Go.Operand.tmp 57) (Go.Operand.const (Go.Value.int Go.IntKind.i64 1)), type := 0, pos := _, after := #[{ on := 8, ground := Go.Ground.data }], guard := none }) (v := ?_) rfl (by kernel_rfl) (by kernel_rfl) (by kernel_rfl) (fun _ _ _ h => h) (Or.inl ⟨by rfl, ?_⟩) (by assumption) ?_
  rotate_left
  · intro w hSw; (try dsimp only at hSw); go_simp <;> first | with_reducible rfl | (rw [if_neg (by first | omega | (simp only [ByteArray.size_append] at *; omega))])
  simp only [Act.put, List.setIfInBounds_toArray, List.set_cons_zero, List.set_cons_succ]
  refine wpAnyH_take (i := 10) (oi := { dst := some 59, op := Go.Op.load 25 (Go.Operand.tmp 58), type := 25, pos := _, after := #[{ on := 9, ground := Go.Ground.data }], guard := none }) (v := ?_) rfl (by kernel_rfl) (by kernel_rfl) (by kernel_rfl) (fun _ _ _ h => h) (Or.inl ⟨by rfl, ?_⟩) (by assumption) ?_
  rotate_left
  · intro w hSw; (try dsimp only at hSw); go_simp <;> first | with_reducible rfl | (rw [if_neg (by first | omega | (simp only [ByteArray.size_append] at *; omega))])
  simp only [Act.put, List.setIfInBounds_toArray, List.set_cons_zero, List.set_cons_succ]
  refine wpAnyH_take (i := 14) (oi := { dst := some 63, op := Go.Op.fieldAddr 25 (Go.Operand.tmp 1) 3, type := 0, pos := _, after := #[], guard := none }) (v := ?_) rfl (by kernel_rfl) (by kernel_rfl) (by kernel_rfl) (fun _ _ _ h => h) (Or.inl ⟨by rfl, ?_⟩) (by assumption) ?_
  rotate_left
  · intro w hSw; (try dsimp only at hSw); go_simp <;> first | with_reducible rfl | (rw [if_neg (by first | omega | (simp only [ByteArray.size_append] at *; omega))])
  simp only [Act.put, List.setIfInBounds_toArray, List.set_cons_zero, List.set_cons_succ]
  refine wpAnyH_take (i := 15) (oi := { dst := some 64, op := Go.Op.load 23 (Go.Operand.tmp 63), type := 23, pos := _, after := #[{ on := 14, ground := Go.Ground.data }], guard := none }) (v := ?_) rfl (by kernel_rfl) (by kernel_rfl) (by kernel_rfl) (fun _ _ _ h => h) (Or.inl ⟨by rfl, ?_⟩) (by assumption) ?_
  rotate_left
  · intro w hSw; (try dsimp only at hSw); go_simp <;> first | with_reducible rfl | (rw [if_neg (by first | omega | (simp only [ByteArray.size_append] at *; omega))])
  simp only [Act.put, List.setIfInBounds_toArray, List.set_cons_zero, List.set_cons_succ]
  refine wpAnyH_take (i := 16) (oi := { dst := some 65, op := Go.Op.indexAddr 23 (Go.Operand.tmp 64) (Go.Operand.const (Go.Value.int Go.IntKind.i64 2)), type := 0, pos := _, after := #[{ on := 15, ground := Go.Ground.data }], guard := none }) (v := ?_) rfl (by kernel_rfl) (by kernel_rfl) (by kernel_rfl) (fun _ _ _ h => h) (Or.inl ⟨by rfl, ?_⟩) (by assumption) ?_
  rotate_left
  · intro w hSw; (try dsimp only at hSw); go_simp <;> first | with_reducible rfl | (rw [if_neg (by first | omega | (simp only [ByteArray.size_append] at *; omega))])
  simp only [Act.put, List.setIfInBounds_toArray, List.set_cons_zero, List.set_cons_succ]
  refine wpAnyH_take (i := 17) (oi := { dst := some 66, op := Go.Op.load 25 (Go.Operand.tmp 65), type := 25, pos := _, after := #[{ on := 16, ground := Go.Ground.data }], guard := none }) (v := ?_) rfl (by kernel_rfl) (by kernel_rfl) (by kernel_rfl) (fun _ _ _ h => h) (Or.inl ⟨by rfl, ?_⟩) (by assumption) ?_
  rotate_left
  · intro w hSw; (try dsimp only at hSw); go_simp <;> first | with_reducible rfl | (rw [if_neg (by first | omega | (simp only [ByteArray.size_append] at *; omega))])
  simp only [Act.put, List.setIfInBounds_toArray, List.set_cons_zero, List.set_cons_succ]
  refine wpAnyH_ready (rs := [4]) (by kernel_rfl) (by simp) ?_
  refine AllReadyH.cons (o := { dst := some 53, op := Go.Op.call { callee := Go.Callee.value (Go.Operand.func 42), args := #[Go.Operand.tmp 52, Go.Operand.const (Go.Value.int Go.IntKind.i64 0)], argTypes := #[25, 3] }, type := 9, pos := _, after := #[{ on := 3, ground := Go.Ground.data }], guard := none }) rfl (fun K hK => ?_) AllReadyH.nil
  go_simp
  refine (c1 _ (B1.out.drew)).mono ?_
  rintro e w2 ⟨rfl, hw2⟩
  have B2 := hid (bstep (B1.out.drew) hw2)
  have X2 := cell_kept X1 hw2
  go_wp2_with fail
  refine hK.out _ _ ?_ (fun hHeld1 => ?_)
  · exact hSH _ B2.out X2
  clear hK K
  refine wpAnyH_take (i := 5) (oi := { dst := some 54, op := Go.Op.binOp Go.BinOp.add 9 (Go.Operand.const (Go.Value.string { data := #[105, 102, 32] })) (Go.Operand.tmp 53) 9, type := 9, pos := _, after := #[{ on := 4, ground := Go.Ground.data }], guard := none }) (v := ?_) rfl (by kernel_rfl) (by kernel_rfl) (by kernel_rfl) (fun _ _ _ h => h) (Or.inl ⟨by rfl, ?_⟩) (by assumption) ?_
  rotate_left
  · intro w hSw; (try dsimp only at hSw); go_simp <;> first | with_reducible rfl | (rw [if_neg (by first | omega | (simp only [ByteArray.size_append] at *; omega))])
  simp only [Act.put, List.setIfInBounds_toArray, List.set_cons_zero, List.set_cons_succ]
  refine wpAnyH_take (i := 6) (oi := { dst := some 55, op := Go.Op.binOp Go.BinOp.add 9 (Go.Operand.tmp 54) (Go.Operand.const (Go.Value.string { data := #[32, 116, 104, 101, 110, 32] })) 9, type := 9, pos := _, after := #[{ on := 5, ground := Go.Ground.data }], guard := none }) (v := ?_) rfl (by kernel_rfl) (by kernel_rfl) (by kernel_rfl) (fun _ _ _ h => h) (Or.inl ⟨by rfl, ?_⟩) (by assumption) ?_
  rotate_left
  · intro w hSw; (try dsimp only at hSw); go_simp <;> first | with_reducible rfl | (rw [if_neg (by first | omega | (simp only [ByteArray.size_append] at *; omega))])
  simp only [Act.put, List.setIfInBounds_toArray, List.set_cons_zero, List.set_cons_succ]
  refine wpAnyH_ready (rs := [11]) (by kernel_rfl) (by simp) ?_
  refine AllReadyH.cons (o := { dst := some 60, op := Go.Op.call { callee := Go.Callee.value (Go.Operand.func 42), args := #[Go.Operand.tmp 59, Go.Operand.const (Go.Value.int Go.IntKind.i64 0)], argTypes := #[25, 3] }, type := 9, pos := _, after := #[{ on := 10, ground := Go.Ground.data }, { on := 4, ground := Go.Ground.chain }], guard := none }) rfl (fun K hK => ?_) AllReadyH.nil
  go_simp
  refine (c2 _ (B2.out)).mono ?_
  rintro e w3 ⟨rfl, hw3⟩
  have B3 := hid (bstep (B2.out) hw3)
  have X3 := cell_kept X2 hw3
  go_wp2_with fail
  refine hK.out _ _ ?_ (fun hHeld2 => ?_)
  · exact hSH _ B3.out X3
  clear hK K
  refine wpAnyH_take (i := 12) (oi := { dst := some 61, op := Go.Op.binOp Go.BinOp.add 9 (Go.Operand.tmp 55) (Go.Operand.tmp 60) 9, type := 9, pos := _, after := #[{ on := 6, ground := Go.Ground.data }, { on := 11, ground := Go.Ground.data }], guard := none }) (v := ?_) rfl (by kernel_rfl) (by kernel_rfl) (by kernel_rfl) (fun _ _ _ h => h) (Or.inl ⟨by rfl, ?_⟩) (by assumption) ?_
  rotate_left
  · intro w hSw; (try dsimp only at hSw); go_simp <;> first | with_reducible rfl | (rw [if_neg (by first | omega | (simp only [ByteArray.size_append] at *; omega))])
  simp only [Act.put, List.setIfInBounds_toArray, List.set_cons_zero, List.set_cons_succ]
  refine wpAnyH_take (i := 13) (oi := { dst := some 62, op := Go.Op.binOp Go.BinOp.add 9 (Go.Operand.tmp 61) (Go.Operand.const (Go.Value.string { data := #[32, 101, 108, 115, 101, 32] })) 9, type := 9, pos := _, after := #[{ on := 12, ground := Go.Ground.data }], guard := none }) (v := ?_) rfl (by kernel_rfl) (by kernel_rfl) (by kernel_rfl) (fun _ _ _ h => h) (Or.inl ⟨by rfl, ?_⟩) (by assumption) ?_
  rotate_left
  · intro w hSw; (try dsimp only at hSw); go_simp <;> first | with_reducible rfl | (rw [if_neg (by first | omega | (simp only [ByteArray.size_append] at *; omega))])
  simp only [Act.put, List.setIfInBounds_toArray, List.set_cons_zero, List.set_cons_succ]
  refine wpAnyH_ready (rs := [18]) (by kernel_rfl) (by simp) ?_
  refine AllReadyH.cons (o := { dst := some 67, op := Go.Op.call { callee := Go.Callee.value (Go.Operand.func 42), args := #[Go.Operand.tmp 66, Go.Operand.const (Go.Value.int Go.IntKind.i64 0)], argTypes := #[25, 3] }, type := 9, pos := _, after := #[{ on := 17, ground := Go.Ground.data }, { on := 11, ground := Go.Ground.chain }], guard := none }) rfl (fun K hK => ?_) AllReadyH.nil
  go_simp
  refine (c3 _ (B3.out)).mono ?_
  rintro e w4 ⟨rfl, hw4⟩
  have B4 := hid (bstep (B3.out) hw4)
  have X4 := cell_kept X3 hw4
  go_wp2_with fail
  refine hK.out _ _ ?_ (fun hHeld3 => ?_)
  · exact hSH _ B4.out X4
  clear hK K
  refine wpAnyH_take (i := 19) (oi := { dst := some 68, op := Go.Op.binOp Go.BinOp.add 9 (Go.Operand.tmp 62) (Go.Operand.tmp 67) 9, type := 9, pos := _, after := #[{ on := 13, ground := Go.Ground.data }, { on := 18, ground := Go.Ground.data }], guard := none }) (v := ?_) rfl (by kernel_rfl) (by kernel_rfl) (by kernel_rfl) (fun _ _ _ h => h) (Or.inl ⟨by rfl, ?_⟩) (by assumption) ?_
  rotate_left
  · intro w hSw; (try dsimp only at hSw); go_simp <;> first | with_reducible rfl | (rw [if_neg (by first | omega | (simp only [ByteArray.size_append] at *; omega))])
  simp only [Act.put, List.setIfInBounds_toArray, List.set_cons_zero, List.set_cons_succ]
  refine wpAnyH_take (i := 20) (oi := { dst := some 2, op := Go.Op.assign (Go.Operand.tmp 68), type := 9, pos := _, after := #[{ on := 19, ground := Go.Ground.data }, { on := 18, ground := Go.Ground.chain }, { on := 0, ground := Go.Ground.phase }, { on := 1, ground := Go.Ground.phase }, { on := 2, ground := Go.Ground.phase }, { on := 3, ground := Go.Ground.phase }, { on := 4, ground := Go.Ground.phase }, { on := 5, ground := Go.Ground.phase }, { on := 6, ground := Go.Ground.phase }, { on := 7, ground := Go.Ground.phase }, { on := 8, ground := Go.Ground.phase }, { on := 9, ground := Go.Ground.phase }, { on := 10, ground := Go.Ground.phase }, { on := 11, ground := Go.Ground.phase }, { on := 12, ground := Go.Ground.phase }, { on := 13, ground := Go.Ground.phase }, { on := 14, ground := Go.Ground.phase }, { on := 15, ground := Go.Ground.phase }, { on := 16, ground := Go.Ground.phase }, { on := 17, ground := Go.Ground.phase }, { on := 18, ground := Go.Ground.phase }, { on := 19, ground := Go.Ground.phase }], guard := none }) (v := ?_) rfl (by kernel_rfl) (by kernel_rfl) (by kernel_rfl) (fun _ _ _ h => h) (Or.inl ⟨by rfl, ?_⟩) (by assumption) ?_
  rotate_left
  · intro w hSw; (try dsimp only at hSw); go_simp <;> first | with_reducible rfl | (rw [if_neg (by first | omega | (simp only [ByteArray.size_append] at *; omega))])
  simp only [Act.put, List.setIfInBounds_toArray, List.set_cons_zero, List.set_cons_succ]
  refine wpAnyH_done (by kernel_rfl) ?_ _
  go_wp2
  go_ret
  exact ⟨rfl, B4.out⟩
set_option maxRecDepth 100000 in
set_option maxHeartbeats 2000000 in
theorem wr_join (x a b : Ex) (w : World) (bb o cap : Nat) (ka kb : Option Addr) (ca cb : Nat) (e1 : ((x.op : Int) == 1) = false) (e2 : ((x.op : Int) == 2) = false) (e3 : ((x.op : Int) == 3) = false) (e4 : ((x.op : Int) == 4) = false) (e5 : ((x.op : Int) == 5) = false) (e19 : ((x.op : Int) == 19) = false) (e17 : ((x.op : Int) == 17) = false) (r : J) (hr : r.text.size ≤ 3) (Y1 Y2 : ByteArray) (hY1 : Y1.size ≤ 13100) (hY2 : Y2.size ≤ 13100)
    (hk : KidAt w bb o a ka ca ∧ KidAt w bb (o + 4) b kb cb)
    (c0 : ∀ W, Below w.heap.size w W → Calls Tryd.prog 43 #[.int .u8 (x.op : Int)] W fun e w' => e = .returned (.tuple #[.agg #[.int .u8 (r.op : Int), .int .u8 (r.kind : Int), .string r.text, .int .i64 (r.rank : Int), .int .i64 (r.first : Int), .int .i64 (r.second : Int)], .bool true]) ∧ Below W.heap.size W w')
    (c1 : ∀ W, Below w.heap.size w W → Calls Tryd.prog 42 #[exV a (.slice ka a.args.length ca), .int .i64 (r.first : Int)] W fun e w' => e = .returned (.string Y1) ∧ Below W.heap.size W w')
    (c2 : ∀ W, Below w.heap.size w W → Calls Tryd.prog 42 #[exV b (.slice kb b.args.length cb), .int .i64 (r.second : Int)] W fun e w' => e = .returned (.string Y2) ∧ Below W.heap.size W w') :
    Calls Tryd.prog 25 #[exV x (.slice (some ⟨bb, o, none⟩) 2 cap)] w fun e w' => e = .returned (.string (Y1 ++ (⟨#[32]⟩ : ByteArray) ++ r.text ++ (⟨#[32]⟩ : ByteArray) ++ Y2)) ∧ Below w.heap.size w w' := by
  have b0 := (Below.refl w.heap.size w).alloc (Nat.le_refl _) (.cells #[.int .u8 (x.op : Int), .int .i64 x.n, .string x.name, .slice (some ⟨bb, o, none⟩) 2 cap] 25)
  have B0 := hid b0
  have X0 : (w.alloc (.cells #[.int .u8 (x.op : Int), .int .i64 x.n, .string x.name, .slice (some ⟨bb, o, none⟩) 2 cap] 25)).cell? ⟨w.heap.size, 3, none⟩ = some (.slice (some ⟨bb, o, none⟩) 2 cap) := box_at w _ 25 3 _ rfl
  have HK := hid hk
  clear hk b0
  go_enter Tryd.func25, Tryd.ntmps25
  go_wp2_with (go_at_call 43; refine (c0 _ B0.out).mono ?_; rintro e w0 ⟨rfl, hb0⟩)
  have B1 := hid (bstep (bstep B0.out hb0) ((Below.refl _ _).alloc (Nat.le_refl _) (.cells #[.int .u8 (r.op : Int), .int .u8 (r.kind : Int), .string r.text, .int .i64 (r.rank : Int), .int .i64 (r.first : Int), .int .i64 (r.second : Int)] 83)))
  have hx0 : (w0.alloc (.cells #[.int .u8 (r.op : Int), .int .u8 (r.kind : Int), .string r.text, .int .i64 (r.rank : Int), .int .i64 (r.first : Int), .int .i64 (r.second : Int)] 83)).cell? ⟨w.heap.size, 3, none⟩ = some (.slice (some ⟨bb, o, none⟩) 2 cap) := cell_kept (cell_kept X0 hb0) ((Below.refl _ _).alloc (Nat.le_refl _) _)
  have X1 : (w0.alloc (.cells #[.int .u8 (r.op : Int), .int .u8 (r.kind : Int), .string r.text, .int .i64 (r.rank : Int), .int .i64 (r.first : Int), .int .i64 (r.second : Int)] 83)).drew.cell? ⟨w.heap.size, 3, none⟩ = some (.slice (some ⟨bb, o, none⟩) 2 cap) ∧ (w0.alloc (.cells #[.int .u8 (r.op : Int), .int .u8 (r.kind : Int), .string r.text, .int .i64 (r.rank : Int), .int .i64 (r.first : Int), .int .i64 (r.second : Int)] 83)).drew.cell? ⟨w0.heap.size, 2, none⟩ = some (.string r.text) ∧ (w0.alloc (.cells #[.int .u8 (r.op : Int), .int .u8 (r.kind : Int), .string r.text, .int .i64 (r.rank : Int), .int .i64 (r.first : Int), .int .i64 (r.second : Int)] 83)).drew.cell? ⟨w0.heap.size, 4, none⟩ = some (.int .i64 (r.first : Int)) ∧ (w0.alloc (.cells #[.int .u8 (r.op : Int), .int .u8 (r.kind : Int), .string r.text, .int .i64 (r.rank : Int), .int .i64 (r.first : Int), .int .i64 (r.second : Int)] 83)).drew.cell? ⟨w0.heap.size, 5, none⟩ = some (.int .i64 (r.second : Int)) := ⟨hx0, box_at w0 _ 83 2 _ rfl, box_at w0 _ 83 4 _ rfl, box_at w0 _ 83 5 _ rfl⟩
  clear hx0 hb0 c0 X0
  have hSH : ∀ W, Below w.heap.size w W → (W.cell? ⟨w.heap.size, 3, none⟩ = some (.slice (some ⟨bb, o, none⟩) 2 cap) ∧ W.cell? ⟨w0.heap.size, 2, none⟩ = some (.string r.text) ∧ W.cell? ⟨w0.heap.size, 4, none⟩ = some (.int .i64 (r.first : Int)) ∧ W.cell? ⟨w0.heap.size, 5, none⟩ = some (.int .i64 (r.second : Int))) → (W.cell? ⟨w.heap.size, 3, none⟩ = some (.slice (some ⟨bb, o, none⟩) 2 cap) ∧ W.cell? ⟨w0.heap.size, 2, none⟩ = some (.string r.text) ∧ W.cell? ⟨w0.heap.size, 4, none⟩ = some (.int .i64 (r.first : Int)) ∧ W.cell? ⟨w0.heap.size, 5, none⟩ = some (.int .i64 (r.second : Int))) ∧ (W.cell? ⟨bb, o, none⟩ = some (.int .u8 (a.op : Int)) ∧ W.cell? ⟨bb, o + 1, none⟩ = some (.int .i64 a.n) ∧ W.cell? ⟨bb, o + 2, none⟩ = some (.string a.name) ∧ W.cell? ⟨bb, o + 3, none⟩ = some (.slice ka a.args.length ca)) ∧ (W.cell? ⟨bb, o + 4, none⟩ = some (.int .u8 (b.op : Int)) ∧ W.cell? ⟨bb, o + 5, none⟩ = some (.int .i64 b.n) ∧ W.cell? ⟨bb, o + 6, none⟩ = some (.string b.name) ∧ W.cell? ⟨bb, o + 7, none⟩ = some (.slice kb b.args.length cb)) := fun W hb h => ⟨h, HK.out.1.keep hb, HK.out.2.keep hb⟩
  refine wp_region_held_drew (S := fun W => (W.cell? ⟨w.heap.size, 3, none⟩ = some (.slice (some ⟨bb, o, none⟩) 2 cap) ∧ W.cell? ⟨w0.heap.size, 2, none⟩ = some (.string r.text) ∧ W.cell? ⟨w0.heap.size, 4, none⟩ = some (.int .i64 (r.first : Int)) ∧ W.cell? ⟨w0.heap.size, 5, none⟩ = some (.int .i64 (r.second : Int))) ∧ (W.cell? ⟨bb, o, none⟩ = some (.int .u8 (a.op : Int)) ∧ W.cell? ⟨bb, o + 1, none⟩ = some (.int .i64 a.n) ∧ W.cell? ⟨bb, o + 2, none⟩ = some (.string a.name) ∧ W.cell? ⟨bb, o + 3, none⟩ = some (.slice ka a.args.length ca)) ∧ (W.cell? ⟨bb, o + 4, none⟩ = some (.int .u8 (b.op : Int)) ∧ W.cell? ⟨bb, o + 5, none⟩ = some (.int .i64 b.n) ∧ W.cell? ⟨bb, o + 6, none⟩ = some (.string b.name) ∧ W.cell? ⟨bb, o + 7, none⟩ = some (.slice kb b.args.length cb))) (by kernel_rfl) ?_ (fun hHeld => ?_)
  · exact hSH _ B1.out.drew X1
  refine wpAnyH_take (i := 0) (oi := { dst := some 75, op := Go.Op.fieldAddr 25 (Go.Operand.tmp 1) 3, type := 0, pos := _, after := #[], guard := none }) (v := ?_) rfl (by kernel_rfl) (by kernel_rfl) (by kernel_rfl) (fun _ _ _ h => h) (Or.inl ⟨by rfl, ?_⟩) (by assumption) ?_
  rotate_left
  · intro w hSw; (try dsimp only at hSw); go_simp <;> first | with_reducible rfl | (rw [if_neg (by first | omega | (simp only [ByteArray.size_append] at *; omega))])
  simp only [Act.put, List.setIfInBounds_toArray, List.set_cons_zero, List.set_cons_succ]
  refine wpAnyH_take (i := 1) (oi := { dst := some 76, op := Go.Op.load 23 (Go.Operand.tmp 75), type := 23, pos := _, after := #[{ on := 0, ground := Go.Ground.data }], guard := none }) (v := ?_) rfl (by kernel_rfl) (by kernel_rfl) (by kernel_rfl) (fun _ _ _ h => h) (Or.inl ⟨by rfl, ?_⟩) (by assumption) ?_
  rotate_left
  · intro w hSw; (try dsimp only at hSw); go_simp <;> first | with_reducible rfl | (rw [if_neg (by first | omega | (simp only [ByteArray.size_append] at *; omega))])
  simp only [Act.put, List.setIfInBounds_toArray, List.set_cons_zero, List.set_cons_succ]
  refine wpAnyH_take (i := 2) (oi := { dst := some 77, op := Go.Op.indexAddr 23 (Go.Operand.tmp 76) (Go.Operand.const (Go.Value.int Go.IntKind.i64 0)), type := 0, pos := _, after := #[{ on := 1, ground := Go.Ground.data }], guard := none }) (v := ?_) rfl (by kernel_rfl) (by kernel_rfl) (by kernel_rfl) (fun _ _ _ h => h) (Or.inl ⟨by rfl, ?_⟩) (by assumption) ?_
  rotate_left
  · intro w hSw; (try dsimp only at hSw); go_simp <;> first | with_reducible rfl | (rw [if_neg (by first | omega | (simp only [ByteArray.size_append] at *; omega))])
  simp only [Act.put, List.setIfInBounds_toArray, List.set_cons_zero, List.set_cons_succ]
  refine wpAnyH_take (i := 3) (oi := { dst := some 78, op := Go.Op.load 25 (Go.Operand.tmp 77), type := 25, pos := _, after := #[{ on := 2, ground := Go.Ground.data }], guard := none }) (v := ?_) rfl (by kernel_rfl) (by kernel_rfl) (by kernel_rfl) (fun _ _ _ h => h) (Or.inl ⟨by rfl, ?_⟩) (by assumption) ?_
  rotate_left
  · intro w hSw; (try dsimp only at hSw); go_simp <;> first | with_reducible rfl | (rw [if_neg (by first | omega | (simp only [ByteArray.size_append] at *; omega))])
  simp only [Act.put, List.setIfInBounds_toArray, List.set_cons_zero, List.set_cons_succ]
  refine wpAnyH_take (i := 4) (oi := { dst := some 79, op := Go.Op.fieldAddr 83 (Go.Operand.tmp 3) 3, type := 0, pos := _, after := #[], guard := none }) (v := ?_) rfl (by kernel_rfl) (by kernel_rfl) (by kernel_rfl) (fun _ _ _ h => h) (Or.inl ⟨by rfl, ?_⟩) (by assumption) ?_
  rotate_left
  · intro w hSw; (try dsimp only at hSw); go_simp <;> first | with_reducible rfl | (rw [if_neg (by first | omega | (simp only [ByteArray.size_append] at *; omega))])
  simp only [Act.put, List.setIfInBounds_toArray, List.set_cons_zero, List.set_cons_succ]
  refine wpAnyH_take (i := 5) (oi := { dst := some 80, op := Go.Op.load 3 (Go.Operand.tmp 79), type := 3, pos := _, after := #[{ on := 4, ground := Go.Ground.data }], guard := none }) (v := ?_) rfl (by kernel_rfl) (by kernel_rfl) (by kernel_rfl) (fun _ _ _ h => h) (Or.inl ⟨by rfl, ?_⟩) (by assumption) ?_
  rotate_left
  · intro w hSw; (try dsimp only at hSw); go_simp <;> first | with_reducible rfl | (rw [if_neg (by first | omega | (simp only [ByteArray.size_append] at *; omega))])
  simp only [Act.put, List.setIfInBounds_toArray, List.set_cons_zero, List.set_cons_succ]
  refine wpAnyH_take (i := 8) (oi := { dst := some 83, op := Go.Op.fieldAddr 83 (Go.Operand.tmp 3) 1, type := 0, pos := _, after := #[], guard := none }) (v := ?_) rfl (by kernel_rfl) (by kernel_rfl) (by kernel_rfl) (fun _ _ _ h => h) (Or.inl ⟨by rfl, ?_⟩) (by assumption) ?_
  rotate_left
  · intro w hSw; (try dsimp only at hSw); go_simp <;> first | with_reducible rfl | (rw [if_neg (by first | omega | (simp only [ByteArray.size_append] at *; omega))])
  simp only [Act.put, List.setIfInBounds_toArray, List.set_cons_zero, List.set_cons_succ]
  refine wpAnyH_take (i := 9) (oi := { dst := some 84, op := Go.Op.fieldAddr 81 (Go.Operand.tmp 83) 1, type := 0, pos := _, after := #[{ on := 8, ground := Go.Ground.data }], guard := none }) (v := ?_) rfl (by kernel_rfl) (by kernel_rfl) (by kernel_rfl) (fun _ _ _ h => h) (Or.inl ⟨by rfl, ?_⟩) (by assumption) ?_
  rotate_left
  · intro w hSw; (try dsimp only at hSw); go_simp <;> first | with_reducible rfl | (rw [if_neg (by first | omega | (simp only [ByteArray.size_append] at *; omega))])
  simp only [Act.put, List.setIfInBounds_toArray, List.set_cons_zero, List.set_cons_succ]
  refine wpAnyH_take (i := 10) (oi := { dst := some 85, op := Go.Op.load 9 (Go.Operand.tmp 84), type := 9, pos := _, after := #[{ on := 9, ground := Go.Ground.data }], guard := none }) (v := ?_) rfl (by kernel_rfl) (by kernel_rfl) (by kernel_rfl) (fun _ _ _ h => h) (Or.inl ⟨by rfl, ?_⟩) (by assumption) ?_
  rotate_left
  · intro w hSw; (try dsimp only at hSw); go_simp <;> first | with_reducible rfl | (rw [if_neg (by first | omega | (simp only [ByteArray.size_append] at *; omega))])
  simp only [Act.put, List.setIfInBounds_toArray, List.set_cons_zero, List.set_cons_succ]
  refine wpAnyH_take (i := 13) (oi := { dst := some 88, op := Go.Op.fieldAddr 25 (Go.Operand.tmp 1) 3, type := 0, pos := _, after := #[], guard := none }) (v := ?_) rfl (by kernel_rfl) (by kernel_rfl) (by kernel_rfl) (fun _ _ _ h => h) (Or.inl ⟨by rfl, ?_⟩) (by assumption) ?_
  rotate_left
  · intro w hSw; (try dsimp only at hSw); go_simp <;> first | with_reducible rfl | (rw [if_neg (by first | omega | (simp only [ByteArray.size_append] at *; omega))])
  simp only [Act.put, List.setIfInBounds_toArray, List.set_cons_zero, List.set_cons_succ]
  refine wpAnyH_take (i := 14) (oi := { dst := some 89, op := Go.Op.load 23 (Go.Operand.tmp 88), type := 23, pos := _, after := #[{ on := 13, ground := Go.Ground.data }], guard := none }) (v := ?_) rfl (by kernel_rfl) (by kernel_rfl) (by kernel_rfl) (fun _ _ _ h => h) (Or.inl ⟨by rfl, ?_⟩) (by assumption) ?_
  rotate_left
  · intro w hSw; (try dsimp only at hSw); go_simp <;> first | with_reducible rfl | (rw [if_neg (by first | omega | (simp only [ByteArray.size_append] at *; omega))])
  simp only [Act.put, List.setIfInBounds_toArray, List.set_cons_zero, List.set_cons_succ]
  refine wpAnyH_take (i := 15) (oi := { dst := some 90, op := Go.Op.indexAddr 23 (Go.Operand.tmp 89) (Go.Operand.const (Go.Value.int Go.IntKind.i64 1)), type := 0, pos := _, after := #[{ on := 14, ground := Go.Ground.data }], guard := none }) (v := ?_) rfl (by kernel_rfl) (by kernel_rfl) (by kernel_rfl) (fun _ _ _ h => h) (Or.inl ⟨by rfl, ?_⟩) (by assumption) ?_
  rotate_left
  · intro w hSw; (try dsimp only at hSw); go_simp <;> first | with_reducible rfl | (rw [if_neg (by first | omega | (simp only [ByteArray.size_append] at *; omega))])
  simp only [Act.put, List.setIfInBounds_toArray, List.set_cons_zero, List.set_cons_succ]
  refine wpAnyH_take (i := 16) (oi := { dst := some 91, op := Go.Op.load 25 (Go.Operand.tmp 90), type := 25, pos := _, after := #[{ on := 15, ground := Go.Ground.data }], guard := none }) (v := ?_) rfl (by kernel_rfl) (by kernel_rfl) (by kernel_rfl) (fun _ _ _ h => h) (Or.inl ⟨by rfl, ?_⟩) (by assumption) ?_
  rotate_left
  · intro w hSw; (try dsimp only at hSw); go_simp <;> first | with_reducible rfl | (rw [if_neg (by first | omega | (simp only [ByteArray.size_append] at *; omega))])
  simp only [Act.put, List.setIfInBounds_toArray, List.set_cons_zero, List.set_cons_succ]
  refine wpAnyH_take (i := 17) (oi := { dst := some 92, op := Go.Op.fieldAddr 83 (Go.Operand.tmp 3) 4, type := 0, pos := _, after := #[], guard := none }) (v := ?_) rfl (by kernel_rfl) (by kernel_rfl) (by kernel_rfl) (fun _ _ _ h => h) (Or.inl ⟨by rfl, ?_⟩) (by assumption) ?_
  rotate_left
  · intro w hSw; (try dsimp only at hSw); go_simp <;> first | with_reducible rfl | (rw [if_neg (by first | omega | (simp only [ByteArray.size_append] at *; omega))])
  simp only [Act.put, List.setIfInBounds_toArray, List.set_cons_zero, List.set_cons_succ]
  refine wpAnyH_take (i := 18) (oi := { dst := some 93, op := Go.Op.load 3 (Go.Operand.tmp 92), type := 3, pos := _, after := #[{ on := 17, ground := Go.Ground.data }], guard := none }) (v := ?_) rfl (by kernel_rfl) (by kernel_rfl) (by kernel_rfl) (fun _ _ _ h => h) (Or.inl ⟨by rfl, ?_⟩) (by assumption) ?_
  rotate_left
  · intro w hSw; (try dsimp only at hSw); go_simp <;> first | with_reducible rfl | (rw [if_neg (by first | omega | (simp only [ByteArray.size_append] at *; omega))])
  simp only [Act.put, List.setIfInBounds_toArray, List.set_cons_zero, List.set_cons_succ]
  refine wpAnyH_ready (rs := [6]) (by kernel_rfl) (by simp) ?_
  refine AllReadyH.cons (o := { dst := some 81, op := Go.Op.call { callee := Go.Callee.value (Go.Operand.func 42), args := #[Go.Operand.tmp 78, Go.Operand.tmp 80], argTypes := #[25, 3] }, type := 9, pos := _, after := #[{ on := 3, ground := Go.Ground.data }, { on := 5, ground := Go.Ground.data }], guard := none }) rfl (fun K hK => ?_) AllReadyH.nil
  go_simp
  refine (c1 _ (B1.out.drew)).mono ?_
  rintro e w2 ⟨rfl, hw2⟩
  have B2 := hid (bstep (B1.out.drew) hw2)
  have X2 : w2.cell? ⟨w.heap.size, 3, none⟩ = some (.slice (some ⟨bb, o, none⟩) 2 cap) ∧ w2.cell? ⟨w0.heap.size, 2, none⟩ = some (.string r.text) ∧ w2.cell? ⟨w0.heap.size, 4, none⟩ = some (.int .i64 (r.first : Int)) ∧ w2.cell? ⟨w0.heap.size, 5, none⟩ = some (.int .i64 (r.second : Int)) := ⟨cell_kept X1.1 hw2, cell_kept X1.2.1 hw2, cell_kept X1.2.2.1 hw2, cell_kept X1.2.2.2 hw2⟩
  go_wp2_with fail
  refine hK.out _ _ ?_ (fun hHeld1 => ?_)
  · exact hSH _ B2.out X2
  clear hK K
  refine wpAnyH_take (i := 7) (oi := { dst := some 82, op := Go.Op.binOp Go.BinOp.add 9 (Go.Operand.tmp 81) (Go.Operand.const (Go.Value.string { data := #[32] })) 9, type := 9, pos := _, after := #[{ on := 6, ground := Go.Ground.data }], guard := none }) (v := ?_) rfl (by kernel_rfl) (by kernel_rfl) (by kernel_rfl) (fun _ _ _ h => h) (Or.inl ⟨by rfl, ?_⟩) (by assumption) ?_
  rotate_left
  · intro w hSw; (try dsimp only at hSw); go_simp <;> first | with_reducible rfl | (rw [if_neg (by first | omega | (simp only [ByteArray.size_append] at *; omega))])
  simp only [Act.put, List.setIfInBounds_toArray, List.set_cons_zero, List.set_cons_succ]
  refine wpAnyH_take (i := 11) (oi := { dst := some 86, op := Go.Op.binOp Go.BinOp.add 9 (Go.Operand.tmp 82) (Go.Operand.tmp 85) 9, type := 9, pos := _, after := #[{ on := 7, ground := Go.Ground.data }, { on := 10, ground := Go.Ground.data }], guard := none }) (v := ?_) rfl (by kernel_rfl) (by kernel_rfl) (by kernel_rfl) (fun _ _ _ h => h) (Or.inl ⟨by rfl, ?_⟩) (by assumption) ?_
  rotate_left
  · intro w hSw; (try dsimp only at hSw); go_simp <;> first | with_reducible rfl | (rw [if_neg (by first | omega | (simp only [ByteArray.size_append] at *; omega))])
  simp only [Act.put, List.setIfInBounds_toArray, List.set_cons_zero, List.set_cons_succ]
  refine wpAnyH_take (i := 12) (oi := { dst := some 87, op := Go.Op.binOp Go.BinOp.add 9 (Go.Operand.tmp 86) (Go.Operand.const (Go.Value.string { data := #[32] })) 9, type := 9, pos := _, after := #[{ on := 11, ground := Go.Ground.data }], guard := none }) (v := ?_) rfl (by kernel_rfl) (by kernel_rfl) (by kernel_rfl) (fun _ _ _ h => h) (Or.inl ⟨by rfl, ?_⟩) (by assumption) ?_
  rotate_left
  · intro w hSw; (try dsimp only at hSw); go_simp <;> first | with_reducible rfl | (rw [if_neg (by first | omega | (simp only [ByteArray.size_append] at *; omega))])
  simp only [Act.put, List.setIfInBounds_toArray, List.set_cons_zero, List.set_cons_succ]
  refine wpAnyH_ready (rs := [19]) (by kernel_rfl) (by simp) ?_
  refine AllReadyH.cons (o := { dst := some 94, op := Go.Op.call { callee := Go.Callee.value (Go.Operand.func 42), args := #[Go.Operand.tmp 91, Go.Operand.tmp 93], argTypes := #[25, 3] }, type := 9, pos := _, after := #[{ on := 16, ground := Go.Ground.data }, { on := 18, ground := Go.Ground.data }, { on := 6, ground := Go.Ground.chain }], guard := none }) rfl (fun K hK => ?_) AllReadyH.nil
  go_simp
  refine (c2 _ (B2.out)).mono ?_
  rintro e w3 ⟨rfl, hw3⟩
  have B3 := hid (bstep (B2.out) hw3)
  have X3 : w3.cell? ⟨w.heap.size, 3, none⟩ = some (.slice (some ⟨bb, o, none⟩) 2 cap) ∧ w3.cell? ⟨w0.heap.size, 2, none⟩ = some (.string r.text) ∧ w3.cell? ⟨w0.heap.size, 4, none⟩ = some (.int .i64 (r.first : Int)) ∧ w3.cell? ⟨w0.heap.size, 5, none⟩ = some (.int .i64 (r.second : Int)) := ⟨cell_kept X2.1 hw3, cell_kept X2.2.1 hw3, cell_kept X2.2.2.1 hw3, cell_kept X2.2.2.2 hw3⟩
  go_wp2_with fail
  refine hK.out _ _ ?_ (fun hHeld2 => ?_)
  · exact hSH _ B3.out X3
  clear hK K
  refine wpAnyH_take (i := 20) (oi := { dst := some 95, op := Go.Op.binOp Go.BinOp.add 9 (Go.Operand.tmp 87) (Go.Operand.tmp 94) 9, type := 9, pos := _, after := #[{ on := 12, ground := Go.Ground.data }, { on := 19, ground := Go.Ground.data }], guard := none }) (v := ?_) rfl (by kernel_rfl) (by kernel_rfl) (by kernel_rfl) (fun _ _ _ h => h) (Or.inl ⟨by rfl, ?_⟩) (by assumption) ?_
  rotate_left
  · intro w hSw; (try dsimp only at hSw); go_simp <;> first | with_reducible rfl | (rw [if_neg (by first | omega | (simp only [ByteArray.size_append] at *; omega))])
  simp only [Act.put, List.setIfInBounds_toArray, List.set_cons_zero, List.set_cons_succ]
  refine wpAnyH_take (i := 21) (oi := { dst := some 2, op := Go.Op.assign (Go.Operand.tmp 95), type := 9, pos := _, after := #[{ on := 20, ground := Go.Ground.data }, { on := 19, ground := Go.Ground.chain }, { on := 0, ground := Go.Ground.phase }, { on := 1, ground := Go.Ground.phase }, { on := 2, ground := Go.Ground.phase }, { on := 3, ground := Go.Ground.phase }, { on := 4, ground := Go.Ground.phase }, { on := 5, ground := Go.Ground.phase }, { on := 6, ground := Go.Ground.phase }, { on := 7, ground := Go.Ground.phase }, { on := 8, ground := Go.Ground.phase }, { on := 9, ground := Go.Ground.phase }, { on := 10, ground := Go.Ground.phase }, { on := 11, ground := Go.Ground.phase }, { on := 12, ground := Go.Ground.phase }, { on := 13, ground := Go.Ground.phase }, { on := 14, ground := Go.Ground.phase }, { on := 15, ground := Go.Ground.phase }, { on := 16, ground := Go.Ground.phase }, { on := 17, ground := Go.Ground.phase }, { on := 18, ground := Go.Ground.phase }, { on := 19, ground := Go.Ground.phase }, { on := 20, ground := Go.Ground.phase }], guard := none }) (v := ?_) rfl (by kernel_rfl) (by kernel_rfl) (by kernel_rfl) (fun _ _ _ h => h) (Or.inl ⟨by rfl, ?_⟩) (by assumption) ?_
  rotate_left
  · intro w hSw; (try dsimp only at hSw); go_simp <;> first | with_reducible rfl | (rw [if_neg (by first | omega | (simp only [ByteArray.size_append] at *; omega))])
  simp only [Act.put, List.setIfInBounds_toArray, List.set_cons_zero, List.set_cons_succ]
  refine wpAnyH_done (by kernel_rfl) ?_ _
  go_wp2
  go_ret
  exact ⟨rfl, B3.out⟩
end Go.Proofs.YtkieljleopbhoaaDoor.Lex
