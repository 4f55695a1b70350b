/-
  The contracts of written and inPlace.
  The contracts of written and Text, whatever may be.
  The document's own size, and Check.
  The document's own size and Check, whatever it is.
  The contracts of the document's own written and part.
  The contracts of the document's own written and Text, whatever may be.
  Whether the twin is as it was: the contracts of LeftExprs and LeftExpr.
  The walk of the law on what is written, whatever it is.
  What is worked out that came in, opened once.
  What the package-level variables hold when the law on what is written begins.
  The reader of tokens in memory; the contract of peek.
  The operator of two that a token is: the contract of joinAt.
  The reader goes on by a token: the contracts of yes, no, name, number, pass.
  What is worked out, in blocks of which something is known: it stays where others are written.
  What a reader's step answers; the contracts of yes, no, name, number.
-/
import Derived.Test.YtkieljleopbhoabDoorR2
import Derived.Lib.AppendIntMem
import Derived.Test.YtkieljleopbhoabDoorR1
import Derived.Test.YtkieljleopbhoabDoorTie
import Derived.Test.YtkieljleopbhoabDoorCards
import Derived.ProofKit
import Derived.OpenShut
import Derived.ShutString
import Derived.ChangeOld
import Derived.LaidMore
import Derived.SizedLaws
import Derived.Lib.LaidTab
import Derived.Lib.SmallJoins
import Derived.Stop.LaidErr
import Derived.BigQuiet
namespace Go.Proofs.YtkieljleopbhoabDoor.Lex
open Go.ChangeShapes Go.WideShapes Go.ChangeAt Go.RowKit Go.Joins
set_option linter.unusedVariables false
/-- The powers of ten stand in their variable. -/
def TabP (w : World) : Prop := Lib.TabIs Tryd.prog w "internal/strconv.uint64pow10" .u64 Lib.pow10Tab
theorem gPow : Tryd.prog.globalNamed "internal/strconv.uint64pow10" = some 3 := by kernel_rfl
theorem TabP.below {w W : World} (h : TabP w) (hb : Below w.heap.size w W) : TabP W := by
  unfold TabP Lib.TabIs World.var? at h ⊢
  rw [gPow] at h ⊢
  simp only [Option.bind_some] at h ⊢
  by_cases hl : 3 < w.heap.size
  · rw [hb.block 3 hl]; exact h
  · rw [Array.getElem?_eq_none (by omega)] at h; cases h
/-- What the variables hold. -/
structure Env (w : World) : Prop where
  res : TabR w
  joins : TabJ w
  pow : TabP w
theorem Env.below {w W : World} (h : Env w) (hb : Below w.heap.size w W) : Env W := ⟨h.res.below hb, h.joins.below hb, h.pow.below hb⟩
/-- A part's cells. -/
def KidAt (W : World) (bb off : Nat) (a : Ex) (ka : Option Addr) (ca : Nat) : Prop :=
  W.cell? ⟨bb, off, none⟩ = some (.int .u8 (a.op : Int)) ∧ W.cell? ⟨bb, off + 1, none⟩ = some (.int .i64 a.n) ∧ W.cell? ⟨bb, off + 2, none⟩ = some (.string a.name) ∧ W.cell? ⟨bb, off + 3, none⟩ = some (.slice ka a.args.length ca)
theorem KidAt.keep {w W : World} {bb off : Nat} {a : Ex} {ka : Option Addr} {ca : Nat} (h : KidAt w bb off a ka ca) (hb : Below w.heap.size w W) : KidAt W bb off a ka ca :=
  ⟨cell_kept h.1 hb, cell_kept h.2.1 hb, cell_kept h.2.2.1 hb, cell_kept h.2.2.2 hb⟩
theorem St.kids {w : World} {x : Ex} {s : Value} (h : St w x s) (h0 : x.args.length ≠ 0) : ∃ bb o cap, s = .slice (some ⟨bb, o, none⟩) x.args.length cap ∧ ∀ i (hi : i < x.args.length), ∃ ka ca, St w x.args[i] (.slice ka x.args[i].args.length ca) ∧ KidAt w bb (o + i * 4) x.args[i] ka ca := by
  obtain ⟨ao, cap, sl, rfl, _, _, _, _, _, hc, hs⟩ := h.out
  obtain ⟨bb, o, rfl, hcc⟩ := hc.resolve_left h0
  refine ⟨bb, o, cap, rfl, fun i hi => ?_⟩
  obtain ⟨c0, c1, c2, c3⟩ := hcc i hi
  have hst := hs i hi
  obtain ⟨ka, ca, _, e, _⟩ := hst.out
  rw [e] at hst c3
  exact ⟨ka, ca, hst, c0, c1, c2, c3⟩
def WrC (d : Nat) : Prop := ∀ (x : Ex) (w : World) (s : Value) (M k : Nat), M ≤ 200 → sz d M x = some k → St w x s → Env w → Calls Tryd.prog 25 #[exV x s] w fun e w' => e = .returned (.string ⟨(wr x).toArray⟩) ∧ Below w.heap.size w w'
def PlC (d : Nat) : Prop := ∀ (x : Ex) (w : World) (s : Value) (M k asked : Nat), M ≤ 200 → asked ≤ 7 → sz d M x = some k → St w x s → Env w → Calls Tryd.prog 48 #[exV x s, .int .i64 (asked : Int)] w fun e w' => e = .returned (.string ⟨(put asked (rkOf x.op) (wr x)).toArray⟩) ∧ Below w.heap.size w w'
theorem bsize (l : List UInt8) : (⟨l.toArray⟩ : ByteArray).size = l.length := by rw [Lib.size_eq]
theorem bapp (a b : List UInt8) : (⟨a.toArray⟩ : ByteArray) ++ (⟨b.toArray⟩ : ByteArray) = ⟨(a ++ b).toArray⟩ := by
  apply ByteArray.ext
  rw [ByteArray.data_append]
  simp
set_option maxRecDepth 100000 in
theorem pl_of (d : Nat) (h : WrC d) : PlC d := by
  intro x w s M k asked hM hA hz hS hE
  obtain ⟨ao, cap, sl, rfl, _⟩ := hS.out
  have hl := wr_len d M x k w _ hz hS
  have hk := (sz_le _ _ _ _ hz).2
  have b1 := (Below.refl w.heap.size w).alloc (Nat.le_refl _) (.cells #[.int .u8 (x.op : Int), .int .i64 x.n, .string x.name, .slice ao x.args.length cap] 26)
  have cr := rankOf x.op _ (hE.joins.below b1)
  have cw := fun W (hb : Below w.heap.size w W) => h x W _ M k hM hz (hS.keep hb) (hE.below hb)
  have B1 := hid b1
  have bx := fun j v => box_at w #[.int .u8 (x.op : Int), .int .i64 x.n, .string x.name, .slice ao x.args.length cap] 26 j v
  obtain ⟨X, hX⟩ : ∃ X : ByteArray, (⟨(wr x).toArray⟩ : ByteArray) = X := ⟨_, rfl⟩
  have hXs : X.size ≤ 13000 := by rw [← hX, bsize]; omega
  unfold put
  clear hS hE hz hl hk b1 h
  by_cases hr : rkOf x.op < asked
  · have hr' : (rkOf x.op : Int) < (asked : Int) := by omega
    have HG : Hid ((⟨(40 :: (wr x ++ [41])).toArray⟩ : ByteArray) = (⟨#[40]⟩ : ByteArray) ++ X ++ (⟨#[41]⟩ : ByteArray)) := by
      unfold Hid
      rw [← hX]
      apply ByteArray.ext
      rw [ByteArray.data_append, ByteArray.data_append]
      simp
    rw [if_pos hr, HG.out]
    rw [hX] at cw
    clear hr HG hX
    generalize (rkOf x.op : Int) = R at *
    go_enter Tryd.func48, Tryd.ntmps48
    go_wp2_with (first
      | (go_at_call 69; refine cr.mono ?_; rintro e w2 ⟨rfl, hb2⟩; have y0 := cell_kept (bx 0 _ rfl) hb2; have y1 := cell_kept (bx 1 _ rfl) hb2; have y2 := cell_kept (bx 2 _ rfl) hb2; have y3 := cell_kept (bx 3 _ rfl) hb2; have B2 := hid (bstep B1.out hb2); clear hb2 bx cr)
      | (go_at_call 25; refine (cw _ B2.out).mono ?_; rintro e w3 ⟨rfl, hb3⟩; have B3 := hid (bstep B2.out hb3); clear hb3 cw))
    go_ret
    exact ⟨rfl, B3.out⟩
  · have hr' : ¬ (rkOf x.op : Int) < (asked : Int) := by omega
    rw [if_neg hr, hX]
    rw [hX] at cw
    clear hr hX
    generalize (rkOf x.op : Int) = R at *
    go_enter Tryd.func48, Tryd.ntmps48
    go_wp2_with (first
      | (go_at_call 69; refine cr.mono ?_; rintro e w2 ⟨rfl, hb2⟩; have y0 := cell_kept (bx 0 _ rfl) hb2; have y1 := cell_kept (bx 1 _ rfl) hb2; have y2 := cell_kept (bx 2 _ rfl) hb2; have y3 := cell_kept (bx 3 _ rfl) hb2; have B2 := hid (bstep B1.out hb2); clear hb2 bx cr)
      | (go_at_call 25; refine (cw _ B2.out).mono ?_; rintro e w3 ⟨rfl, hb3⟩; have B3 := hid (bstep B2.out hb3); clear hb3 cw))
    go_ret
    exact ⟨rfl, B3.out⟩
set_option maxRecDepth 100000 in
theorem wr_int (x : Ex) (w : World) (ao : Option Addr) (cap : Nat) (e1 : ((x.op : Int) == 1) = true) (h0 : -9223372036854775808 ≤ x.n) (h1 : x.n ≤ 9223372036854775807) (hP : TabP w) :
    Calls Tryd.prog 25 #[exV x (.slice ao x.args.length cap)] w fun e w' => e = .returned (.string ⟨(Lib.itoa x.n).toArray⟩) ∧ Below w.heap.size w w' := by
  have b1 := (Below.refl w.heap.size w).alloc (Nat.le_refl _) (.cells #[.int .u8 (x.op : Int), .int .i64 x.n, .string x.name, .slice ao x.args.length cap] 26)
  have c := Tryd.strconv_FormatInt_10 x.n h0 h1 _ (hP.below b1)
  have B1 := hid b1
  clear hP b1
  go_enter Tryd.func25, Tryd.ntmps25
  go_wp2_with (go_at_call 45; refine c.mono ?_; rintro e w2 ⟨rfl, k, os, rfl⟩)
  go_ret
  exact ⟨rfl, bstep B1.out (Lib.below_grow _ _ (Nat.le_refl _) k os)⟩
set_option maxRecDepth 100000 in
theorem wr_bool (x : Ex) (w : World) (ao : Option Addr) (cap : Nat) (e1 : ((x.op : Int) == 1) = false) (e2 : ((x.op : Int) == 2) = true) :
    Calls Tryd.prog 25 #[exV x (.slice ao x.args.length cap)] w fun e w' => e = .returned (.string ⟨(yesNo (x.n == 1)).toArray⟩) ∧ Below w.heap.size w w' := by
  have c := fun b W => Tryd.strconv_FormatBool b W
  have hy : ∀ b, Lib.formatBool b = yesNo b := by intro b; cases b <;> decide
  rw [← hy]
  go_enter Tryd.func25, Tryd.ntmps25
  go_wp2_with (go_at_call 46; refine (c _ _).mono ?_; rintro e w2 ⟨rfl, rfl⟩)
  go_ret
  exact ⟨rfl, (Below.refl _ _).alloc (Nat.le_refl _) _⟩
set_option maxRecDepth 100000 in
theorem wr_name (x : Ex) (w : World) (ao : Option Addr) (cap : Nat) (e1 : ((x.op : Int) == 1) = false) (e2 : ((x.op : Int) == 2) = false) (e3 : ((x.op : Int) == 3) = true) (hs : x.name.size ≤ 65536) :
    Calls Tryd.prog 25 #[exV x (.slice ao x.args.length cap)] w fun e w' => e = .returned (.string x.name) ∧ Below w.heap.size w w' := by
  have b1 := (Below.refl w.heap.size w).alloc (Nat.le_refl _) (.cells #[.int .u8 (x.op : Int), .int .i64 x.n, .string x.name, .slice ao x.args.length cap] 26)
  have c := fun W => clone x.name W hs
  have B1 := hid b1
  clear b1 hs
  go_enter Tryd.func25, Tryd.ntmps25
  go_wp2_with (go_at_call 31; refine (c _).mono ?_; rintro e w2 ⟨rfl, hb2⟩)
  go_ret
  exact ⟨rfl, bstep B1.out hb2⟩
set_option maxRecDepth 100000 in
theorem wr_neg (x a : Ex) (w : World) (bb o cap : Nat) (ka : Option Addr) (ca : Nat) (e1 : ((x.op : Int) == 1) = false) (e2 : ((x.op : Int) == 2) = false) (e3 : ((x.op : Int) == 3) = false) (e4 : ((x.op : Int) == 4) = true) (Y : ByteArray) (hY : Y.size ≤ 13100) (hk : KidAt w bb o a ka ca)
    (c : ∀ W, Below w.heap.size w W → Calls Tryd.prog 48 #[exV a (.slice ka a.args.length ca), .int .i64 6] W fun e w' => e = .returned (.string Y) ∧ Below W.heap.size W w') :
    Calls Tryd.prog 25 #[exV x (.slice (some ⟨bb, o, none⟩) 1 cap)] w fun e w' => e = .returned (.string ⟨(negW Y.data.toList).toArray⟩) ∧ Below w.heap.size w w' := by
  have b1 := (Below.refl w.heap.size w).alloc (Nat.le_refl _) (.cells #[.int .u8 (x.op : Int), .int .i64 x.n, .string x.name, .slice (some ⟨bb, o, none⟩) 1 cap] 26)
  obtain ⟨v0, v1, v2, v3⟩ := hk.keep b1
  have B1 := hid b1
  have cn := fun W => negated Y W (by omega)
  clear hk b1
  go_enter Tryd.func25, Tryd.ntmps25
  go_wp2_with (first
    | (go_at_call 48; refine (c _ B1.out).mono ?_; rintro e w2 ⟨rfl, hb2⟩; have B2 := hid (bstep B1.out hb2); clear hb2 c)
    | (go_at_call 47; refine (cn _).mono ?_; rintro e w3 ⟨rfl, rfl⟩))
  go_ret
  exact ⟨rfl, B2.out⟩
set_option maxRecDepth 100000 in
theorem wr_not (x a : Ex) (w : World) (bb o cap : Nat) (ka : Option Addr) (ca : Nat) (e1 : ((x.op : Int) == 1) = false) (e2 : ((x.op : Int) == 2) = false) (e3 : ((x.op : Int) == 3) = false) (e4 : ((x.op : Int) == 4) = false) (e5 : ((x.op : Int) == 5) = true) (Y : ByteArray) (hY : Y.size ≤ 13100) (hk : KidAt w bb o a ka ca)
    (c : ∀ W, Below w.heap.size w W → Calls Tryd.prog 48 #[exV a (.slice ka a.args.length ca), .int .i64 6] W fun e w' => e = .returned (.string Y) ∧ Below W.heap.size W w') :
    Calls Tryd.prog 25 #[exV x (.slice (some ⟨bb, o, none⟩) 1 cap)] w fun e w' => e = .returned (.string ((⟨#[110, 111, 116, 32]⟩ : ByteArray) ++ Y)) ∧ Below w.heap.size w w' := by
  have b1 := (Below.refl w.heap.size w).alloc (Nat.le_refl _) (.cells #[.int .u8 (x.op : Int), .int .i64 x.n, .string x.name, .slice (some ⟨bb, o, none⟩) 1 cap] 26)
  obtain ⟨v0, v1, v2, v3⟩ := hk.keep b1
  have B1 := hid b1
  clear hk b1
  go_enter Tryd.func25, Tryd.ntmps25
  go_wp2_with (first
    | (go_at_call 48; refine (c _ B1.out).mono ?_; rintro e w2 ⟨rfl, hb2⟩; have B2 := hid (bstep B1.out hb2); clear hb2 c)
    | (go_at_call 47; refine (cn _).mono ?_; rintro e w3 ⟨rfl, rfl⟩))
  go_ret
  exact ⟨rfl, B2.out⟩
set_option maxRecDepth 100000 in
theorem wr_pre (x a : Ex) (w : World) (bb o cap : Nat) (ka : Option Addr) (ca : Nat) (e1 : ((x.op : Int) == 1) = false) (e2 : ((x.op : Int) == 2) = false) (e3 : ((x.op : Int) == 3) = false) (e4 : ((x.op : Int) == 4) = false) (e5 : ((x.op : Int) == 5) = false) (e19 : ((x.op : Int) == 19) = true) (Y : ByteArray) (hY : Y.size ≤ 13100) (hk : KidAt w bb o a ka ca)
    (c : ∀ W, Below w.heap.size w W → Calls Tryd.prog 48 #[exV a (.slice ka a.args.length ca), .int .i64 6] W fun e w' => e = .returned (.string Y) ∧ Below W.heap.size W w') :
    Calls Tryd.prog 25 #[exV x (.slice (some ⟨bb, o, none⟩) 1 cap)] w fun e w' => e = .returned (.string ((⟨#[112, 114, 101, 32]⟩ : ByteArray) ++ Y)) ∧ Below w.heap.size w w' := by
  have b1 := (Below.refl w.heap.size w).alloc (Nat.le_refl _) (.cells #[.int .u8 (x.op : Int), .int .i64 x.n, .string x.name, .slice (some ⟨bb, o, none⟩) 1 cap] 26)
  obtain ⟨v0, v1, v2, v3⟩ := hk.keep b1
  have B1 := hid b1
  clear hk b1
  go_enter Tryd.func25, Tryd.ntmps25
  go_wp2_with (first
    | (go_at_call 48; refine (c _ B1.out).mono ?_; rintro e w2 ⟨rfl, hb2⟩; have B2 := hid (bstep B1.out hb2); clear hb2 c)
    | (go_at_call 47; refine (cn _).mono ?_; rintro e w3 ⟨rfl, rfl⟩))
  go_ret
  exact ⟨rfl, B2.out⟩
set_option maxRecDepth 100000 in
set_option maxHeartbeats 2000000 in
theorem wr_if (x a b c : Ex) (w : World) (bb o cap : Nat) (ka kb kc : Option Addr) (ca cb cc : Nat) (e1 : ((x.op : Int) == 1) = false) (e2 : ((x.op : Int) == 2) = false) (e3 : ((x.op : Int) == 3) = false) (e4 : ((x.op : Int) == 4) = false) (e5 : ((x.op : Int) == 5) = false) (e19 : ((x.op : Int) == 19) = false) (e17 : ((x.op : Int) == 17) = true) (Y1 Y2 Y3 : ByteArray) (hY1 : Y1.size ≤ 13100) (hY2 : Y2.size ≤ 13100) (hY3 : Y3.size ≤ 13100)
    (hk : KidAt w bb o a ka ca ∧ KidAt w bb (o + 4) b kb cb ∧ KidAt w bb (o + 8) c kc cc)
    (c1 : ∀ W, Below w.heap.size w W → Calls Tryd.prog 48 #[exV a (.slice ka a.args.length ca), .int .i64 0] W fun e w' => e = .returned (.string Y1) ∧ Below W.heap.size W w')
    (c2 : ∀ W, Below w.heap.size w W → Calls Tryd.prog 48 #[exV b (.slice kb b.args.length cb), .int .i64 0] W fun e w' => e = .returned (.string Y2) ∧ Below W.heap.size W w')
    (c3 : ∀ W, Below w.heap.size w W → Calls Tryd.prog 48 #[exV c (.slice kc c.args.length cc), .int .i64 0] W fun e w' => e = .returned (.string Y3) ∧ Below W.heap.size W w') :
    Calls Tryd.prog 25 #[exV x (.slice (some ⟨bb, o, none⟩) 3 cap)] w fun e w' => e = .returned (.string ((⟨#[105, 102, 32]⟩ : ByteArray) ++ Y1 ++ (⟨#[32, 116, 104, 101, 110, 32]⟩ : ByteArray) ++ Y2 ++ (⟨#[32, 101, 108, 115, 101, 32]⟩ : ByteArray) ++ Y3)) ∧ Below w.heap.size w w' := by
  have b1 := (Below.refl w.heap.size w).alloc (Nat.le_refl _) (.cells #[.int .u8 (x.op : Int), .int .i64 x.n, .string x.name, .slice (some ⟨bb, o, none⟩) 3 cap] 26)
  have B1 := hid b1
  have X1 : (w.alloc (.cells #[.int .u8 (x.op : Int), .int .i64 x.n, .string x.name, .slice (some ⟨bb, o, none⟩) 3 cap] 26)).drew.cell? ⟨w.heap.size, 3, none⟩ = some (.slice (some ⟨bb, o, none⟩) 3 cap) := box_at w _ 26 3 _ rfl
  have hSH : ∀ W, Below w.heap.size w W → W.cell? ⟨w.heap.size, 3, none⟩ = some (.slice (some ⟨bb, o, none⟩) 3 cap) → W.cell? ⟨w.heap.size, 3, none⟩ = some (.slice (some ⟨bb, o, none⟩) 3 cap) ∧ (W.cell? ⟨bb, o, none⟩ = some (.int .u8 (a.op : Int)) ∧ W.cell? ⟨bb, o + 1, none⟩ = some (.int .i64 a.n) ∧ W.cell? ⟨bb, o + 2, none⟩ = some (.string a.name) ∧ W.cell? ⟨bb, o + 3, none⟩ = some (.slice ka a.args.length ca)) ∧ (W.cell? ⟨bb, o + 4, none⟩ = some (.int .u8 (b.op : Int)) ∧ W.cell? ⟨bb, o + 5, none⟩ = some (.int .i64 b.n) ∧ W.cell? ⟨bb, o + 6, none⟩ = some (.string b.name) ∧ W.cell? ⟨bb, o + 7, none⟩ = some (.slice kb b.args.length cb)) ∧ (W.cell? ⟨bb, o + 8, none⟩ = some (.int .u8 (c.op : Int)) ∧ W.cell? ⟨bb, o + 9, none⟩ = some (.int .i64 c.n) ∧ W.cell? ⟨bb, o + 10, none⟩ = some (.string c.name) ∧ W.cell? ⟨bb, o + 11, none⟩ = some (.slice kc c.args.length cc)) := fun W hb h => ⟨h, hk.1.keep hb, hk.2.1.keep hb, hk.2.2.keep hb⟩
  clear hk b1
  go_enter Tryd.func25, Tryd.ntmps25
  go_wp2
  refine wp_region_held_drew (S := fun W => W.cell? ⟨w.heap.size, 3, none⟩ = some (.slice (some ⟨bb, o, none⟩) 3 cap) ∧ (W.cell? ⟨bb, o, none⟩ = some (.int .u8 (a.op : Int)) ∧ W.cell? ⟨bb, o + 1, none⟩ = some (.int .i64 a.n) ∧ W.cell? ⟨bb, o + 2, none⟩ = some (.string a.name) ∧ W.cell? ⟨bb, o + 3, none⟩ = some (.slice ka a.args.length ca)) ∧ (W.cell? ⟨bb, o + 4, none⟩ = some (.int .u8 (b.op : Int)) ∧ W.cell? ⟨bb, o + 5, none⟩ = some (.int .i64 b.n) ∧ W.cell? ⟨bb, o + 6, none⟩ = some (.string b.name) ∧ W.cell? ⟨bb, o + 7, none⟩ = some (.slice kb b.args.length cb)) ∧ (W.cell? ⟨bb, o + 8, none⟩ = some (.int .u8 (c.op : Int)) ∧ W.cell? ⟨bb, o + 9, none⟩ = some (.int .i64 c.n) ∧ W.cell? ⟨bb, o + 10, none⟩ = some (.string c.name) ∧ W.cell? ⟨bb, o + 11, none⟩ = some (.slice kc c.args.length cc))) (by kernel_rfl) ?_ (fun hHeld => ?_)
  · exact hSH _ B1.out.drew X1
  refine wpAnyH_take (i := 0) (oi := { dst := some 49, op := Go.Op.fieldAddr 26 (Go.Operand.tmp 1) 3, type := 0, pos := _, after := #[], guard := none }) (v := ?_) rfl (by kernel_rfl) (by kernel_rfl) (by kernel_rfl) (fun _ _ _ h => h) (Or.inl ⟨by rfl, ?_⟩) (by assumption) ?_
  rotate_left
  · intro w hSw; (try dsimp only at hSw); go_simp <;> first | with_reducible rfl | (rw [if_neg (by first | omega | (simp only [ByteArray.size_append] at *; omega))])
  simp only [Act.put, List.setIfInBounds_toArray, List.set_cons_zero, List.set_cons_succ]
  refine wpAnyH_take (i := 1) (oi := { dst := some 50, op := Go.Op.load 24 (Go.Operand.tmp 49), type := 24, pos := _, after := #[{ on := 0, ground := Go.Ground.data }], guard := none }) (v := ?_) rfl (by kernel_rfl) (by kernel_rfl) (by kernel_rfl) (fun _ _ _ h => h) (Or.inl ⟨by rfl, ?_⟩) (by assumption) ?_
  rotate_left
  · intro w hSw; (try dsimp only at hSw); go_simp <;> first | with_reducible rfl | (rw [if_neg (by first | omega | (simp only [ByteArray.size_append] at *; omega))])
  simp only [Act.put, List.setIfInBounds_toArray, List.set_cons_zero, List.set_cons_succ]
  refine wpAnyH_take (i := 2) (oi := { dst := some 51, op := Go.Op.indexAddr 24 (Go.Operand.tmp 50) (Go.Operand.const (Go.Value.int Go.IntKind.i64 0)), type := 0, pos := _, after := #[{ on := 1, ground := Go.Ground.data }], guard := none }) (v := ?_) rfl (by kernel_rfl) (by kernel_rfl) (by kernel_rfl) (fun _ _ _ h => h) (Or.inl ⟨by rfl, ?_⟩) (by assumption) ?_
  rotate_left
  · intro w hSw; (try dsimp only at hSw); go_simp <;> first | with_reducible rfl | (rw [if_neg (by first | omega | (simp only [ByteArray.size_append] at *; omega))])
  simp only [Act.put, List.setIfInBounds_toArray, List.set_cons_zero, List.set_cons_succ]
  refine wpAnyH_take (i := 3) (oi := { dst := some 52, op := Go.Op.load 26 (Go.Operand.tmp 51), type := 26, pos := _, after := #[{ on := 2, ground := Go.Ground.data }], guard := none }) (v := ?_) rfl (by kernel_rfl) (by kernel_rfl) (by kernel_rfl) (fun _ _ _ h => h) (Or.inl ⟨by rfl, ?_⟩) (by assumption) ?_
  rotate_left
  · intro w hSw; (try dsimp only at hSw); go_simp <;> first | with_reducible rfl | (rw [if_neg (by first | omega | (simp only [ByteArray.size_append] at *; omega))])
  simp only [Act.put, List.setIfInBounds_toArray, List.set_cons_zero, List.set_cons_succ]
  refine wpAnyH_take (i := 7) (oi := { dst := some 56, op := Go.Op.fieldAddr 26 (Go.Operand.tmp 1) 3, type := 0, pos := _, after := #[], guard := none }) (v := ?_) rfl (by kernel_rfl) (by kernel_rfl) (by kernel_rfl) (fun _ _ _ h => h) (Or.inl ⟨by rfl, ?_⟩) (by assumption) ?_
  rotate_left
  · intro w hSw; (try dsimp only at hSw); go_simp <;> first | with_reducible rfl | (rw [if_neg (by first | omega | (simp only [ByteArray.size_append] at *; omega))])
  simp only [Act.put, List.setIfInBounds_toArray, List.set_cons_zero, List.set_cons_succ]
  refine wpAnyH_take (i := 8) (oi := { dst := some 57, op := Go.Op.load 24 (Go.Operand.tmp 56), type := 24, pos := _, after := #[{ on := 7, ground := Go.Ground.data }], guard := none }) (v := ?_) rfl (by kernel_rfl) (by kernel_rfl) (by kernel_rfl) (fun _ _ _ h => h) (Or.inl ⟨by rfl, ?_⟩) (by assumption) ?_
  rotate_left
  · intro w hSw; (try dsimp only at hSw); go_simp <;> first | with_reducible rfl | (rw [if_neg (by first | omega | (simp only [ByteArray.size_append] at *; omega))])
  simp only [Act.put, List.setIfInBounds_toArray, List.set_cons_zero, List.set_cons_succ]
  refine wpAnyH_take (i := 9) (oi := { dst := some 58, op := Go.Op.indexAddr 24 (Go.Operand.tmp 57) (Go.Operand.const (Go.Value.int Go.IntKind.i64 1)), type := 0, pos := _, after := #[{ on := 8, ground := Go.Ground.data }], guard := none }) (v := ?_) rfl (by kernel_rfl) (by kernel_rfl) (by kernel_rfl) (fun _ _ _ h => h) (Or.inl ⟨by rfl, ?_⟩) (by assumption) ?_
  rotate_left
  · intro w hSw; (try dsimp only at hSw); go_simp <;> first | with_reducible rfl | (rw [if_neg (by first | omega | (simp only [ByteArray.size_append] at *; omega))])
  simp only [Act.put, List.setIfInBounds_toArray, List.set_cons_zero, List.set_cons_succ]
  refine wpAnyH_take (i := 10) (oi := { dst := some 59, op := Go.Op.load 26 (Go.Operand.tmp 58), type := 26, pos := _, after := #[{ on := 9, ground := Go.Ground.data }], guard := none }) (v := ?_) rfl (by kernel_rfl) (by kernel_rfl) (by kernel_rfl) (fun _ _ _ h => h) (Or.inl ⟨by rfl, ?_⟩) (by assumption) ?_
  rotate_left
  · intro w hSw; (try dsimp only at hSw); go_simp <;> first | with_reducible rfl | (rw [if_neg (by first | omega | (simp only [ByteArray.size_append] at *; omega))])
  simp only [Act.put, List.setIfInBounds_toArray, List.set_cons_zero, List.set_cons_succ]
  refine wpAnyH_take (i := 14) (oi := { dst := some 63, op := Go.Op.fieldAddr 26 (Go.Operand.tmp 1) 3, type := 0, pos := _, after := #[], guard := none }) (v := ?_) rfl (by kernel_rfl) (by kernel_rfl) (by kernel_rfl) (fun _ _ _ h => h) (Or.inl ⟨by rfl, ?_⟩) (by assumption) ?_
  rotate_left
  · intro w hSw; (try dsimp only at hSw); go_simp <;> first | with_reducible rfl | (rw [if_neg (by first | omega | (simp only [ByteArray.size_append] at *; omega))])
  simp only [Act.put, List.setIfInBounds_toArray, List.set_cons_zero, List.set_cons_succ]
  refine wpAnyH_take (i := 15) (oi := { dst := some 64, op := Go.Op.load 24 (Go.Operand.tmp 63), type := 24, pos := _, after := #[{ on := 14, ground := Go.Ground.data }], guard := none }) (v := ?_) rfl (by kernel_rfl) (by kernel_rfl) (by kernel_rfl) (fun _ _ _ h => h) (Or.inl ⟨by rfl, ?_⟩) (by assumption) ?_
  rotate_left
  · intro w hSw; (try dsimp only at hSw); go_simp <;> first | with_reducible rfl | (rw [if_neg (by first | omega | (simp only [ByteArray.size_append] at *; omega))])
  simp only [Act.put, List.setIfInBounds_toArray, List.set_cons_zero, List.set_cons_succ]
  refine wpAnyH_take (i := 16) (oi := { dst := some 65, op := Go.Op.indexAddr 24 (Go.Operand.tmp 64) (Go.Operand.const (Go.Value.int Go.IntKind.i64 2)), type := 0, pos := _, after := #[{ on := 15, ground := Go.Ground.data }], guard := none }) (v := ?_) rfl (by kernel_rfl) (by kernel_rfl) (by kernel_rfl) (fun _ _ _ h => h) (Or.inl ⟨by rfl, ?_⟩) (by assumption) ?_
  rotate_left
  · intro w hSw; (try dsimp only at hSw); go_simp <;> first | with_reducible rfl | (rw [if_neg (by first | omega | (simp only [ByteArray.size_append] at *; omega))])
  simp only [Act.put, List.setIfInBounds_toArray, List.set_cons_zero, List.set_cons_succ]
  refine wpAnyH_take (i := 17) (oi := { dst := some 66, op := Go.Op.load 26 (Go.Operand.tmp 65), type := 26, pos := _, after := #[{ on := 16, ground := Go.Ground.data }], guard := none }) (v := ?_) rfl (by kernel_rfl) (by kernel_rfl) (by kernel_rfl) (fun _ _ _ h => h) (Or.inl ⟨by rfl, ?_⟩) (by assumption) ?_
  rotate_left
  · intro w hSw; (try dsimp only at hSw); go_simp <;> first | with_reducible rfl | (rw [if_neg (by first | omega | (simp only [ByteArray.size_append] at *; omega))])
  simp only [Act.put, List.setIfInBounds_toArray, List.set_cons_zero, List.set_cons_succ]
  refine wpAnyH_ready (rs := [4]) (by kernel_rfl) (by simp) ?_
  refine AllReadyH.cons (o := { dst := some 53, op := Go.Op.call { callee := Go.Callee.value (Go.Operand.func 48), args := #[Go.Operand.tmp 52, Go.Operand.const (Go.Value.int Go.IntKind.i64 0)], argTypes := #[26, 3] }, type := 9, pos := _, after := #[{ on := 3, ground := Go.Ground.data }], guard := none }) rfl (fun K hK => ?_) AllReadyH.nil
  go_simp
  refine (c1 _ (B1.out.drew)).mono ?_
  rintro e w2 ⟨rfl, hw2⟩
  have B2 := hid (bstep (B1.out.drew) hw2)
  have X2 := cell_kept X1 hw2
  go_wp2_with fail
  refine hK.out _ _ ?_ (fun hHeld1 => ?_)
  · exact hSH _ B2.out X2
  clear hK K
  refine wpAnyH_take (i := 5) (oi := { dst := some 54, op := Go.Op.binOp Go.BinOp.add 9 (Go.Operand.const (Go.Value.string { data := #[105, 102, 32] })) (Go.Operand.tmp 53) 9, type := 9, pos := _, after := #[{ on := 4, ground := Go.Ground.data }], guard := none }) (v := ?_) rfl (by kernel_rfl) (by kernel_rfl) (by kernel_rfl) (fun _ _ _ h => h) (Or.inl ⟨by rfl, ?_⟩) (by assumption) ?_
  rotate_left
  · intro w hSw; (try dsimp only at hSw); go_simp <;> first | with_reducible rfl | (rw [if_neg (by first | omega | (simp only [ByteArray.size_append] at *; omega))])
  simp only [Act.put, List.setIfInBounds_toArray, List.set_cons_zero, List.set_cons_succ]
  refine wpAnyH_take (i := 6) (oi := { dst := some 55, op := Go.Op.binOp Go.BinOp.add 9 (Go.Operand.tmp 54) (Go.Operand.const (Go.Value.string { data := #[32, 116, 104, 101, 110, 32] })) 9, type := 9, pos := _, after := #[{ on := 5, ground := Go.Ground.data }], guard := none }) (v := ?_) rfl (by kernel_rfl) (by kernel_rfl) (by kernel_rfl) (fun _ _ _ h => h) (Or.inl ⟨by rfl, ?_⟩) (by assumption) ?_
  rotate_left
  · intro w hSw; (try dsimp only at hSw); go_simp <;> first | with_reducible rfl | (rw [if_neg (by first | omega | (simp only [ByteArray.size_append] at *; omega))])
  simp only [Act.put, List.setIfInBounds_toArray, List.set_cons_zero, List.set_cons_succ]
  refine wpAnyH_ready (rs := [11]) (by kernel_rfl) (by simp) ?_
  refine AllReadyH.cons (o := { dst := some 60, op := Go.Op.call { callee := Go.Callee.value (Go.Operand.func 48), args := #[Go.Operand.tmp 59, Go.Operand.const (Go.Value.int Go.IntKind.i64 0)], argTypes := #[26, 3] }, type := 9, pos := _, after := #[{ on := 10, ground := Go.Ground.data }, { on := 4, ground := Go.Ground.chain }], guard := none }) rfl (fun K hK => ?_) AllReadyH.nil
  go_simp
  refine (c2 _ (B2.out)).mono ?_
  rintro e w3 ⟨rfl, hw3⟩
  have B3 := hid (bstep (B2.out) hw3)
  have X3 := cell_kept X2 hw3
  go_wp2_with fail
  refine hK.out _ _ ?_ (fun hHeld2 => ?_)
  · exact hSH _ B3.out X3
  clear hK K
  refine wpAnyH_take (i := 12) (oi := { dst := some 61, op := Go.Op.binOp Go.BinOp.add 9 (Go.Operand.tmp 55) (Go.Operand.tmp 60) 9, type := 9, pos := _, after := #[{ on := 6, ground := Go.Ground.data }, { on := 11, ground := Go.Ground.data }], guard := none }) (v := ?_) rfl (by kernel_rfl) (by kernel_rfl) (by kernel_rfl) (fun _ _ _ h => h) (Or.inl ⟨by rfl, ?_⟩) (by assumption) ?_
  rotate_left
  · intro w hSw; (try dsimp only at hSw); go_simp <;> first | with_reducible rfl | (rw [if_neg (by first | omega | (simp only [ByteArray.size_append] at *; omega))])
  simp only [Act.put, List.setIfInBounds_toArray, List.set_cons_zero, List.set_cons_succ]
  refine wpAnyH_take (i := 13) (oi := { dst := some 62, op := Go.Op.binOp Go.BinOp.add 9 (Go.Operand.tmp 61) (Go.Operand.const (Go.Value.string { data := #[32, 101, 108, 115, 101, 32] })) 9, type := 9, pos := _, after := #[{ on := 12, ground := Go.Ground.data }], guard := none }) (v := ?_) rfl (by kernel_rfl) (by kernel_rfl) (by kernel_rfl) (fun _ _ _ h => h) (Or.inl ⟨by rfl, ?_⟩) (by assumption) ?_
  rotate_left
  · intro w hSw; (try dsimp only at hSw); go_simp <;> first | with_reducible rfl | (rw [if_neg (by first | omega | (simp only [ByteArray.size_append] at *; omega))])
  simp only [Act.put, List.setIfInBounds_toArray, List.set_cons_zero, List.set_cons_succ]
  refine wpAnyH_ready (rs := [18]) (by kernel_rfl) (by simp) ?_
  refine AllReadyH.cons (o := { dst := some 67, op := Go.Op.call { callee := Go.Callee.value (Go.Operand.func 48), args := #[Go.Operand.tmp 66, Go.Operand.const (Go.Value.int Go.IntKind.i64 0)], argTypes := #[26, 3] }, type := 9, pos := _, after := #[{ on := 17, ground := Go.Ground.data }, { on := 11, ground := Go.Ground.chain }], guard := none }) rfl (fun K hK => ?_) AllReadyH.nil
  go_simp
  refine (c3 _ (B3.out)).mono ?_
  rintro e w4 ⟨rfl, hw4⟩
  have B4 := hid (bstep (B3.out) hw4)
  have X4 := cell_kept X3 hw4
  go_wp2_with fail
  refine hK.out _ _ ?_ (fun hHeld3 => ?_)
  · exact hSH _ B4.out X4
  clear hK K
  refine wpAnyH_take (i := 19) (oi := { dst := some 68, op := Go.Op.binOp Go.BinOp.add 9 (Go.Operand.tmp 62) (Go.Operand.tmp 67) 9, type := 9, pos := _, after := #[{ on := 13, ground := Go.Ground.data }, { on := 18, ground := Go.Ground.data }], guard := none }) (v := ?_) rfl (by kernel_rfl) (by kernel_rfl) (by kernel_rfl) (fun _ _ _ h => h) (Or.inl ⟨by rfl, ?_⟩) (by assumption) ?_
  rotate_left
  · intro w hSw; (try dsimp only at hSw); go_simp <;> first | with_reducible rfl | (rw [if_neg (by first | omega | (simp only [ByteArray.size_append] at *; omega))])
  simp only [Act.put, List.setIfInBounds_toArray, List.set_cons_zero, List.set_cons_succ]
  refine wpAnyH_take (i := 20) (oi := { dst := some 2, op := Go.Op.assign (Go.Operand.tmp 68), type := 9, pos := _, after := #[{ on := 19, ground := Go.Ground.data }, { on := 18, ground := Go.Ground.chain }, { on := 0, ground := Go.Ground.phase }, { on := 1, ground := Go.Ground.phase }, { on := 2, ground := Go.Ground.phase }, { on := 3, ground := Go.Ground.phase }, { on := 4, ground := Go.Ground.phase }, { on := 5, ground := Go.Ground.phase }, { on := 6, ground := Go.Ground.phase }, { on := 7, ground := Go.Ground.phase }, { on := 8, ground := Go.Ground.phase }, { on := 9, ground := Go.Ground.phase }, { on := 10, ground := Go.Ground.phase }, { on := 11, ground := Go.Ground.phase }, { on := 12, ground := Go.Ground.phase }, { on := 13, ground := Go.Ground.phase }, { on := 14, ground := Go.Ground.phase }, { on := 15, ground := Go.Ground.phase }, { on := 16, ground := Go.Ground.phase }, { on := 17, ground := Go.Ground.phase }, { on := 18, ground := Go.Ground.phase }, { on := 19, ground := Go.Ground.phase }], guard := none }) (v := ?_) rfl (by kernel_rfl) (by kernel_rfl) (by kernel_rfl) (fun _ _ _ h => h) (Or.inl ⟨by rfl, ?_⟩) (by assumption) ?_
  rotate_left
  · intro w hSw; (try dsimp only at hSw); go_simp <;> first | with_reducible rfl | (rw [if_neg (by first | omega | (simp only [ByteArray.size_append] at *; omega))])
  simp only [Act.put, List.setIfInBounds_toArray, List.set_cons_zero, List.set_cons_succ]
  refine wpAnyH_done (by kernel_rfl) ?_ _
  go_wp2
  go_ret
  exact ⟨rfl, B4.out⟩
set_option maxRecDepth 100000 in
set_option maxHeartbeats 2000000 in
theorem wr_join (x a b : Ex) (w : World) (bb o cap : Nat) (ka kb : Option Addr) (ca cb : Nat) (e1 : ((x.op : Int) == 1) = false) (e2 : ((x.op : Int) == 2) = false) (e3 : ((x.op : Int) == 3) = false) (e4 : ((x.op : Int) == 4) = false) (e5 : ((x.op : Int) == 5) = false) (e19 : ((x.op : Int) == 19) = false) (e17 : ((x.op : Int) == 17) = false) (r : J) (hr : r.text.size ≤ 3) (Y1 Y2 : ByteArray) (hY1 : Y1.size ≤ 13100) (hY2 : Y2.size ≤ 13100)
    (hk : KidAt w bb o a ka ca ∧ KidAt w bb (o + 4) b kb cb)
    (c0 : ∀ W, Below w.heap.size w W → Calls Tryd.prog 49 #[.int .u8 (x.op : Int)] W fun e w' => e = .returned (.tuple #[.agg #[.int .u8 (r.op : Int), .int .u8 (r.kind : Int), .string r.text, .int .i64 (r.rank : Int), .int .i64 (r.first : Int), .int .i64 (r.second : Int)], .bool true]) ∧ Below W.heap.size W w')
    (c1 : ∀ W, Below w.heap.size w W → Calls Tryd.prog 48 #[exV a (.slice ka a.args.length ca), .int .i64 (r.first : Int)] W fun e w' => e = .returned (.string Y1) ∧ Below W.heap.size W w')
    (c2 : ∀ W, Below w.heap.size w W → Calls Tryd.prog 48 #[exV b (.slice kb b.args.length cb), .int .i64 (r.second : Int)] W fun e w' => e = .returned (.string Y2) ∧ Below W.heap.size W w') :
    Calls Tryd.prog 25 #[exV x (.slice (some ⟨bb, o, none⟩) 2 cap)] w fun e w' => e = .returned (.string (Y1 ++ (⟨#[32]⟩ : ByteArray) ++ r.text ++ (⟨#[32]⟩ : ByteArray) ++ Y2)) ∧ Below w.heap.size w w' := by
  have b0 := (Below.refl w.heap.size w).alloc (Nat.le_refl _) (.cells #[.int .u8 (x.op : Int), .int .i64 x.n, .string x.name, .slice (some ⟨bb, o, none⟩) 2 cap] 26)
  have B0 := hid b0
  have X0 : (w.alloc (.cells #[.int .u8 (x.op : Int), .int .i64 x.n, .string x.name, .slice (some ⟨bb, o, none⟩) 2 cap] 26)).cell? ⟨w.heap.size, 3, none⟩ = some (.slice (some ⟨bb, o, none⟩) 2 cap) := box_at w _ 26 3 _ rfl
  have HK := hid hk
  clear hk b0
  go_enter Tryd.func25, Tryd.ntmps25
  go_wp2_with (go_at_call 49; refine (c0 _ B0.out).mono ?_; rintro e w0 ⟨rfl, hb0⟩)
  have B1 := hid (bstep (bstep B0.out hb0) ((Below.refl _ _).alloc (Nat.le_refl _) (.cells #[.int .u8 (r.op : Int), .int .u8 (r.kind : Int), .string r.text, .int .i64 (r.rank : Int), .int .i64 (r.first : Int), .int .i64 (r.second : Int)] 87)))
  have hx0 : (w0.alloc (.cells #[.int .u8 (r.op : Int), .int .u8 (r.kind : Int), .string r.text, .int .i64 (r.rank : Int), .int .i64 (r.first : Int), .int .i64 (r.second : Int)] 87)).cell? ⟨w.heap.size, 3, none⟩ = some (.slice (some ⟨bb, o, none⟩) 2 cap) := cell_kept (cell_kept X0 hb0) ((Below.refl _ _).alloc (Nat.le_refl _) _)
  have X1 : (w0.alloc (.cells #[.int .u8 (r.op : Int), .int .u8 (r.kind : Int), .string r.text, .int .i64 (r.rank : Int), .int .i64 (r.first : Int), .int .i64 (r.second : Int)] 87)).drew.cell? ⟨w.heap.size, 3, none⟩ = some (.slice (some ⟨bb, o, none⟩) 2 cap) ∧ (w0.alloc (.cells #[.int .u8 (r.op : Int), .int .u8 (r.kind : Int), .string r.text, .int .i64 (r.rank : Int), .int .i64 (r.first : Int), .int .i64 (r.second : Int)] 87)).drew.cell? ⟨w0.heap.size, 2, none⟩ = some (.string r.text) ∧ (w0.alloc (.cells #[.int .u8 (r.op : Int), .int .u8 (r.kind : Int), .string r.text, .int .i64 (r.rank : Int), .int .i64 (r.first : Int), .int .i64 (r.second : Int)] 87)).drew.cell? ⟨w0.heap.size, 4, none⟩ = some (.int .i64 (r.first : Int)) ∧ (w0.alloc (.cells #[.int .u8 (r.op : Int), .int .u8 (r.kind : Int), .string r.text, .int .i64 (r.rank : Int), .int .i64 (r.first : Int), .int .i64 (r.second : Int)] 87)).drew.cell? ⟨w0.heap.size, 5, none⟩ = some (.int .i64 (r.second : Int)) := ⟨hx0, box_at w0 _ 87 2 _ rfl, box_at w0 _ 87 4 _ rfl, box_at w0 _ 87 5 _ rfl⟩
  clear hx0 hb0 c0 X0
  have hSH : ∀ W, Below w.heap.size w W → (W.cell? ⟨w.heap.size, 3, none⟩ = some (.slice (some ⟨bb, o, none⟩) 2 cap) ∧ W.cell? ⟨w0.heap.size, 2, none⟩ = some (.string r.text) ∧ W.cell? ⟨w0.heap.size, 4, none⟩ = some (.int .i64 (r.first : Int)) ∧ W.cell? ⟨w0.heap.size, 5, none⟩ = some (.int .i64 (r.second : Int))) → (W.cell? ⟨w.heap.size, 3, none⟩ = some (.slice (some ⟨bb, o, none⟩) 2 cap) ∧ W.cell? ⟨w0.heap.size, 2, none⟩ = some (.string r.text) ∧ W.cell? ⟨w0.heap.size, 4, none⟩ = some (.int .i64 (r.first : Int)) ∧ W.cell? ⟨w0.heap.size, 5, none⟩ = some (.int .i64 (r.second : Int))) ∧ (W.cell? ⟨bb, o, none⟩ = some (.int .u8 (a.op : Int)) ∧ W.cell? ⟨bb, o + 1, none⟩ = some (.int .i64 a.n) ∧ W.cell? ⟨bb, o + 2, none⟩ = some (.string a.name) ∧ W.cell? ⟨bb, o + 3, none⟩ = some (.slice ka a.args.length ca)) ∧ (W.cell? ⟨bb, o + 4, none⟩ = some (.int .u8 (b.op : Int)) ∧ W.cell? ⟨bb, o + 5, none⟩ = some (.int .i64 b.n) ∧ W.cell? ⟨bb, o + 6, none⟩ = some (.string b.name) ∧ W.cell? ⟨bb, o + 7, none⟩ = some (.slice kb b.args.length cb)) := fun W hb h => ⟨h, HK.out.1.keep hb, HK.out.2.keep hb⟩
  refine wp_region_held_drew (S := fun W => (W.cell? ⟨w.heap.size, 3, none⟩ = some (.slice (some ⟨bb, o, none⟩) 2 cap) ∧ W.cell? ⟨w0.heap.size, 2, none⟩ = some (.string r.text) ∧ W.cell? ⟨w0.heap.size, 4, none⟩ = some (.int .i64 (r.first : Int)) ∧ W.cell? ⟨w0.heap.size, 5, none⟩ = some (.int .i64 (r.second : Int))) ∧ (W.cell? ⟨bb, o, none⟩ = some (.int .u8 (a.op : Int)) ∧ W.cell? ⟨bb, o + 1, none⟩ = some (.int .i64 a.n) ∧ W.cell? ⟨bb, o + 2, none⟩ = some (.string a.name) ∧ W.cell? ⟨bb, o + 3, none⟩ = some (.slice ka a.args.length ca)) ∧ (W.cell? ⟨bb, o + 4, none⟩ = some (.int .u8 (b.op : Int)) ∧ W.cell? ⟨bb, o + 5, none⟩ = some (.int .i64 b.n) ∧ W.cell? ⟨bb, o + 6, none⟩ = some (.string b.name) ∧ W.cell? ⟨bb, o + 7, none⟩ = some (.slice kb b.args.length cb))) (by kernel_rfl) ?_ (fun hHeld => ?_)
  · exact hSH _ B1.out.drew X1
  refine wpAnyH_take (i := 0) (oi := { dst := some 75, op := Go.Op.fieldAddr 26 (Go.Operand.tmp 1) 3, type := 0, pos := _, after := #[], guard := none }) (v := ?_) rfl (by kernel_rfl) (by kernel_rfl) (by kernel_rfl) (fun _ _ _ h => h) (Or.inl ⟨by rfl, ?_⟩) (by assumption) ?_
  rotate_left
  · intro w hSw; (try dsimp only at hSw); go_simp <;> first | with_reducible rfl | (rw [if_neg (by first | omega | (simp only [ByteArray.size_append] at *; omega))])
  simp only [Act.put, List.setIfInBounds_toArray, List.set_cons_zero, List.set_cons_succ]
  refine wpAnyH_take (i := 1) (oi := { dst := some 76, op := Go.Op.load 24 (Go.Operand.tmp 75), type := 24, pos := _, after := #[{ on := 0, ground := Go.Ground.data }], guard := none }) (v := ?_) rfl (by kernel_rfl) (by kernel_rfl) (by kernel_rfl) (fun _ _ _ h => h) (Or.inl ⟨by rfl, ?_⟩) (by assumption) ?_
  rotate_left
  · intro w hSw; (try dsimp only at hSw); go_simp <;> first | with_reducible rfl | (rw [if_neg (by first | omega | (simp only [ByteArray.size_append] at *; omega))])
  simp only [Act.put, List.setIfInBounds_toArray, List.set_cons_zero, List.set_cons_succ]
  refine wpAnyH_take (i := 2) (oi := { dst := some 77, op := Go.Op.indexAddr 24 (Go.Operand.tmp 76) (Go.Operand.const (Go.Value.int Go.IntKind.i64 0)), type := 0, pos := _, after := #[{ on := 1, ground := Go.Ground.data }], guard := none }) (v := ?_) rfl (by kernel_rfl) (by kernel_rfl) (by kernel_rfl) (fun _ _ _ h => h) (Or.inl ⟨by rfl, ?_⟩) (by assumption) ?_
  rotate_left
  · intro w hSw; (try dsimp only at hSw); go_simp <;> first | with_reducible rfl | (rw [if_neg (by first | omega | (simp only [ByteArray.size_append] at *; omega))])
  simp only [Act.put, List.setIfInBounds_toArray, List.set_cons_zero, List.set_cons_succ]
  refine wpAnyH_take (i := 3) (oi := { dst := some 78, op := Go.Op.load 26 (Go.Operand.tmp 77), type := 26, pos := _, after := #[{ on := 2, ground := Go.Ground.data }], guard := none }) (v := ?_) rfl (by kernel_rfl) (by kernel_rfl) (by kernel_rfl) (fun _ _ _ h => h) (Or.inl ⟨by rfl, ?_⟩) (by assumption) ?_
  rotate_left
  · intro w hSw; (try dsimp only at hSw); go_simp <;> first | with_reducible rfl | (rw [if_neg (by first | omega | (simp only [ByteArray.size_append] at *; omega))])
  simp only [Act.put, List.setIfInBounds_toArray, List.set_cons_zero, List.set_cons_succ]
  refine wpAnyH_take (i := 4) (oi := { dst := some 79, op := Go.Op.fieldAddr 87 (Go.Operand.tmp 3) 3, type := 0, pos := _, after := #[], guard := none }) (v := ?_) rfl (by kernel_rfl) (by kernel_rfl) (by kernel_rfl) (fun _ _ _ h => h) (Or.inl ⟨by rfl, ?_⟩) (by assumption) ?_
  rotate_left
  · intro w hSw; (try dsimp only at hSw); go_simp <;> first | with_reducible rfl | (rw [if_neg (by first | omega | (simp only [ByteArray.size_append] at *; omega))])
  simp only [Act.put, List.setIfInBounds_toArray, List.set_cons_zero, List.set_cons_succ]
  refine wpAnyH_take (i := 5) (oi := { dst := some 80, op := Go.Op.load 3 (Go.Operand.tmp 79), type := 3, pos := _, after := #[{ on := 4, ground := Go.Ground.data }], guard := none }) (v := ?_) rfl (by kernel_rfl) (by kernel_rfl) (by kernel_rfl) (fun _ _ _ h => h) (Or.inl ⟨by rfl, ?_⟩) (by assumption) ?_
  rotate_left
  · intro w hSw; (try dsimp only at hSw); go_simp <;> first | with_reducible rfl | (rw [if_neg (by first | omega | (simp only [ByteArray.size_append] at *; omega))])
  simp only [Act.put, List.setIfInBounds_toArray, List.set_cons_zero, List.set_cons_succ]
  refine wpAnyH_take (i := 8) (oi := { dst := some 83, op := Go.Op.fieldAddr 87 (Go.Operand.tmp 3) 1, type := 0, pos := _, after := #[], guard := none }) (v := ?_) rfl (by kernel_rfl) (by kernel_rfl) (by kernel_rfl) (fun _ _ _ h => h) (Or.inl ⟨by rfl, ?_⟩) (by assumption) ?_
  rotate_left
  · intro w hSw; (try dsimp only at hSw); go_simp <;> first | with_reducible rfl | (rw [if_neg (by first | omega | (simp only [ByteArray.size_append] at *; omega))])
  simp only [Act.put, List.setIfInBounds_toArray, List.set_cons_zero, List.set_cons_succ]
  refine wpAnyH_take (i := 9) (oi := { dst := some 84, op := Go.Op.fieldAddr 75 (Go.Operand.tmp 83) 1, type := 0, pos := _, after := #[{ on := 8, ground := Go.Ground.data }], guard := none }) (v := ?_) rfl (by kernel_rfl) (by kernel_rfl) (by kernel_rfl) (fun _ _ _ h => h) (Or.inl ⟨by rfl, ?_⟩) (by assumption) ?_
  rotate_left
  · intro w hSw; (try dsimp only at hSw); go_simp <;> first | with_reducible rfl | (rw [if_neg (by first | omega | (simp only [ByteArray.size_append] at *; omega))])
  simp only [Act.put, List.setIfInBounds_toArray, List.set_cons_zero, List.set_cons_succ]
  refine wpAnyH_take (i := 10) (oi := { dst := some 85, op := Go.Op.load 9 (Go.Operand.tmp 84), type := 9, pos := _, after := #[{ on := 9, ground := Go.Ground.data }], guard := none }) (v := ?_) rfl (by kernel_rfl) (by kernel_rfl) (by kernel_rfl) (fun _ _ _ h => h) (Or.inl ⟨by rfl, ?_⟩) (by assumption) ?_
  rotate_left
  · intro w hSw; (try dsimp only at hSw); go_simp <;> first | with_reducible rfl | (rw [if_neg (by first | omega | (simp only [ByteArray.size_append] at *; omega))])
  simp only [Act.put, List.setIfInBounds_toArray, List.set_cons_zero, List.set_cons_succ]
  refine wpAnyH_take (i := 13) (oi := { dst := some 88, op := Go.Op.fieldAddr 26 (Go.Operand.tmp 1) 3, type := 0, pos := _, after := #[], guard := none }) (v := ?_) rfl (by kernel_rfl) (by kernel_rfl) (by kernel_rfl) (fun _ _ _ h => h) (Or.inl ⟨by rfl, ?_⟩) (by assumption) ?_
  rotate_left
  · intro w hSw; (try dsimp only at hSw); go_simp <;> first | with_reducible rfl | (rw [if_neg (by first | omega | (simp only [ByteArray.size_append] at *; omega))])
  simp only [Act.put, List.setIfInBounds_toArray, List.set_cons_zero, List.set_cons_succ]
  refine wpAnyH_take (i := 14) (oi := { dst := some 89, op := Go.Op.load 24 (Go.Operand.tmp 88), type := 24, pos := _, after := #[{ on := 13, ground := Go.Ground.data }], guard := none }) (v := ?_) rfl (by kernel_rfl) (by kernel_rfl) (by kernel_rfl) (fun _ _ _ h => h) (Or.inl ⟨by rfl, ?_⟩) (by assumption) ?_
  rotate_left
  · intro w hSw; (try dsimp only at hSw); go_simp <;> first | with_reducible rfl | (rw [if_neg (by first | omega | (simp only [ByteArray.size_append] at *; omega))])
  simp only [Act.put, List.setIfInBounds_toArray, List.set_cons_zero, List.set_cons_succ]
  refine wpAnyH_take (i := 15) (oi := { dst := some 90, op := Go.Op.indexAddr 24 (Go.Operand.tmp 89) (Go.Operand.const (Go.Value.int Go.IntKind.i64 1)), type := 0, pos := _, after := #[{ on := 14, ground := Go.Ground.data }], guard := none }) (v := ?_) rfl (by kernel_rfl) (by kernel_rfl) (by kernel_rfl) (fun _ _ _ h => h) (Or.inl ⟨by rfl, ?_⟩) (by assumption) ?_
  rotate_left
  · intro w hSw; (try dsimp only at hSw); go_simp <;> first | with_reducible rfl | (rw [if_neg (by first | omega | (simp only [ByteArray.size_append] at *; omega))])
  simp only [Act.put, List.setIfInBounds_toArray, List.set_cons_zero, List.set_cons_succ]
  refine wpAnyH_take (i := 16) (oi := { dst := some 91, op := Go.Op.load 26 (Go.Operand.tmp 90), type := 26, pos := _, after := #[{ on := 15, ground := Go.Ground.data }], guard := none }) (v := ?_) rfl (by kernel_rfl) (by kernel_rfl) (by kernel_rfl) (fun _ _ _ h => h) (Or.inl ⟨by rfl, ?_⟩) (by assumption) ?_
  rotate_left
  · intro w hSw; (try dsimp only at hSw); go_simp <;> first | with_reducible rfl | (rw [if_neg (by first | omega | (simp only [ByteArray.size_append] at *; omega))])
  simp only [Act.put, List.setIfInBounds_toArray, List.set_cons_zero, List.set_cons_succ]
  refine wpAnyH_take (i := 17) (oi := { dst := some 92, op := Go.Op.fieldAddr 87 (Go.Operand.tmp 3) 4, type := 0, pos := _, after := #[], guard := none }) (v := ?_) rfl (by kernel_rfl) (by kernel_rfl) (by kernel_rfl) (fun _ _ _ h => h) (Or.inl ⟨by rfl, ?_⟩) (by assumption) ?_
  rotate_left
  · intro w hSw; (try dsimp only at hSw); go_simp <;> first | with_reducible rfl | (rw [if_neg (by first | omega | (simp only [ByteArray.size_append] at *; omega))])
  simp only [Act.put, List.setIfInBounds_toArray, List.set_cons_zero, List.set_cons_succ]
  refine wpAnyH_take (i := 18) (oi := { dst := some 93, op := Go.Op.load 3 (Go.Operand.tmp 92), type := 3, pos := _, after := #[{ on := 17, ground := Go.Ground.data }], guard := none }) (v := ?_) rfl (by kernel_rfl) (by kernel_rfl) (by kernel_rfl) (fun _ _ _ h => h) (Or.inl ⟨by rfl, ?_⟩) (by assumption) ?_
  rotate_left
  · intro w hSw; (try dsimp only at hSw); go_simp <;> first | with_reducible rfl | (rw [if_neg (by first | omega | (simp only [ByteArray.size_append] at *; omega))])
  simp only [Act.put, List.setIfInBounds_toArray, List.set_cons_zero, List.set_cons_succ]
  refine wpAnyH_ready (rs := [6]) (by kernel_rfl) (by simp) ?_
  refine AllReadyH.cons (o := { dst := some 81, op := Go.Op.call { callee := Go.Callee.value (Go.Operand.func 48), args := #[Go.Operand.tmp 78, Go.Operand.tmp 80], argTypes := #[26, 3] }, type := 9, pos := _, after := #[{ on := 3, ground := Go.Ground.data }, { on := 5, ground := Go.Ground.data }], guard := none }) rfl (fun K hK => ?_) AllReadyH.nil
  go_simp
  refine (c1 _ (B1.out.drew)).mono ?_
  rintro e w2 ⟨rfl, hw2⟩
  have B2 := hid (bstep (B1.out.drew) hw2)
  have X2 : w2.cell? ⟨w.heap.size, 3, none⟩ = some (.slice (some ⟨bb, o, none⟩) 2 cap) ∧ w2.cell? ⟨w0.heap.size, 2, none⟩ = some (.string r.text) ∧ w2.cell? ⟨w0.heap.size, 4, none⟩ = some (.int .i64 (r.first : Int)) ∧ w2.cell? ⟨w0.heap.size, 5, none⟩ = some (.int .i64 (r.second : Int)) := ⟨cell_kept X1.1 hw2, cell_kept X1.2.1 hw2, cell_kept X1.2.2.1 hw2, cell_kept X1.2.2.2 hw2⟩
  go_wp2_with fail
  refine hK.out _ _ ?_ (fun hHeld1 => ?_)
  · exact hSH _ B2.out X2
  clear hK K
  refine wpAnyH_take (i := 7) (oi := { dst := some 82, op := Go.Op.binOp Go.BinOp.add 9 (Go.Operand.tmp 81) (Go.Operand.const (Go.Value.string { data := #[32] })) 9, type := 9, pos := _, after := #[{ on := 6, ground := Go.Ground.data }], guard := none }) (v := ?_) rfl (by kernel_rfl) (by kernel_rfl) (by kernel_rfl) (fun _ _ _ h => h) (Or.inl ⟨by rfl, ?_⟩) (by assumption) ?_
  rotate_left
  · intro w hSw; (try dsimp only at hSw); go_simp <;> first | with_reducible rfl | (rw [if_neg (by first | omega | (simp only [ByteArray.size_append] at *; omega))])
  simp only [Act.put, List.setIfInBounds_toArray, List.set_cons_zero, List.set_cons_succ]
  refine wpAnyH_take (i := 11) (oi := { dst := some 86, op := Go.Op.binOp Go.BinOp.add 9 (Go.Operand.tmp 82) (Go.Operand.tmp 85) 9, type := 9, pos := _, after := #[{ on := 7, ground := Go.Ground.data }, { on := 10, ground := Go.Ground.data }], guard := none }) (v := ?_) rfl (by kernel_rfl) (by kernel_rfl) (by kernel_rfl) (fun _ _ _ h => h) (Or.inl ⟨by rfl, ?_⟩) (by assumption) ?_
  rotate_left
  · intro w hSw; (try dsimp only at hSw); go_simp <;> first | with_reducible rfl | (rw [if_neg (by first | omega | (simp only [ByteArray.size_append] at *; omega))])
  simp only [Act.put, List.setIfInBounds_toArray, List.set_cons_zero, List.set_cons_succ]
  refine wpAnyH_take (i := 12) (oi := { dst := some 87, op := Go.Op.binOp Go.BinOp.add 9 (Go.Operand.tmp 86) (Go.Operand.const (Go.Value.string { data := #[32] })) 9, type := 9, pos := _, after := #[{ on := 11, ground := Go.Ground.data }], guard := none }) (v := ?_) rfl (by kernel_rfl) (by kernel_rfl) (by kernel_rfl) (fun _ _ _ h => h) (Or.inl ⟨by rfl, ?_⟩) (by assumption) ?_
  rotate_left
  · intro w hSw; (try dsimp only at hSw); go_simp <;> first | with_reducible rfl | (rw [if_neg (by first | omega | (simp only [ByteArray.size_append] at *; omega))])
  simp only [Act.put, List.setIfInBounds_toArray, List.set_cons_zero, List.set_cons_succ]
  refine wpAnyH_ready (rs := [19]) (by kernel_rfl) (by simp) ?_
  refine AllReadyH.cons (o := { dst := some 94, op := Go.Op.call { callee := Go.Callee.value (Go.Operand.func 48), args := #[Go.Operand.tmp 91, Go.Operand.tmp 93], argTypes := #[26, 3] }, type := 9, pos := _, after := #[{ on := 16, ground := Go.Ground.data }, { on := 18, ground := Go.Ground.data }, { on := 6, ground := Go.Ground.chain }], guard := none }) rfl (fun K hK => ?_) AllReadyH.nil
  go_simp
  refine (c2 _ (B2.out)).mono ?_
  rintro e w3 ⟨rfl, hw3⟩
  have B3 := hid (bstep (B2.out) hw3)
  have X3 : w3.cell? ⟨w.heap.size, 3, none⟩ = some (.slice (some ⟨bb, o, none⟩) 2 cap) ∧ w3.cell? ⟨w0.heap.size, 2, none⟩ = some (.string r.text) ∧ w3.cell? ⟨w0.heap.size, 4, none⟩ = some (.int .i64 (r.first : Int)) ∧ w3.cell? ⟨w0.heap.size, 5, none⟩ = some (.int .i64 (r.second : Int)) := ⟨cell_kept X2.1 hw3, cell_kept X2.2.1 hw3, cell_kept X2.2.2.1 hw3, cell_kept X2.2.2.2 hw3⟩
  go_wp2_with fail
  refine hK.out _ _ ?_ (fun hHeld2 => ?_)
  · exact hSH _ B3.out X3
  clear hK K
  refine wpAnyH_take (i := 20) (oi := { dst := some 95, op := Go.Op.binOp Go.BinOp.add 9 (Go.Operand.tmp 87) (Go.Operand.tmp 94) 9, type := 9, pos := _, after := #[{ on := 12, ground := Go.Ground.data }, { on := 19, ground := Go.Ground.data }], guard := none }) (v := ?_) rfl (by kernel_rfl) (by kernel_rfl) (by kernel_rfl) (fun _ _ _ h => h) (Or.inl ⟨by rfl, ?_⟩) (by assumption) ?_
  rotate_left
  · intro w hSw; (try dsimp only at hSw); go_simp <;> first | with_reducible rfl | (rw [if_neg (by first | omega | (simp only [ByteArray.size_append] at *; omega))])
  simp only [Act.put, List.setIfInBounds_toArray, List.set_cons_zero, List.set_cons_succ]
  refine wpAnyH_take (i := 21) (oi := { dst := some 2, op := Go.Op.assign (Go.Operand.tmp 95), type := 9, pos := _, after := #[{ on := 20, ground := Go.Ground.data }, { on := 19, ground := Go.Ground.chain }, { on := 0, ground := Go.Ground.phase }, { on := 1, ground := Go.Ground.phase }, { on := 2, ground := Go.Ground.phase }, { on := 3, ground := Go.Ground.phase }, { on := 4, ground := Go.Ground.phase }, { on := 5, ground := Go.Ground.phase }, { on := 6, ground := Go.Ground.phase }, { on := 7, ground := Go.Ground.phase }, { on := 8, ground := Go.Ground.phase }, { on := 9, ground := Go.Ground.phase }, { on := 10, ground := Go.Ground.phase }, { on := 11, ground := Go.Ground.phase }, { on := 12, ground := Go.Ground.phase }, { on := 13, ground := Go.Ground.phase }, { on := 14, ground := Go.Ground.phase }, { on := 15, ground := Go.Ground.phase }, { on := 16, ground := Go.Ground.phase }, { on := 17, ground := Go.Ground.phase }, { on := 18, ground := Go.Ground.phase }, { on := 19, ground := Go.Ground.phase }, { on := 20, ground := Go.Ground.phase }], guard := none }) (v := ?_) rfl (by kernel_rfl) (by kernel_rfl) (by kernel_rfl) (fun _ _ _ h => h) (Or.inl ⟨by rfl, ?_⟩) (by assumption) ?_
  rotate_left
  · intro w hSw; (try dsimp only at hSw); go_simp <;> first | with_reducible rfl | (rw [if_neg (by first | omega | (simp only [ByteArray.size_append] at *; omega))])
  simp only [Act.put, List.setIfInBounds_toArray, List.set_cons_zero, List.set_cons_succ]
  refine wpAnyH_done (by kernel_rfl) ?_ _
  go_wp2
  go_ret
  exact ⟨rfl, B3.out⟩
end Go.Proofs.YtkieljleopbhoabDoor.Lex
namespace Go.Proofs.YtkieljleopbhoabDoor.Lex
open Go.ChangeShapes Go.WideShapes Go.ChangeAt Go.RowKit Go.Joins
theorem bput {d M k : Nat} {a : Ex} {w : World} {s : Value} (hM : M ≤ 200) (h : sz d M a = some k) (hS : St w a s) (r : Nat) : (⟨(put r (rkOf a.op) (wr a)).toArray⟩ : ByteArray).size ≤ 13100 := by
  have h1 := wr_len d M a k w s h hS
  have h2 := (sz_le _ _ _ _ h).2
  have h3 := put_len r (rkOf a.op) (wr a)
  rw [bsize]; omega
theorem opsNe {op : Nat} (k : Nat) (h : ¬ op = k) : ((op : Int) == (k : Int)) = false := neN h
theorem jOf_range {op : Nat} {r : J} (h : jOf op = some r) : (6 ≤ op ∧ op ≤ 16) ∨ op = 18 := by
  have : ∀ r ∈ JT, (6 ≤ r.op ∧ r.op ≤ 16) ∨ r.op = 18 := by decide
  have h1 := this r (List.mem_of_find?_eq_some h)
  have h2 : r.op = op := by have := List.find?_some h; simpa using this
  rw [h2] at h1
  exact h1
/-- written. -/
theorem wr_any : ∀ (d : Nat), WrC d
  | 0 => by intro x w s M k _ h; simp [sz] at h
  | d + 1 => by
    intro x w s M k hM h hS hE
    have ih := wr_any d
    have pl := pl_of d ih
    obtain ⟨hM1, hf, hl⟩ := sz_parts h
    obtain ⟨ao, cap, _, hs0, hop, hn, hnm, _⟩ := hS.out
    rcases fields_cases hf with ⟨h1, h2, h3⟩ | ⟨h1, h2, h3⟩ | ⟨h1, h2, h3⟩ | ⟨h1, h3⟩ | ⟨h1, h3⟩ | ⟨⟨r, hr⟩, h3⟩
    · rw [wr_leaf (len0 h3), if_pos h1, hs0]
      exact wr_int x w ao cap (eqN (b := 1) h1) hn.1 hn.2 hE.pow
    · rw [wr_leaf (len0 h3), if_neg (by omega), if_pos h1, hs0]
      exact wr_bool x w ao cap (neN (b := 1) (by omega)) (eqN (b := 2) h1)
    · rw [wr_leaf (len0 h3), if_neg (by omega), if_neg (by omega), hs0]
      have hl := name_len h2
      exact wr_name x w ao cap (neN (b := 1) (by omega)) (neN (b := 2) (by omega)) (eqN (b := 3) h1) (by omega)
    · obtain ⟨a, e⟩ := len1 h3
      rw [e] at hl
      obtain ⟨ka, ha, hl⟩ := szL_cons hl
      obtain ⟨bb, o, cap, rfl, hk⟩ := hS.kids (by omega)
      obtain ⟨k0, c0, hs1, hk1⟩ := hk 0 (by omega)
      have e0 : x.args[0]'(by omega) = a := by simp [e]
      rw [e0] at hs1 hk1
      have hk1' : KidAt w bb o a k0 c0 := by simpa using hk1
      have hY := bput (by omega) ha hs1 6
      have c := fun W (hb : Below w.heap.size w W) => pl a W _ _ ka 6 (by omega) (by omega) ha (hs1.keep hb) (hE.below hb)
      rw [wr_one e, h3]
      by_cases h4 : x.op = 4
      · rw [if_pos h4]
        exact wr_neg x a w bb o cap k0 c0 (neN (b := 1) (by omega)) (neN (b := 2) (by omega)) (neN (b := 3) (by omega)) (eqN (b := 4) h4) _ hY hk1' c
      · rw [if_neg h4]
        by_cases h5 : x.op = 5
        · rw [if_pos h5, ← bapp]
          exact wr_not x a w bb o cap k0 c0 (neN (b := 1) (by omega)) (neN (b := 2) (by omega)) (neN (b := 3) (by omega)) (neN (b := 4) (by omega)) (eqN (b := 5) h5) _ hY hk1' c
        · rw [if_neg h5, ← bapp]
          exact wr_pre x a w bb o cap k0 c0 (neN (b := 1) (by omega)) (neN (b := 2) (by omega)) (neN (b := 3) (by omega)) (neN (b := 4) (by omega)) (neN (b := 5) (by omega)) (eqN (b := 19) (by omega)) _ hY hk1' c
    · obtain ⟨a, b, c, e⟩ := len3 h3
      rw [e] at hl
      obtain ⟨ka, ha, hl⟩ := szL_cons hl
      obtain ⟨kb, hb, hl⟩ := szL_cons hl
      obtain ⟨kc, hc, hl⟩ := szL_cons hl
      obtain ⟨bb, o, cap, rfl, hk⟩ := hS.kids (by omega)
      obtain ⟨k0, c0, hs1, hk1⟩ := hk 0 (by omega)
      obtain ⟨k1, c1, hs2, hk2⟩ := hk 1 (by omega)
      obtain ⟨k2, c2, hs3, hk3⟩ := hk 2 (by omega)
      have e0 : x.args[0]'(by omega) = a := by simp [e]
      have e1 : x.args[1]'(by omega) = b := by simp [e]
      have e2 : x.args[2]'(by omega) = c := by simp [e]
      rw [e0] at hs1 hk1
      rw [e1] at hs2 hk2
      rw [e2] at hs3 hk3
      have q1 := fun W (hb : Below w.heap.size w W) => pl a W _ _ ka 0 (by omega) (by omega) ha (hs1.keep hb) (hE.below hb)
      have q2 := fun W (hb' : Below w.heap.size w W) => pl b W _ _ kb 0 (by omega) (by omega) hb (hs2.keep hb') (hE.below hb')
      have q3 := fun W (hb : Below w.heap.size w W) => pl c W _ _ kc 0 (by omega) (by omega) hc (hs3.keep hb) (hE.below hb)
      rw [wr_three e, h3, ← bapp, ← bapp, ← bapp, ← bapp, ← bapp]
      exact wr_if x a b c w bb o cap k0 k1 k2 c0 c1 c2 (neN (b := 1) (by omega)) (neN (b := 2) (by omega)) (neN (b := 3) (by omega)) (neN (b := 4) (by omega)) (neN (b := 5) (by omega)) (neN (b := 19) (by omega)) (eqN (b := 17) h1) _ _ _
        (bput (by omega) ha hs1 0) (bput (by omega) hb hs2 0) (bput (by omega) hc hs3 0) ⟨by simpa using hk1, by simpa using hk2, by simpa using hk3⟩ q1 q2 q3
    · obtain ⟨a, b, e⟩ := len2 h3
      rw [e] at hl
      obtain ⟨ka, ha, hl⟩ := szL_cons hl
      obtain ⟨kb, hb, hl⟩ := szL_cons hl
      obtain ⟨bb, o, cap, rfl, hk⟩ := hS.kids (by omega)
      obtain ⟨k0, c0, hs1, hk1⟩ := hk 0 (by omega)
      obtain ⟨k1, c1, hs2, hk2⟩ := hk 1 (by omega)
      have e0 : x.args[0]'(by omega) = a := by simp [e]
      have e1 : x.args[1]'(by omega) = b := by simp [e]
      rw [e0] at hs1 hk1
      rw [e1] at hs2 hk2
      obtain ⟨_, hj1, hj2, hj3⟩ := j_len hr
      have hrng := jOf_range hr
      have q0 : ∀ W, Below w.heap.size w W → Calls Tryd.prog 49 #[.int .u8 (x.op : Int)] W fun e w' => e = .returned (.tuple #[.agg #[.int .u8 (r.op : Int), .int .u8 (r.kind : Int), .string r.text, .int .i64 (r.rank : Int), .int .i64 (r.first : Int), .int .i64 (r.second : Int)], .bool true]) ∧ Below W.heap.size W w' := fun W hb => by
        have := joinOf x.op W (hE.joins.below hb)
        unfold jOut jrow at this
        rw [hr] at this
        exact this
      have q1 := fun W (hb : Below w.heap.size w W) => pl a W _ _ ka r.first (by omega) hj1 ha (hs1.keep hb) (hE.below hb)
      have q2 := fun W (hb' : Below w.heap.size w W) => pl b W _ _ kb r.second (by omega) hj2 hb (hs2.keep hb') (hE.below hb')
      have ht : (⟨r.text.data.toList.toArray⟩ : ByteArray) = r.text := by simp
      rw [wr_two e, h3, hr]
      simp only [Option.getD_some]
      rw [← bapp, ← bapp, ← bapp, ← bapp, ht]
      exact wr_join x a b w bb o cap k0 k1 c0 c1 (neN (b := 1) (by omega)) (neN (b := 2) (by omega)) (neN (b := 3) (by omega)) (neN (b := 4) (by omega)) (neN (b := 5) (by omega)) (neN (b := 19) (by omega)) (neN (b := 17) (by omega)) r hj3 _ _
        (bput (by omega) ha hs1 _) (bput (by omega) hb hs2 _) ⟨by simpa using hk1, by simpa using hk2⟩ q0 q1 q2
/-- What Text answers. -/
def txt (x : Ex) : List UInt8 := if chk x then wr x else []
def txtE (x : Ex) : Int := if chk x then 0 else 1
set_option maxRecDepth 100000 in
/-- Text. -/
theorem text (x : Ex) (w : World) (s : Value) (hS : St w x s) (hE : Env w) : Calls Tryd.prog 14 #[exV x s] w fun e w' => e = .returned (.tuple #[.string ⟨(txt x).toArray⟩, .int .i64 (txtE x)]) ∧ Below w.heap.size w w' := by
  obtain ⟨ao, cap, sl, rfl, _⟩ := hS.out
  have b1 := (Below.refl w.heap.size w).alloc (Nat.le_refl _) (.cells #[.int .u8 (x.op : Int), .int .i64 x.n, .string x.name, .slice ao x.args.length cap] 26)
  have c := check x _ _ (hS.keep b1) (hE.below b1).res (hE.below b1).joins
  have B1 := hid b1
  have bx := fun j v => box_at w #[.int .u8 (x.op : Int), .int .i64 x.n, .string x.name, .slice ao x.args.length cap] 26 j v
  unfold txt txtE
  cases hk : chk x with
  | false =>
    rw [hk] at c
    simp only [Bool.false_eq_true, if_false]
    clear hS hE b1 bx hk
    go_enter Tryd.func14, Tryd.ntmps14
    go_wp2_with (go_at_call 10; refine c.mono ?_; rintro e w2 ⟨rfl, hb2⟩)
    go_ret2
    exact ⟨rfl, bstep B1.out hb2⟩
  | true =>
    rw [hk] at c
    simp only [if_true]
    obtain ⟨k, hz⟩ : ∃ k, sz 32 200 x = some k := by unfold chk at hk; exact Option.isSome_iff_exists.1 hk
    have cw := fun W (hb : Below w.heap.size w W) => wr_any 32 x W _ 200 k (by omega) hz (hS.keep hb) (hE.below hb)
    generalize (⟨(wr x).toArray⟩ : ByteArray) = X at *
    clear hS hE b1 hk hz
    go_enter Tryd.func14, Tryd.ntmps14
    go_wp2_with (first
      | (go_at_call 10; refine c.mono ?_; rintro e w2 ⟨rfl, hb2⟩; have y0 := cell_kept (bx 0 _ rfl) hb2; have y1 := cell_kept (bx 1 _ rfl) hb2; have y2 := cell_kept (bx 2 _ rfl) hb2; have y3 := cell_kept (bx 3 _ rfl) hb2; have B2 := hid (bstep B1.out hb2); clear hb2 bx c)
      | (go_at_call 25; refine (cw _ B2.out).mono ?_; rintro e w3 ⟨rfl, hb3⟩; have B3 := hid (bstep B2.out hb3); clear hb3 cw))
    go_ret2
    exact ⟨rfl, B3.out⟩
end Go.Proofs.YtkieljleopbhoabDoor.Lex
namespace Go.Proofs.YtkieljleopbhoabDoor.Lex
open Go.ChangeShapes Go.WideShapes Go.ChangeAt Go.RowKit Go.Joins
set_option linter.unusedVariables false
theorem below_drewN {B : Nat} {a w : World} (h : Below B a w) (n : Nat) : Below B a (w.drewN n) := h.trans ⟨rfl, rfl, rfl, Nat.le_refl _, fun _ _ => rfl⟩
/-- A size, below 0 if there is none. -/
def szI : Option Nat → Int
  | none => -1
  | some k => (k : Int)
theorem inn {a b : Int} (h : a = b) : (a != b) = false := by simp [h]
theorem inq {a b : Int} (h : ¬ a = b) : (a != b) = true := by simp [h]
theorem drewN_zero (w : World) : w.drewN 0 = w := rfl
end Go.Proofs.YtkieljleopbhoabDoor.Lex
namespace Go.Proofs.YtkieljleopbhoabDoor.Lex
open Go.ChangeShapes Go.WideShapes Go.ChangeAt Go.RowKit Go.Joins
theorem many_ne {op len : Nat} (h : ¬ manyI op = (len : Int)) : (manyI op != (len : Int)) = true := by simp [h]
theorem many_eq {op len : Nat} (h : manyI op = (len : Int)) : (manyI op != (len : Int)) = false := by simp [h]
theorem sz_none {d M : Nat} {x : Ex} (h : M = 0 ∨ fieldsOk x.op x.n x.name x.args.length = false) : sz (d + 1) M x = none := by rw [sz, if_pos h]
end Go.Proofs.YtkieljleopbhoabDoor.Lex
namespace Go.Proofs.YtkieljleopbhoabDoor.Lex
open Go.ChangeShapes Go.WideShapes Go.ChangeAt Go.RowKit Go.Joins
set_option linter.unusedVariables false
end Go.Proofs.YtkieljleopbhoabDoor.Lex
namespace Go.Proofs.YtkieljleopbhoabDoor.Lex
open Go.ChangeShapes Go.WideShapes Go.ChangeAt Go.RowKit Go.Joins
theorem put_ge (a b : Nat) (s : List UInt8) : s.length ≤ (put a b s).length := by unfold put; split <;> simp; omega
theorem dec_pos (u : Nat) : 1 ≤ (Lib.decDigits u).length := by rw [Lib.decDigits]; split <;> simp
/-- What is written is not empty. -/
theorem wr_pos : ∀ (d M : Nat) (x : Ex) (k : Nat), sz d M x = some k → 1 ≤ (wr x).length
  | 0, M, x, k, h => by simp [sz] at h
  | d + 1, M, x, k, h => by
    obtain ⟨hM, hf, hl⟩ := sz_parts h
    rcases fields_cases hf with ⟨h1, h2, h3⟩ | ⟨h1, h2, h3⟩ | ⟨h1, h2, h3⟩ | ⟨h1, h3⟩ | ⟨h1, h3⟩ | ⟨⟨r, hr⟩, h3⟩
    · rw [wr_leaf (len0 h3), if_pos h1]
      unfold Lib.itoa
      rw [if_neg (by omega)]
      exact dec_pos _
    · rw [wr_leaf (len0 h3), if_neg (by omega), if_pos h1]
      cases x.n == 1 <;> decide
    · rw [wr_leaf (len0 h3), if_neg (by omega), if_neg (by omega), ← Lib.size_eq]
      unfold isName at h2
      simp only [Bool.and_eq_true, decide_eq_true_eq] at h2
      exact h2.1
    · obtain ⟨a, e⟩ := len1 h3
      rw [wr_one e]
      split
      · unfold negW; split <;> simp
      · split <;> simp
    · obtain ⟨a, b, c, e⟩ := len3 h3
      rw [wr_three e]
      simp
    · obtain ⟨a, b, e⟩ := len2 h3
      rw [wr_two e]
      simp only [List.length_append, List.length_cons, List.length_nil]
      omega
theorem neg_yes {Y : ByteArray} (h0 : 0 < Y.size) (h : (((Y[0]'h0).toNat : Int) == 45) = true) : (⟨(negW Y.data.toList).toArray⟩ : ByteArray) = (⟨#[45, 32]⟩ : ByteArray) ++ Y := by
  have hg := getD_get Y 0 h0
  have h45 : Y[0]'h0 = 45 := by apply UInt8.toNat_inj.1; simp at h; show _ = 45; omega
  rw [h45] at hg
  have hp : Lib.hasPrefix Y.data.toList [45] = true := by
    cases hl : Y.data.toList with
    | nil => rw [Lib.size_eq, hl] at h0; simp at h0
    | cons c t => rw [hl] at hg; simp at hg; subst hg; rfl
  unfold negW
  rw [if_pos hp]
  apply ByteArray.ext
  rw [ByteArray.data_append]
  simp
theorem neg_no {Y : ByteArray} (h0 : 0 < Y.size) (h : (((Y[0]'h0).toNat : Int) == 45) = false) : (⟨(negW Y.data.toList).toArray⟩ : ByteArray) = (⟨#[45]⟩ : ByteArray) ++ Y := by
  have hg := getD_get Y 0 h0
  have h45 : Y[0]'h0 ≠ 45 := by intro e; rw [e] at h; exact absurd h (by decide)
  have hp : ¬ Lib.hasPrefix Y.data.toList [45] = true := by
    cases hl : Y.data.toList with
    | nil => rw [Lib.size_eq, hl] at h0; simp at h0
    | cons c t =>
      rw [hl] at hg
      simp at hg
      intro hq
      simp [Lib.hasPrefix, List.isPrefixOf] at hq
      exact h45 (hg.symm.trans hq.symm)
  unfold negW
  rw [if_neg hp]
  apply ByteArray.ext
  rw [ByteArray.data_append]
  simp
theorem j_ref {op : Nat} {r : J} (h : jOf op = some r) (h18 : op ≠ 18) : (r.rank = 3 → r.first = 4) ∧ (r.rank ≠ 3 → r.first = r.rank) ∧ r.second = r.rank + 1 ∧ r.rank ≤ 5 := by
  have : ∀ r ∈ JT, r.op ≠ 18 → (r.rank = 3 → r.first = 4) ∧ (r.rank ≠ 3 → r.first = r.rank) ∧ r.second = r.rank + 1 ∧ r.rank ≤ 5 := by decide
  have h2 : r.op = op := by have := List.find?_some h; simpa using this
  exact this r (List.mem_of_find?_eq_some h) (by omega)
theorem j_then : jOf 18 = some ⟨18, 3, ⟨#[45, 62]⟩, 0, 1, 0⟩ := by rfl
end Go.Proofs.YtkieljleopbhoabDoor.Lex
namespace Go.Proofs.YtkieljleopbhoabDoor.Lex
open Go.ChangeShapes Go.WideShapes Go.ChangeAt Go.RowKit Go.Joins
theorem Tw.out {w : World} {lo : Nat} {x : Ex} {s : Value} (h : Tw w lo x s) : ∃ (b cap : Nat) (sl : Nat → Value), s = .slice (some ⟨b, 0, none⟩) x.args.length cap ∧ x.args.length ≤ 2513169434843 ∧ x.args.length < cap ∧
    (∀ i (h : i < x.args.length), w.cell? ⟨b, i * 4, none⟩ = some (.int .u8 (x.args[i].op : Int)) ∧ w.cell? ⟨b, i * 4 + 1, none⟩ = some (.int .i64 x.args[i].n) ∧ w.cell? ⟨b, i * 4 + 2, none⟩ = some (.string x.args[i].name) ∧ w.cell? ⟨b, i * 4 + 3, none⟩ = some (sl i)) ∧
    (w.cell? ⟨b, x.args.length * 4, none⟩ = some (.int .u8 0) ∧ w.cell? ⟨b, x.args.length * 4 + 1, none⟩ = some (.int .i64 0) ∧ w.cell? ⟨b, x.args.length * 4 + 2, none⟩ = some (.string spare) ∧ w.cell? ⟨b, x.args.length * 4 + 3, none⟩ = some (.slice none 0 0)) ∧
    ∀ i (h : i < x.args.length), Tw w lo x.args[i] (sl i) := by
  obtain ⟨b, cap, sl, e, _, _, _, _, hlen, hcap, hc, hsp, hs⟩ := h.full
  exact ⟨b, cap, sl, e, hlen, hcap, hc, hsp, hs⟩
end Go.Proofs.YtkieljleopbhoabDoor.Lex
namespace Go.Proofs.YtkieljleopbhoabDoor.Lex
open Go.ChangeShapes Go.WideShapes Go.ChangeAt Go.RowKit Go.Joins
end Go.Proofs.YtkieljleopbhoabDoor.Lex
namespace Go.Proofs.YtkieljleopbhoabDoor.Lex
open Go.ChangeShapes Go.WideShapes Go.ChangeAt Go.RowKit Go.Joins
theorem cells25 : Tryd.prog.cellsOf 26 = 4 := by kernel_rfl
theorem cells22 : Tryd.prog.cellsOf 23 = 1 := by kernel_rfl
theorem cells2 : Tryd.prog.cellsOf 2 = 1 := by kernel_rfl
theorem cells9 : Tryd.prog.cellsOf 9 = 1 := by kernel_rfl
theorem cells23 : Tryd.prog.cellsOf 24 = 1 := by kernel_rfl
theorem bytes25 : Tryd.prog.bytesOf 26 = 56 := by kernel_rfl
theorem list4 {l : List Value} (h : l.length = 4) : ∃ a b c d, l = [a, b, c, d] := by match l, h with | [a, b, c, d], _ => exact ⟨a, b, c, d, rfl⟩
theorem all_mem {H : Type} {P : Program} {e : TypeId} : ∀ {l : List (DataW H)} {i : Nat} {d : DataW H}, l[i]? = some d → ∀ v ∈ d.weights P e, v ∈ DataW.weightsAll P e l
  | [], i, d, h => by simp at h
  | x :: l, 0, d, h => by simp at h; subst h; intro v hv; rw [DataW.weightsAll]; exact List.mem_append_left _ hv
  | x :: l, i + 1, d, h => by simp at h; intro v hv; rw [DataW.weightsAll]; exact List.mem_append_right _ (all_mem h v hv)
theorem add_off (b o n : Nat) : (⟨b, o, none⟩ : Addr).add n = ⟨b, o + n, none⟩ := by unfold Addr.add; split <;> simp_all
theorem cells4 {w : World} {a : Addr} {l : List Value} (h : w.cells? 0 a 4 = some l) : ∃ v0 v1 v2 v3, l = [v0, v1, v2, v3] ∧ w.cell? (a.add 0) = some v0 ∧ w.cell? (a.add 1) = some v1 ∧ w.cell? (a.add 2) = some v2 ∧ w.cell? (a.add 3) = some v3 := by
  unfold World.cells? at h
  rw [if_pos (Nat.zero_le _)] at h
  have hl : l.length = 4 := by have := Lib.mapM_length h; simpa using this
  obtain ⟨v0, v1, v2, v3, rfl⟩ := list4 hl
  have g : ∀ i, i < 4 → w.cell? (a.add i) = [v0, v1, v2, v3][i]? := fun i hi => by
    obtain ⟨b, hb, hf⟩ := Lib.mapM_at h i i (by simp [hi])
    rw [hf, hb]
  exact ⟨v0, v1, v2, v3, rfl, g 0 (by omega), g 1 (by omega), g 2 (by omega), g 3 (by omega)⟩
/-- What came in, as a tree. -/
theorem viewT {H : Type} {enc : TypeId × Value → H} {W : World} : ∀ (m fuel : Nat) (cs : List Value) (d : DataW H) (p : List MemPlace), fuel ≤ m → DataW.trod enc Tryd.prog W 0 (fun _ => true) true fuel 26 cs = some (d, p) → (∀ v ∈ d.weights Tryd.prog 26, v ≤ reachBytes) →
    ∃ (x : Ex) (s : Value), cs = [.int .u8 (x.op : Int), .int .i64 x.n, .string x.name, s] ∧ St W x s := by
  intro m
  induction m with
  | zero => intro fuel cs d p hm h; obtain rfl : fuel = 0 := by omega
            simp [DataW.trod] at h
  | succ m ih =>
    intro fuel cs d p hm h hw
    obtain ⟨xs, n, hn, hx, hl, hlen, hfs⟩ := DataW.trod_struct Tryd.underlying26 h
    rw [cells25] at hl
    obtain ⟨c0, c1, c2, c3, rfl⟩ := list4 hl
    match xs, hlen with
    | [y0, y1, y2, y3], _ =>
      have h0 : DataW.trod enc Tryd.prog W 0 (fun _ => true) true n 23 [c0] = some y0 := by simpa [cells22] using hfs 0 _ rfl
      have h1 : DataW.trod enc Tryd.prog W 0 (fun _ => true) true n 2 [c1] = some y1 := by simpa [cells2] using hfs 1 _ rfl
      have h2 : DataW.trod enc Tryd.prog W 0 (fun _ => true) true n 9 [c2] = some y2 := by simpa [cells9] using hfs 2 _ rfl
      have h3 : DataW.trod enc Tryd.prog W 0 (fun _ => true) true n 24 [c3] = some y3 := by simpa [cells23] using hfs 3 _ rfl
      obtain ⟨op, e0, _, w0⟩ := DataW.trod_int Tryd.underlying23 h0
      obtain ⟨k, e1, _, w1⟩ := DataW.trod_int Tryd.underlying2 h1
      obtain ⟨nm, e2, hy2, _⟩ := DataW.trod_string Tryd.underlying9 h2
      simp only [List.cons.injEq, and_true] at e0 e1 e2
      subst e0 e1 e2
      simp only [Prod.mk.injEq] at hx
      obtain ⟨rfl, _⟩ := hx
      have hw2 : ∀ v ∈ y2.1.weights Tryd.prog 9, v ≤ reachBytes := fun v hv => hw v (by simp [DataW.weights, Tryd.underlying26, DataW.weightsEach]; right; right; left; exact hv)
      have hw3 : ∀ v ∈ y3.1.weights Tryd.prog 24, v ≤ reachBytes := fun v hv => hw v (by simp [DataW.weights, Tryd.underlying26, DataW.weightsEach]; right; right; right; exact hv)
      have hnm : nm.size ≤ 140737488355328 := by
        have := hw2 nm.data.toList.length (by rw [hy2]; simp [DataW.weights])
        rw [← Lib.size_eq] at this
        unfold reachBytes at this
        omega
      have hop : 0 ≤ op ∧ op < 256 := by
        simp [Lit.wf, IntKind.min, IntKind.max, IntKind.signed, IntKind.bits] at w0
        omega
      have hk : -9223372036854775808 ≤ k ∧ k ≤ 9223372036854775807 := by
        simp [Lit.wf, IntKind.min, IntKind.max, IntKind.signed, IntKind.bits] at w1
        omega
      obtain ⟨u, rfl⟩ : ∃ u : Nat, op = (u : Int) := ⟨op.toNat, by omega⟩
      rcases DataW.trod_slice Tryd.underlying24 h3 with ⟨hc, _⟩ | ⟨a, len, cap, elems, rest, n', hn', hc, hy3, hb, hlc, hcm, hel, helem, hsp, _⟩
      · simp only [List.cons.injEq, and_true] at hc
        subst hc
        exact ⟨.mk u k nm [], .slice none 0 0, rfl, St.intro (.mk u k nm []) none 0 (fun _ => .slice none 0 0) (by show u < 256; omega) hk hnm (by show 0 ≤ _; omega) (Nat.le_refl _) (.inl rfl) (fun i hi => by cases hi)⟩
      · simp only [List.cons.injEq, and_true] at hc
        subst hc
        rw [cells25] at helem
        have hwl : (len + rest.length) * 56 ≤ reachBytes := by
          have := hw3 ((elems.map (·.1)).length + (rest.map (·.1)).length |> (· * 56)) (by rw [hy3]; simp [DataW.weights, Tryd.underlying24, bytes25])
          simpa [hel] using this
        have hlen2 : len ≤ 2513169434843 := by unfold reachBytes at hwl; omega
        have each : ∀ i, ∃ q : Ex × Value, i < len → (∃ v0 v1 v2 v3, W.cell? ((a.add (i * 4)).add 0) = some v0 ∧ W.cell? ((a.add (i * 4)).add 1) = some v1 ∧ W.cell? ((a.add (i * 4)).add 2) = some v2 ∧ W.cell? ((a.add (i * 4)).add 3) = some v3 ∧ [v0, v1, v2, v3] = [.int .u8 (q.1.op : Int), .int .i64 q.1.n, .string q.1.name, q.2]) ∧ St W q.1 q.2 := by
          intro i
          by_cases hi : i < len
          · have he := helem i hi
            rw [List.getElem?_eq_getElem (by omega)] at he
            obtain ⟨l, hl1, hl2⟩ := Option.bind_eq_some_iff.1 he
            obtain ⟨v0, v1, v2, v3, rfl, g0, g1, g2, g3⟩ := cells4 hl1
            obtain ⟨x, s, ex, hs⟩ := ih n' _ _ _ (by omega) (show DataW.trod enc Tryd.prog W 0 (fun _ => true) true n' 26 [v0, v1, v2, v3] = some ((elems[i]'(by omega)).1, (elems[i]'(by omega)).2) from hl2) (fun v hv => hw3 v (by
              rw [hy3]
              simp only [DataW.weights, Tryd.underlying24]
              refine List.mem_cons_of_mem _ (List.mem_append_left _ (all_mem (i := i) (d := (elems[i]'(by omega)).1) ?_ v hv))
              rw [List.getElem?_map, List.getElem?_eq_getElem (by omega)]
              rfl))
            exact ⟨(x, s), fun _ => ⟨⟨v0, v1, v2, v3, g0, g1, g2, g3, ex⟩, hs⟩⟩
          · exact ⟨(.mk 0 0 ByteArray.empty [], .slice none 0 0), fun h => absurd h hi⟩
        obtain ⟨f, hf⟩ := Classical.axiomOfChoice each
        have hargs : ((List.range len).map fun i => (f i).1).length = len := by simp
        have hget : ∀ i (hi : i < ((List.range len).map fun i => (f i).1).length), ((List.range len).map fun i => (f i).1)[i] = (f i).1 := fun i hi => by simp
        refine ⟨.mk u k nm ((List.range len).map fun i => (f i).1), .slice (some a) len cap, rfl, ?_⟩
        have key : St W (.mk u k nm ((List.range len).map fun i => (f i).1)) (.slice (some a) ((List.range len).map fun i => (f i).1).length cap) := by
          refine St.intro (.mk u k nm ((List.range len).map fun i => (f i).1)) (some a) cap (fun i => (f i).2) (by show u < 256; omega) hk hnm (by show ((List.range len).map fun i => (f i).1).length ≤ _; omega) (by show ((List.range len).map fun i => (f i).1).length ≤ _; omega) ?_ (fun i hi => ?_)
          · by_cases h00 : len = 0
            · exact .inl (by show ((List.range len).map fun i => (f i).1).length = 0; omega)
            · right
              obtain ⟨b, o, sp⟩ := a
              have hspt : sp = none := by
                obtain ⟨⟨v0, _, _, _, g0, _⟩, _⟩ := hf 0 (by omega)
                simpa [Addr.add] using World.cell?_spot g0
              subst hspt
              refine ⟨b, o, rfl, fun i hi => ?_⟩
              have hi' : i < len := by have : i < ((List.range len).map fun i => (f i).1).length := hi; omega
              obtain ⟨⟨v0, v1, v2, v3, g0, g1, g2, g3, ex⟩, _⟩ := hf i hi'
              simp only [List.cons.injEq, and_true] at ex
              obtain ⟨rfl, rfl, rfl, rfl⟩ := ex
              rw [add_off, add_off] at g0 g1 g2 g3
              have e : (Ex.mk u k nm ((List.range len).map fun i => (f i).1)).args[i] = (f i).1 := hget i hi
              rw [e]
              exact ⟨g0, g1, g2, g3⟩
          · have hi' : i < len := by have : i < ((List.range len).map fun i => (f i).1).length := hi; omega
            have e : (Ex.mk u k nm ((List.range len).map fun i => (f i).1)).args[i] = (f i).1 := hget i hi
            rw [e]
            exact (hf i hi').2
        rwa [hargs] at key
theorem array4 {c : Array Value} (h : c.size = 4) : ∃ a b d e, c = #[a, b, d, e] := by
  obtain ⟨l⟩ := c
  obtain ⟨a, b, d, e, rfl⟩ := list4 (by simpa using h)
  exact ⟨a, b, d, e, rfl⟩
set_option maxRecDepth 100000 in
/-- An api.Expr that came in, opened once. -/
theorem viewE {H : Type} {enc : TypeId × Value → H} {W : World} {r : Reach} {b0 : Nat} {v : Value} {d : DataW H} {p : List MemPlace} {ts : List TypeId} {ds : List (DataW H)} {j : Nat}
    (hv : Value.okWide Tryd.prog W r b0 26 v) (h : DataW.Trod enc Tryd.prog W 0 (fun _ => true) true 26 v d p)
    (hsz : (DataW.weightsEach Tryd.prog ts ds).all (· ≤ reachBytes) = true) (ht : ts[j]? = some 26) (hj : ds[j]? = some d) : ∃ (x : Ex) (s : Value), v = exV x s ∧ St W x s := by
  obtain ⟨cs, rfl, hz⟩ := okWide_struct Tryd.underlying26 hv
  obtain ⟨c0, c1, c2, c3, rfl⟩ := array4 (by rw [hz]; exact cells25)
  obtain ⟨fuel, hf⟩ := h
  obtain ⟨x, s, e, hs⟩ := viewT fuel fuel _ d p (Nat.le_refl _) hf (fun v hv => by
    have := List.all_eq_true.1 hsz _ (DataW.weights_mem_each ht hj v hv)
    simpa using this)
  have e' : [c0, c1, c2, c3] = [.int .u8 (x.op : Int), .int .i64 x.n, .string x.name, s] := by simpa [Value.cells] using e
  simp only [List.cons.injEq, and_true] at e'
  obtain ⟨rfl, rfl, rfl, rfl⟩ := e'
  exact ⟨x, _, rfl, hs⟩
end Go.Proofs.YtkieljleopbhoabDoor.Lex
namespace Go.Proofs.YtkieljleopbhoabDoor.Lex
open Go.ChangeShapes Go.WideShapes Go.ChangeAt Go.RowKit Go.Joins
theorem ownGo : ownKnob Tryd.prog.godebug = none := by kernel_rfl
theorem laidOut : laidOutB Tryd.prog = true := by kernel_rfl
theorem gRes : Tryd.prog.globalNamed "belfry/tokens.reserved" = some 2 := by kernel_rfl
theorem tRes : (Tryd.prog.globals[2]?).map (·.type) = some 117 := by kernel_rfl
theorem gJoin : Tryd.prog.globalNamed "belfry/exprs.joins" = some 1 := by kernel_rfl
theorem tJoin : (Tryd.prog.globals[1]?).map (·.type) = some 102 := by kernel_rfl
theorem tPow : (Tryd.prog.globals[3]?).map (·.type) = some 121 := by kernel_rfl
theorem cells129 : Tryd.prog.cellsOf 117 = 17 := by kernel_rfl
theorem cells123 : Tryd.prog.cellsOf 121 = 20 := by kernel_rfl
theorem cells110 : Tryd.prog.cellsOf 112 = 1 := by kernel_rfl
theorem cells96 : Tryd.prog.cellsOf 102 = 72 := by kernel_rfl
theorem cells83 : Tryd.prog.cellsOf 87 = 6 := by kernel_rfl
theorem cells81 : Tryd.prog.cellsOf 75 = 2 := by kernel_rfl
theorem cells5 : Tryd.prog.cellsOf 5 = 1 := by kernel_rfl
theorem cells3 : Tryd.prog.cellsOf 3 = 1 := by kernel_rfl
/-- An array of strings that reads as a table holds the table's strings, cell for cell. -/
theorem cells_of_strs {H : Type} {enc : TypeId × Value → H} {P : Program} {w : World} {base : Nat} {sp : Nat → Bool} {held : Bool} {fuel : Nat} {t e : TypeId} {n : Nat} {cs : List Value} {zs : List (List UInt8)} {p : List MemPlace}
    (ht : P.underlying t = some (.array n e)) (he : P.underlying e = some .string) (hce : P.cellsOf e = 1) (hct : P.cellsOf t = n)
    (h : DataW.trod enc P w base sp held fuel t cs = some (.agg (zs.map fun z => .lit (.string z)), p)) : cs = zs.map fun z => Value.string ⟨z.toArray⟩ := by
  cases fuel with
  | zero => simp [DataW.trod] at h
  | succ fuel =>
    simp only [DataW.trod, ht, hce, hct, Nat.mul_one] at h
    split at h
    · rename_i hl
      obtain ⟨xs, hm, hx⟩ := Option.map_eq_some_iff.1 h
      have hxs : xs.map (·.1) = zs.map fun z => (DataW.lit (.string z) : DataW H) := by
        have := congrArg Prod.fst hx
        simpa using this
      have hxl : xs.length = n := by simpa using Lib.mapM_length hm
      have hzl : zs.length = n := by
        have := congrArg List.length hxs
        simp at this
        omega
      apply List.ext_getElem?
      intro i
      by_cases hi : i < n
      · obtain ⟨b, hb, hf⟩ := Lib.mapM_at hm i i (by simp [hi])
        obtain ⟨z, hc, rfl, _⟩ := DataW.trod_string he hf
        have h1 : cs[i]? = some (.string z) := by
          have := congrArg (·[0]?) hc
          simpa [List.getElem?_take, List.getElem?_drop] using this
        have h2 : (xs.map (·.1))[i]? = some (DataW.lit (.string z.data.toList) : DataW H) := by simp [hb]
        rw [hxs] at h2
        simp only [List.getElem?_map, Option.map_eq_some_iff, DataW.lit.injEq, Lit.string.injEq] at h2
        obtain ⟨z', hz', rfl⟩ := h2
        simp [h1, hz']
      · rw [List.getElem?_eq_none (by omega), List.getElem?_eq_none (by simp; omega)]
    · cases h
def resB : List (List UInt8) := [[115, 116, 97, 116, 105, 111, 110, 115], [105, 110], [97, 116], [102, 108, 111, 119], [100, 101, 102, 97, 117, 108, 116], [111, 117, 116], [105, 102], [116, 104, 101, 110], [101, 108, 115, 101], [112, 114, 101], [97, 110, 100], [111, 114], [110, 111, 116], [116, 114, 117, 101], [102, 97, 108, 115, 101], [105, 110, 116], [98, 111, 111, 108]]
/-- A row of the table of operators, as a datum. -/
def jD {H : Type} (r : J) : DataW H := .agg [.lit (.int .u8 (r.op : Int)), .agg [.lit (.int .u8 (r.kind : Int)), .lit (.string r.text.data.toList)], .lit (.int .i64 (r.rank : Int)), .lit (.int .i64 (r.first : Int)), .lit (.int .i64 (r.second : Int))]
theorem list6 {l : List Value} (h : l.length = 6) : ∃ a b c d e f, l = [a, b, c, d, e, f] := by match l, h with | [a, b, c, d, e, f], _ => exact ⟨a, b, c, d, e, f, rfl⟩
theorem lit_int {H : Type} {enc : TypeId × Value → H} {w : World} {base : Nat} {sp : Nat → Bool} {held : Bool} {fuel : Nat} {t : TypeId} {k : IntKind} {c : Value} {z : Int} {q : List MemPlace} (ht : Tryd.prog.underlying t = some (.int k)) (h : DataW.trod enc Tryd.prog w base sp held fuel t [c] = some (.lit (.int k z), q)) : c = .int k z := by
  obtain ⟨n, e, hx, _⟩ := DataW.trod_int ht h
  simp only [Prod.mk.injEq, DataW.lit.injEq, Lit.int.injEq, true_and] at hx
  simp only [List.cons.injEq, and_true] at e
  rw [e, hx.1]
theorem lit_str {H : Type} {enc : TypeId × Value → H} {w : World} {base : Nat} {sp : Nat → Bool} {held : Bool} {fuel : Nat} {c : Value} {z : List UInt8} {q : List MemPlace} (h : DataW.trod enc Tryd.prog w base sp held fuel 9 [c] = some (.lit (.string z), q)) : c = .string ⟨z.toArray⟩ := by
  obtain ⟨s, e, hx, _⟩ := DataW.trod_string Tryd.underlying9 h
  simp only [Prod.mk.injEq, DataW.lit.injEq, Lit.string.injEq] at hx
  simp only [List.cons.injEq, and_true] at e
  rw [e, hx.1]
set_option maxRecDepth 100000 in
/-- The cells of a row. -/
theorem row_cells {H : Type} {enc : TypeId × Value → H} {w : World} {base : Nat} {sp : Nat → Bool} {held : Bool} {fuel : Nat} {cs : List Value} {q : List MemPlace} (r : J) (h : DataW.trod enc Tryd.prog w base sp held fuel 87 cs = some (jD r, q)) : cs = (jrow r).toList := by
  obtain ⟨xs, n, _, hx, hl, hlen, hfs⟩ := DataW.trod_struct Tryd.underlying87 h
  rw [cells83] at hl
  obtain ⟨c0, c1, c2, c3, c4, c5, rfl⟩ := list6 hl
  match xs, hlen with
  | [y0, y1, y2, y3, y4], _ =>
    have h0 : DataW.trod enc Tryd.prog w base sp held n 23 [c0] = some y0 := by simpa [cells22] using hfs 0 _ rfl
    have h1 : DataW.trod enc Tryd.prog w base sp held n 75 [c1, c2] = some y1 := by simpa [cells81] using hfs 1 _ rfl
    have h2 : DataW.trod enc Tryd.prog w base sp held n 3 [c3] = some y2 := by simpa [cells3] using hfs 2 _ rfl
    have h3 : DataW.trod enc Tryd.prog w base sp held n 3 [c4] = some y3 := by simpa [cells3] using hfs 3 _ rfl
    have h4 : DataW.trod enc Tryd.prog w base sp held n 3 [c5] = some y4 := by simpa [cells3] using hfs 4 _ rfl
    simp only [jD, Prod.mk.injEq, List.map_cons, List.map_nil, DataW.agg.injEq, List.cons.injEq, and_true] at hx
    obtain ⟨⟨g0, g1, g2, g3, g4⟩, _⟩ := hx
    obtain ⟨z0, z1, m, hy, _, k0, k1⟩ := trod_struct2 Tryd.underlying75 h1
    have k0' : DataW.trod enc Tryd.prog w base sp held m 5 [c1] = some z0 := by simpa [cells5] using k0
    have k1' : DataW.trod enc Tryd.prog w base sp held m 9 [c2] = some z1 := by simpa [cells9] using k1
    rw [hy] at g1
    simp only [DataW.agg.injEq, List.cons.injEq, and_true] at g1
    have f0 : c0 = .int .u8 (r.op : Int) := lit_int Tryd.underlying23 (by rw [g0]; exact h0)
    have f1 : c1 = .int .u8 (r.kind : Int) := lit_int Tryd.underlying5 (by rw [g1.1]; exact k0')
    have f2 : c2 = .string ⟨r.text.data.toList.toArray⟩ := lit_str (by rw [g1.2]; exact k1')
    have f3 : c3 = .int .i64 (r.rank : Int) := lit_int Tryd.underlying3 (by rw [g2]; exact h2)
    have f4 : c4 = .int .i64 (r.first : Int) := lit_int Tryd.underlying3 (by rw [g3]; exact h3)
    have f5 : c5 = .int .i64 (r.second : Int) := lit_int Tryd.underlying3 (by rw [g4]; exact h4)
    rw [f0, f1, f2, f3, f4, f5]
    simp [jrow]
theorem chunk {α : Type} (m : Nat) : ∀ (n : Nat) (cs : List α), cs.length = n * m → (List.range n).flatMap (fun i => (cs.drop (i * m)).take m) = cs
  | 0, cs, h => by
    have : cs = [] := List.eq_nil_of_length_eq_zero (by omega)
    subst this
    rfl
  | n + 1, cs, h => by
    have hnm : (n + 1) * m = n * m + m := Nat.succ_mul n m
    have ih := chunk m n (cs.take (n * m)) (by rw [List.length_take]; omega)
    rw [List.range_succ, List.flatMap_append]
    have e : (List.range n).flatMap (fun i => (cs.drop (i * m)).take m) = (List.range n).flatMap (fun i => ((cs.take (n * m)).drop (i * m)).take m) := by
      have hh : ∀ (l : List Nat), (∀ i ∈ l, i < n) → l.flatMap (fun i => (cs.drop (i * m)).take m) = l.flatMap (fun i => ((cs.take (n * m)).drop (i * m)).take m) := by
        intro l
        induction l with
        | nil => intro _; rfl
        | cons i l ihl =>
          intro hl
          have hi := hl i (List.mem_cons_self ..)
          have him : i * m + m ≤ n * m := by rw [← Nat.succ_mul]; exact Nat.mul_le_mul_right m hi
          rw [List.flatMap_cons, List.flatMap_cons, ihl fun j hj => hl j (List.mem_cons_of_mem _ hj), List.drop_take, List.take_take, Nat.min_eq_left (by omega)]
      exact hh _ fun i hi => List.mem_range.1 hi
    rw [e, ih]
    simp only [List.flatMap_cons, List.flatMap_nil, List.append_nil]
    have hd : (cs.drop (n * m)).take m = cs.drop (n * m) := List.take_of_length_le (by rw [List.length_drop]; omega)
    rw [hd, List.take_append_drop]
set_option maxRecDepth 100000 in
/-- The table's cells. -/
theorem join_cells {H : Type} {enc : TypeId × Value → H} {w : World} {base : Nat} {sp : Nat → Bool} {held : Bool} {fuel : Nat} {cs : List Value} {q : List MemPlace} (h : DataW.trod enc Tryd.prog w base sp held fuel 102 cs = some (.agg (JT.map jD), q)) : cs = joinV.toList := by
  cases fuel with
  | zero => simp [DataW.trod] at h
  | succ fuel =>
    simp only [DataW.trod, Tryd.underlying102, cells83, cells96] at h
    split at h
    · rename_i hl
      obtain ⟨xs, hm, hx⟩ := Option.map_eq_some_iff.1 h
      have hxs : xs.map (·.1) = JT.map jD := by
        have := congrArg Prod.fst hx
        simpa using this
      have hxl : xs.length = 12 := by simpa using Lib.mapM_length hm
      rw [← chunk 6 12 cs (by omega)]
      have hh : ∀ i, i < 12 → (cs.drop (i * 6)).take 6 = (jrow (jR i)).toList := fun i hi => by
        obtain ⟨b, hb, hf⟩ := Lib.mapM_at hm i i (by simp [hi])
        have h1 : (xs.map (·.1))[i]? = some b.1 := by simp [hb]
        rw [hxs, List.getElem?_map] at h1
        have h2 : JT[i]? = some (jR i) := by
          unfold jR
          have : i < JT.length := hi
          rw [List.getD_eq_getElem?_getD, List.getElem?_eq_getElem this]
          rfl
        rw [h2] at h1
        simp only [Option.map_some, Option.some.injEq] at h1
        exact row_cells (jR i) (q := b.2) (by rw [hf, h1])
      have e : (List.range 12).flatMap (fun i => (cs.drop (i * 6)).take 6) = (List.range 12).flatMap (fun i => (jrow (jR i)).toList) := by
        have hh2 : ∀ (l : List Nat), (∀ i ∈ l, i < 12) → l.flatMap (fun i => (cs.drop (i * 6)).take 6) = l.flatMap (fun i => (jrow (jR i)).toList) := by
          intro l
          induction l with
          | nil => intro _; rfl
          | cons i l ihl => intro hl; rw [List.flatMap_cons, List.flatMap_cons, ihl fun j hj => hl j (List.mem_cons_of_mem _ hj), hh i (hl i (List.mem_cons_self ..))]
        exact hh2 _ fun i hi => List.mem_range.1 hi
      rw [e]
      rfl
    · cases h
/-- What the package-level variables hold when a call begins. -/
def laidL : List (String × DataW Unit) := [("math/bits.deBruijn32tab", Rows.laid_math_bits_deBruijn32tab), ("math/bits.deBruijn64tab", Rows.laid_math_bits_deBruijn64tab), ("internal/strconv.uint64pow10", Rows.laid_internal_strconv_uint64pow10), ("belfry/tokens.reserved", Rows.laid_belfry_tokens_reserved), ("belfry/exprs.joins", Rows.laid_belfry_exprs_joins)]
theorem door_met (os : Os) (args : Array Value) : laidMetH Tryd.prog laidL ((World.doorLaid Tryd.prog 101 os).forCall (fun _ _ => 0) ⟨#[], args, []⟩).memory :=
  laidMetH_of_parts3 (fuel := 8) (laidMet_of_run' 8 (by kernel_rfl) (by kernel_rfl)) (by kernel_rfl) (by kernel_rfl)
theorem var_res {w : World} {x : Array Value} (h : w.var? Tryd.prog "belfry/tokens.reserved" = some x) : ∃ t fz, w.heap[2]? = some (.cells x t fz) := by
  unfold World.var? at h
  rw [gRes] at h
  simp only [Option.bind_some] at h
  split at h
  · next cs t fz he => injection h with h; subst h; exact ⟨_, _, he⟩
  · cases h
theorem var_join {w : World} {x : Array Value} (h : w.var? Tryd.prog "belfry/exprs.joins" = some x) : ∃ t fz, w.heap[1]? = some (.cells x t fz) := by
  unfold World.var? at h
  rw [gJoin] at h
  simp only [Option.bind_some] at h
  split at h
  · next cs t fz he => injection h with h; subst h; exact ⟨_, _, he⟩
  · cases h
theorem res_of {W : World} {rest : List (String × DataW Unit)} (h : laidMet Tryd.prog (("belfry/tokens.reserved", Rows.laid_belfry_tokens_reserved) :: rest) W) : TabR W := by
  obtain ⟨ps, ⟨g0, t0, cs0, f0, p0, q0, hg0, ht0, hv0, hd0, _, _⟩, _⟩ := h
  obtain rfl := Option.some.inj (gRes.symm.trans hg0)
  obtain rfl := Option.some.inj (tRes.symm.trans ht0)
  have hd : DataW.trod _ Tryd.prog W 0 _ _ f0 117 cs0.toList = some (.agg (resB.map fun z => .lit (.string z)), p0) := hd0
  have hcs := cells_of_strs Tryd.underlying117 Tryd.underlying9 cells9 cells129 hd
  obtain ⟨t, fz, hb⟩ := var_res hv0
  refine ⟨t, fz, ?_⟩
  rw [hb]
  obtain ⟨l⟩ := cs0
  simp only at hcs
  subst hcs
  rfl
theorem join_of {W : World} {rest : List (String × DataW Unit)} (h : laidMet Tryd.prog (("belfry/exprs.joins", Rows.laid_belfry_exprs_joins) :: rest) W) : TabJ W := by
  obtain ⟨ps, ⟨g0, t0, cs0, f0, p0, q0, hg0, ht0, hv0, hd0, _, _⟩, _⟩ := h
  obtain rfl := Option.some.inj (gJoin.symm.trans hg0)
  obtain rfl := Option.some.inj (tJoin.symm.trans ht0)
  have hd : DataW.trod _ Tryd.prog W 0 _ _ f0 102 cs0.toList = some (.agg (JT.map jD), p0) := hd0
  have hcs := join_cells hd
  obtain ⟨t, fz, hb⟩ := var_join hv0
  refine ⟨t, fz, ?_⟩
  rw [hb]
  obtain ⟨l⟩ := cs0
  simp only at hcs
  subst hcs
  rfl
theorem wid_of_laid {W : World} (h : laidMetH Tryd.prog laidL W) : Env W := by
  rw [MakeChecks.laidMetH_plain _ _ _ (by kernel_rfl)] at h
  have h3 : laidMet Tryd.prog [("internal/strconv.uint64pow10", Rows.laid_internal_strconv_uint64pow10), ("belfry/tokens.reserved", Rows.laid_belfry_tokens_reserved), ("belfry/exprs.joins", Rows.laid_belfry_exprs_joins)] W := h.tail.tail
  exact ⟨res_of h3.tail, join_of h3.tail.tail, Lib.tabIs_of_head (rest := [("belfry/tokens.reserved", Rows.laid_belfry_tokens_reserved), ("belfry/exprs.joins", Rows.laid_belfry_exprs_joins)]) gPow tPow Tryd.underlying121 Tryd.underlying112 cells110 cells123 h3⟩
end Go.Proofs.YtkieljleopbhoabDoor.Lex
namespace Go.Proofs.YtkieljleopbhoabDoor.Lex
open Go.ChangeShapes Go.WideShapes Go.ChangeAt Go.RowKit Go.Joins
/-- What a token counts by. -/
structure Mark where
  kind : Nat
  text : ByteArray
/-- The mark of the next token; behind the last one there is one of no kind. -/
def markAt (ts : List Mark) (p : Nat) : Mark := ts.getD p ⟨0, ByteArray.empty⟩
abbrev mkV (m : Mark) : Value := .agg #[.int .u8 (m.kind : Int), .string m.text]
/-- Tokens in memory, from any place of a row on. -/
def MarksAt (w : World) (v : Value) (ts : List Mark) : Prop :=
  ∃ a cap, v = .slice a ts.length cap ∧ (ts.length = 0 ∨ ∃ g o, a = some ⟨g, o, none⟩ ∧ ∀ i (h : i < ts.length), w.cell? ⟨g, o + i * 3, none⟩ = some (.int .u8 (ts[i].kind : Int)) ∧ w.cell? ⟨g, o + i * 3 + 1, none⟩ = some (.string ts[i].text) ∧ ∃ at_ : Int, w.cell? ⟨g, o + i * 3 + 2, none⟩ = some (.int .i64 at_))
/-- The reader, at a place. -/
structure Rdr (r mp : Nat) (v : Value) (ts : List Mark) (p : Nat) (W : World) : Prop where
  cell : W.heap[r]? = some (.cells #[v, .int .i64 (p : Int), .map (some mp)] 60 (0, 0))
  toks : MarksAt W v ts
  le : p ≤ ts.length
  few : ts.length ≤ 140737488355328
  far : ∀ a n c, v = .slice (some a) n c → a.block ≠ r
  own : mp ≠ r
theorem heap_drew {w : World} {b : Nat} {o : Obj} (h : w.heap[b]? = some o) (n : Nat) : (w.drewN n).heap[b]? = some o := h
theorem info81 : (Tryd.prog.info? 75).map (·.size) = some 2 := by kernel_rfl
set_option maxRecDepth 100000 in
set_option maxHeartbeats 1000000 in
/-- peek, behind the last token. -/
theorem peek_end (r mp : Nat) (v : Value) (ts : List Mark) (w : World) (h : Rdr r mp v ts ts.length w) : Calls Tryd.prog 59 #[.pointer (some ⟨r, 0, none⟩)] w fun e w' => e = .returned (.agg #[.int .u8 0, .string ⟨#[]⟩]) ∧ Below w.heap.size w w' := by
  obtain ⟨a, cap, rfl, _⟩ := h.toks
  have hR0 := heap_alloc_new w (.cells #[.int .u8 0, .string ⟨#[]⟩] 75)
  have b1 := (Below.refl w.heap.size w).alloc (Nat.le_refl _) (.cells #[.int .u8 0, .string ⟨#[]⟩] 75)
  have hlt := (Array.getElem?_eq_some_iff.1 h.cell).1
  have hc := (b1.block r hlt).trans h.cell
  have x0 : (w.alloc (.cells #[.int .u8 0, .string ⟨#[]⟩] 75)).cell? ⟨r, 0, none⟩ = some (.slice a ts.length cap) := by rw [cell_of_row _ _ _ _ 60 (0, 0) hc]; rfl
  have x1 : (w.alloc (.cells #[.int .u8 0, .string ⟨#[]⟩] 75)).cell? ⟨r, 1, none⟩ = some (.int .i64 (ts.length : Int)) := by rw [cell_of_row _ _ _ _ 60 (0, 0) hc]; rfl
  have he : ((ts.length : Int) == (ts.length : Int)) = true := by simp
  have B1 := hid b1
  clear h hc b1 hlt
  go_enter Tryd.func59, Tryd.ntmps59
  go_wp2
  go_quiet (fail)
  go_wp2_with (refine wpList_store_row rfl 75 _ _ rfl w.heap.size #[.int .u8 0, .string ⟨#[]⟩] rfl rfl 75 _ (heap_drew hR0 _) info81 rfl (by simp [Value.oneCell']) ?_)
  refine bodyPost_ret (results_cell_row rfl _ _ w.heap.size 75 #[.int .u8 0, .string ⟨#[]⟩] (0, 0) _ rfl (setRow_heap _ _ _ _ _ _ (heap_drew hR0 _)) Tryd.underlying75 rfl info81) rfl ⟨rfl, ?_⟩
  exact below_row (below_drewN B1.out _) (below_drewN B1.out _).size (Nat.le_refl _) _
set_option maxRecDepth 100000 in
set_option maxHeartbeats 1000000 in
/-- peek at a token. -/
theorem peek_at (r mp : Nat) (v : Value) (ts : List Mark) (p : Nat) (hp : p < ts.length) (w : World) (h : Rdr r mp v ts p w) : Calls Tryd.prog 59 #[.pointer (some ⟨r, 0, none⟩)] w fun e w' => e = .returned (mkV ts[p]) ∧ Below w.heap.size w w' := by
  obtain ⟨a, cap, rfl, hm⟩ := h.toks
  obtain ⟨g, o, rfl, hg⟩ := hm.resolve_left (by omega)
  obtain ⟨m0, m1, at_, m2⟩ := hg p hp
  have hR0 := heap_alloc_new w (.cells #[.int .u8 0, .string ⟨#[]⟩] 75)
  have b1 := (Below.refl w.heap.size w).alloc (Nat.le_refl _) (.cells #[.int .u8 0, .string ⟨#[]⟩] 75)
  have hlt := (Array.getElem?_eq_some_iff.1 h.cell).1
  have hc := (b1.block r hlt).trans h.cell
  have x0 : (w.alloc (.cells #[.int .u8 0, .string ⟨#[]⟩] 75)).cell? ⟨r, 0, none⟩ = some (.slice (some ⟨g, o, none⟩) ts.length cap) := by rw [cell_of_row _ _ _ _ 60 (0, 0) hc]; rfl
  have x1 : (w.alloc (.cells #[.int .u8 0, .string ⟨#[]⟩] 75)).cell? ⟨r, 1, none⟩ = some (.int .i64 (p : Int)) := by rw [cell_of_row _ _ _ _ 60 (0, 0) hc]; rfl
  have y0 := cell_kept m0 b1
  have y1 := cell_kept m1 b1
  have y2 := cell_kept m2 b1
  have he : ((p : Int) == (ts.length : Int)) = false := by simp; omega
  have hp' : (p : Int) < (ts.length : Int) := by omega
  have hp0 : (0 : Int) ≤ (p : Int) := by omega
  have hfew := h.few
  have B1 := hid b1
  generalize ts[p] = m at *
  clear h hc b1 hlt hg hm m0 m1 m2
  go_enter Tryd.func59, Tryd.ntmps59
  go_wp2
  go_quiet (fail)
  go_wp2
  have zz : ∀ q v, (w.alloc (.cells #[.int .u8 0, .string ⟨#[]⟩] 75)).cell? q = some v → (((w.alloc (.cells #[.int .u8 0, .string ⟨#[]⟩] 75)).drewN (nq + 1)).alloc (.cells #[.int .u8 0, .string ⟨#[]⟩, .int .i64 0] 54)).cell? q = some v := fun q v h => cell_kept (w := (w.alloc (.cells #[.int .u8 0, .string ⟨#[]⟩] 75)).drewN (nq + 1)) h ((Below.refl _ _).alloc (Nat.le_refl _) _)
  have a0 := zz _ _ x0
  have a1 := zz _ _ x1
  have d0 := zz _ _ y0
  have d1 := zz _ _ y1
  have d2 := zz _ _ y2
  clear zz
  have hR1 : (((w.alloc (.cells #[.int .u8 0, .string ⟨#[]⟩] 75)).drewN (nq + 1)).alloc (.cells #[.int .u8 (m.kind : Int), .string m.text, .int .i64 at_] 54)).heap[w.heap.size]? = some (.cells #[.int .u8 0, .string ⟨#[]⟩] 75 (0, 0)) := by
    rw [Below.heap_alloc _ _ _ (by have := (Array.getElem?_eq_some_iff.1 hR0).1; exact this)]; exact hR0
  have B2 := hid (bstep (below_drewN B1.out (nq + 1)) ((Below.refl _ _).alloc (Nat.le_refl _) (.cells #[.int .u8 (m.kind : Int), .string m.text, .int .i64 at_] 54)))
  go_region
  go_wp2_with (refine wpList_store_row rfl 75 _ _ rfl w.heap.size #[.int .u8 (m.kind : Int), .string m.text] rfl rfl 75 _ hR1 info81 rfl (by simp [Value.oneCell']) ?_)
  refine bodyPost_ret (results_cell_row rfl _ _ w.heap.size 75 #[.int .u8 (m.kind : Int), .string m.text] (0, 0) _ rfl (setRow_heap _ _ _ _ _ _ hR1) Tryd.underlying75 rfl info81) rfl ⟨rfl, ?_⟩
  exact below_row B2.out B2.out.size (Nat.le_refl _) _
/-- peek. -/
theorem peek (r mp : Nat) (v : Value) (ts : List Mark) (p : Nat) (w : World) (h : Rdr r mp v ts p w) : Calls Tryd.prog 59 #[.pointer (some ⟨r, 0, none⟩)] w fun e w' => e = .returned (mkV (markAt ts p)) ∧ Below w.heap.size w w' := by
  by_cases hp : p < ts.length
  · have e : markAt ts p = ts[p] := by unfold markAt; rw [List.getD_eq_getElem?_getD, List.getElem?_eq_getElem hp]; rfl
    rw [e]
    exact peek_at r mp v ts p hp w h
  · have hl := h.le
    obtain rfl : p = ts.length := by omega
    have e : markAt ts ts.length = ⟨0, ByteArray.empty⟩ := by unfold markAt; rw [List.getD_eq_getElem?_getD, List.getElem?_eq_none (Nat.le_refl _)]; rfl
    rw [e]
    exact peek_end r mp v ts w h
end Go.Proofs.YtkieljleopbhoabDoor.Lex
namespace Go.Proofs.YtkieljleopbhoabDoor.Lex
open Go.ChangeShapes Go.WideShapes Go.ChangeAt Go.RowKit Go.Joins
/-- Are a row's token and a mark the same? -/
def jIs (r : J) (m : Mark) : Bool := r.kind == m.kind && r.text.toList == m.text.toList
def jAt (m : Mark) : Option J := JT.find? fun r => jIs r m
theorem jAt_some {m : Mark} (k : Nat) (hk : k < 12) (h : ∀ j, j < k → jIs (jR j) m = false) (he : jIs (jR k) m = true) : jAt m = some (jR k) := by
  unfold jAt
  rw [List.find?_eq_some_iff_getElem]
  have hget : ∀ j (hj : j < JT.length), JT[j]'hj = jR j := fun j hj => by unfold jR; rw [List.getD_eq_getElem?_getD, List.getElem?_eq_getElem hj]; rfl
  have hk' : k < JT.length := hk
  refine ⟨he, k, hk', hget k hk', fun j hj => ?_⟩
  have e := hget j (by omega)
  have hn := h j hj
  rw [← e] at hn
  rw [hn]
  rfl
theorem jAt_none {m : Mark} (h : ∀ j, j < 12 → jIs (jR j) m = false) : jAt m = none := by
  unfold jAt
  rw [List.find?_eq_none]
  intro r hr
  obtain ⟨j, hj, e⟩ := List.getElem_of_mem hr
  have := h j hj
  unfold jR at this
  rw [List.getD_eq_getElem?_getD, List.getElem?_eq_getElem hj, e] at this
  simp only [Option.getD_some] at this
  rw [this]
  simp
def jAtOut (m : Mark) : Array Value := jrow ((jAt m).getD j0)
set_option maxRecDepth 100000 in
set_option maxHeartbeats 1000000 in
theorem joinAt (m : Mark) (w : World) (hT : TabJ w) : Calls Tryd.prog 65 #[mkV m] w fun e w' => e = .returned (.tuple #[.agg (jAtOut m), .bool (jAt m).isSome]) ∧ Below w.heap.size w w' := by
  obtain ⟨w0, hw0⟩ : ∃ w0, w0 = w.alloc (.cells #[.int .u8 (m.kind : Int), .string m.text] 75) := ⟨_, rfl⟩
  obtain ⟨w1, hw1⟩ : ∃ w1, w1 = w0.alloc (.cells (jrow j0) 87) := ⟨_, rfl⟩
  have hs0 : w0.heap.size = w.heap.size + 1 := by rw [hw0]; simp
  have hb0 : Below w.heap.size w w0 := by rw [hw0]; exact (Below.refl _ _).alloc (Nat.le_refl _) _
  have hb1' : Below w0.heap.size w0 w1 := by rw [hw1]; exact (Below.refl _ _).alloc (Nat.le_refl _) _
  have hb1 := bstep hb0 hb1'
  have hR1 : w1.heap[w.heap.size + 1]? = some (.cells (jrow j0) 87 (0, 0)) := by rw [hw1, ← hs0]; exact heap_alloc_new w0 _
  have hm1 : w1.heap[w.heap.size]? = some (.cells #[.int .u8 (m.kind : Int), .string m.text] 75 (0, 0)) := by
    rw [hb1'.block _ (by rw [hs0]; omega), hw0]; exact heap_alloc_new w _
  obtain ⟨t, fz, h0⟩ := hT.below hb1
  have HR := hid hR1
  have HM := hid hm1
  have HB := hid hb1
  clear hT hR1 hb1 hb0 hb1' hm1
  go_enter Tryd.func65, Tryd.ntmps65
  go_wp2_with (refine wpList_load_row rfl 102 _ rfl 1 rfl t joinV fz _ (by first | exact h0 | (rw [hw1, hw0] at h0; exact h0)) Tryd.underlying102 rfl (by kernel_rfl) ?_)
  go_loopw [7] (fun i wr => ∃ k : Nat, k ≤ 12 ∧ i = .int .i64 (k : Int) ∧ Hid (∀ j, j < k → jIs (jR j) m = false) ∧ Hid (Below w1.heap.size w1 wr)) (fun i _ => 12 - (intOf i).toNat)
  case atStart => exact ⟨0, by omega, rfl, fun j hj => by omega, by rw [hw1, hw0]; exact Below.refl _ _⟩
  case round =>
    obtain ⟨k, hk, rfl, hall, hB⟩ := hrel
    have hmr := (hB.out.block _ (Array.getElem?_eq_some_iff.1 HM.out).1).trans HM.out
    have q0 : wr.cell? ⟨w.heap.size, 0, none⟩ = some (.int .u8 (m.kind : Int)) := by rw [cell_of_row _ _ _ _ 75 (0, 0) hmr]; rfl
    have q1 : wr.cell? ⟨w.heap.size, 1, none⟩ = some (.string m.text) := by rw [cell_of_row _ _ _ _ 75 (0, 0) hmr]; rfl
    have qq := fun (C : Obj) => cell_kept q0 ((Below.refl wr.heap.size wr).alloc (Nat.le_refl _) C)
    have qr := fun (C : Obj) => cell_kept q1 ((Below.refl wr.heap.size wr).alloc (Nat.le_refl _) C)
    by_cases hlt : k < 12
    · have hlt' : (k : Int) < 12 := by omega
      have hx := fun W => j_index k hlt W
      unfold jrow at hx
      have y0 := qq (.cells (jrow (jR k)) 87)
      have y1 := qr (.cells (jrow (jR k)) 87)
      unfold jrow at y0 y1
      generalize hv : joinV = V at hx ⊢
      clear hv h0 hw1 hw0 qq qr q0 q1 hmr
      cases he : jIs (jR k) m
      · have Hnew : Hid (∀ j, j < k + 1 → jIs (jR j) m = false) := fun j hj => by
          by_cases e : j = k
          · rw [e]; exact he
          · exact hall.out j (by omega)
        have hsplit : (¬ (jR k).kind = m.kind) ∨ ((jR k).kind = m.kind ∧ ((jR k).text.toList == m.text.toList) = false) := by
          unfold jIs at he
          by_cases h : (jR k).kind = m.kind
          · right
            refine ⟨h, ?_⟩
            rw [h] at he
            simpa using he
          · exact .inl h
        clear hall he
        generalize (jR k).kind = K at *
        generalize (jR k).text = T at *
        rcases hsplit with h | ⟨rfl, h⟩
        · have h1 : ((K : Int) == (m.kind : Int)) = false := neN h
          go_wp2
          go_roundw
          case rel => exact ⟨k + 1, by omega, by go_num, Hnew, bstep hB.out ((Below.refl _ _).alloc (Nat.le_refl _) _)⟩
          case measure => simp [intOf]; omega
        · have h1 : ((m.kind : Int) == (m.kind : Int)) = true := by simp
          go_wp2
          go_roundw
          case rel => exact ⟨k + 1, by omega, by go_num, Hnew, bstep hB.out ((Below.refl _ _).alloc (Nat.le_refl _) _)⟩
          case measure => simp [intOf]; omega
      · have Hr : Hid (jAt m = some (jR k)) := jAt_some k hlt hall.out he
        have hboth : (jR k).kind = m.kind ∧ ((jR k).text.toList == m.text.toList) = true := by
          unfold jIs at he
          simpa using he
        have hRr : (wr.alloc (.cells (jrow (jR k)) 87)).heap[w.heap.size + 1]? = some (.cells (jrow j0) 87 (0, 0)) := by
          have hb := bstep hB.out ((Below.refl wr.heap.size wr).alloc (Nat.le_refl _) (.cells (jrow (jR k)) 87))
          exact (hb.block _ (Array.getElem?_eq_some_iff.1 HR.out).1).trans HR.out
        unfold jrow at hRr
        clear hall he
        obtain ⟨e1, e2⟩ := hboth
        have h1 : (((jR k).kind : Int) == (m.kind : Int)) = true := eqN e1
        clear e1
        go_wp2_with (refine wpList_store_row rfl 87 _ _ rfl (w.heap.size + 1) (jrow (jR k)) rfl rfl 87 _ hRr info83 rfl (by simp [Value.oneCell', jrow]) ?_)
        refine bodyPost_ret (results_row_tmp rfl _ _ (w.heap.size + 1) (jrow (jR k)) rfl (run_loadVar_row _ _ 87 87 (jrow (jR k)) (0, 0) _ (setRow_heap _ _ _ _ _ _ hRr) Tryd.underlying87 rfl info83)) rfl ⟨?_, ?_⟩
        · rw [jAtOut, Hr.out]; rfl
        · exact below_row (bstep (bstep HB.out hB.out) ((Below.refl _ _).alloc (Nat.le_refl _) _)) (by have := HB.out.size; have := hB.out.size; simp; omega) (by omega) _
    · have hlt' : ¬ (k : Int) < 12 := by omega
      have Hr : Hid (jAt m = none) := jAt_none fun j hj => hall.out j (by omega)
      have hRr : wr.heap[w.heap.size + 1]? = some (.cells (jrow j0) 87 (0, 0)) := (hB.out.block _ (Array.getElem?_eq_some_iff.1 HR.out).1).trans HR.out
      unfold jrow at hRr
      clear hall h0 hw1 hw0 qq qr q0 q1 hmr
      go_wp2_with (refine wpList_store_row rfl 87 _ _ rfl (w.heap.size + 1) (jrow j0) rfl rfl 87 _ hRr info83 rfl (by simp [Value.oneCell', jrow]) ?_)
      refine bodyPost_ret (results_row_tmp rfl _ _ (w.heap.size + 1) (jrow j0) rfl (run_loadVar_row _ _ 87 87 (jrow j0) (0, 0) _ (setRow_heap _ _ _ _ _ _ hRr) Tryd.underlying87 rfl info83)) rfl ⟨?_, ?_⟩
      · rw [jAtOut, Hr.out]; rfl
      · exact below_row (bstep HB.out hB.out) (by have := HB.out.size; have := hB.out.size; omega) (by omega) _
end Go.Proofs.YtkieljleopbhoabDoor.Lex
namespace Go.Proofs.YtkieljleopbhoabDoor.Lex
open Go.ChangeShapes Go.WideShapes Go.ChangeAt Go.RowKit Go.Joins
theorem MarksAt.carry {w w' : World} {v : Value} {ts : List Mark} (h : MarksAt w v ts) (hb : ∀ a n c, v = .slice (some a) n c → a.block < w.heap.size → w'.heap[a.block]? = w.heap[a.block]?) : MarksAt w' v ts := by
  obtain ⟨a, cap, rfl, hc⟩ := h
  refine ⟨a, cap, rfl, ?_⟩
  rcases hc with h0 | ⟨g, o, rfl, hc⟩
  · exact .inl h0
  · refine .inr ⟨g, o, rfl, fun i hi => ?_⟩
    obtain ⟨m0, m1, at_, m2⟩ := hc i hi
    have hlt : g < w.heap.size := World.block_lt_of_cell? w ⟨g, o + i * 3, none⟩ m0
    have hk : ∀ {q x}, w.cell? ⟨g, q, none⟩ = some x → w'.cell? ⟨g, q, none⟩ = some x := fun {q x} hx => by
      rw [World.cell?_of_block (w := w) (a := ⟨g, q, none⟩) (hb ⟨g, o, none⟩ _ _ rfl hlt)]
      exact hx
    exact ⟨hk m0, hk m1, at_, hk m2⟩
theorem Rdr.step {r mp : Nat} {v : Value} {ts : List Mark} {p : Nat} {w w' : World} (h : Rdr r mp v ts p w) (hb : Below w.heap.size w w') : Rdr r mp v ts p w' :=
  ⟨(hb.block r (Array.getElem?_eq_some_iff.1 h.cell).1).trans h.cell, h.toks.carry fun a _ _ _ hlt => hb.block a.block hlt, h.le, h.few, h.far, h.own⟩
theorem set_same' {w : World} {b : Nat} {c : Array Value} {t : TypeId} {f : Nat × Nat} (h : w.heap[b]? = some (.cells c t f)) (i : Nat) (u : Value) : (w.setCell ⟨b, i, none⟩ u).heap[b]? = some (.cells (c.setIfInBounds i u) t f) := by
  obtain ⟨hlt, hk⟩ := Array.getElem?_eq_some_iff.1 h
  show (w.heap.modify b _)[b]? = _
  rw [Array.getElem?_eq_getElem (by rw [Array.size_modify]; exact hlt), Array.getElem_modify_self, hk]
  rfl
/-- The reader goes to another place. -/
theorem Rdr.move {r mp : Nat} {v : Value} {ts : List Mark} {p : Nat} {w : World} (h : Rdr r mp v ts p w) (q : Nat) (hq : q ≤ ts.length) : Rdr r mp v ts q (w.setCell ⟨r, 1, none⟩ (.int .i64 (q : Int))) :=
  ⟨set_same' h.cell 1 _, h.toks.carry fun a n c e _ => Below.heap_setCell w ⟨r, 1, none⟩ _ a.block (h.far a n c e), hq, h.few, h.far, h.own⟩
end Go.Proofs.YtkieljleopbhoabDoor.Lex
namespace Go.Proofs.YtkieljleopbhoabDoor.Lex
open Go.ChangeShapes Go.WideShapes Go.ChangeAt Go.RowKit Go.Joins
/-- It stands in memory, in blocks that are so, looked at so deep. -/
def StPN (ok : Nat → Prop) (w : World) : Nat → Ex → Value → Prop
  | 0, _, _ => False
  | k + 1, x, s => ∃ (ao : Option Addr) (cap : Nat) (sl : Nat → Value), s = .slice ao x.args.length cap ∧ x.op < 256 ∧ (-9223372036854775808 ≤ x.n ∧ x.n ≤ 9223372036854775807) ∧ x.name.size ≤ 140737488355328 ∧ x.args.length ≤ 2513169434843 ∧ x.args.length ≤ cap ∧
    (x.args.length = 0 ∨ ∃ b o, ao = some ⟨b, o, none⟩ ∧ ok b ∧ ∀ i (h : i < x.args.length), w.cell? ⟨b, o + i * 4, none⟩ = some (.int .u8 (x.args[i].op : Int)) ∧ w.cell? ⟨b, o + i * 4 + 1, none⟩ = some (.int .i64 x.args[i].n) ∧
        w.cell? ⟨b, o + i * 4 + 2, none⟩ = some (.string x.args[i].name) ∧ w.cell? ⟨b, o + i * 4 + 3, none⟩ = some (sl i)) ∧ ∀ i (h : i < x.args.length), StPN ok w k x.args[i] (sl i)
theorem StPN.up {ok : Nat → Prop} {w : World} : ∀ (k' k : Nat) (x : Ex) (s : Value), StPN ok w k x s → SizeOf.sizeOf x ≤ k' → StPN ok w k' x s
  | 0, k, x, s, _, hs => by have := x.pos; omega
  | k' + 1, 0, x, s, h, _ => h.elim
  | k' + 1, k + 1, x, s, h, hs => by
    obtain ⟨ao, cap, sl, h1, h2, h3, h4, h5, h6, h7, h8⟩ := h
    exact ⟨ao, cap, sl, h1, h2, h3, h4, h5, h6, h7, fun i hi => StPN.up k' k _ _ (h8 i hi) (by have := x.part_lt i hi; omega)⟩
/-- It stands in memory, in blocks that are so. -/
def StP (ok : Nat → Prop) (w : World) (x : Ex) (s : Value) : Prop := StPN ok w (SizeOf.sizeOf x) x s
theorem StP.intro {ok : Nat → Prop} {w : World} (x : Ex) (ao : Option Addr) (cap : Nat) (sl : Nat → Value) (hop : x.op < 256) (hn : -9223372036854775808 ≤ x.n ∧ x.n ≤ 9223372036854775807) (hnm : x.name.size ≤ 140737488355328) (hlen : x.args.length ≤ 2513169434843) (hcap : x.args.length ≤ cap)
      (hc : x.args.length = 0 ∨ ∃ b o, ao = some ⟨b, o, none⟩ ∧ ok b ∧ ∀ i (h : i < x.args.length), w.cell? ⟨b, o + i * 4, none⟩ = some (.int .u8 (x.args[i].op : Int)) ∧ w.cell? ⟨b, o + i * 4 + 1, none⟩ = some (.int .i64 x.args[i].n) ∧
        w.cell? ⟨b, o + i * 4 + 2, none⟩ = some (.string x.args[i].name) ∧ w.cell? ⟨b, o + i * 4 + 3, none⟩ = some (sl i))
      (hs : ∀ i (h : i < x.args.length), StP ok w x.args[i] (sl i)) : StP ok w x (.slice ao x.args.length cap) := by
  unfold StP
  obtain ⟨m, hm⟩ : ∃ m, SizeOf.sizeOf x = m + 1 := ⟨SizeOf.sizeOf x - 1, by have := x.pos; omega⟩
  rw [hm]
  exact ⟨ao, cap, sl, rfl, hop, hn, hnm, hlen, hcap, hc, fun i hi => StPN.up m _ _ _ (hs i hi) (by have := x.part_lt i hi; omega)⟩
theorem StP.out {ok : Nat → Prop} {w : World} {x : Ex} {s : Value} (h : StP ok w x s) : ∃ (ao : Option Addr) (cap : Nat) (sl : Nat → Value), s = .slice ao x.args.length cap ∧ x.op < 256 ∧ (-9223372036854775808 ≤ x.n ∧ x.n ≤ 9223372036854775807) ∧ x.name.size ≤ 140737488355328 ∧ x.args.length ≤ 2513169434843 ∧ x.args.length ≤ cap ∧
    (x.args.length = 0 ∨ ∃ b o, ao = some ⟨b, o, none⟩ ∧ ok b ∧ ∀ i (h : i < x.args.length), w.cell? ⟨b, o + i * 4, none⟩ = some (.int .u8 (x.args[i].op : Int)) ∧ w.cell? ⟨b, o + i * 4 + 1, none⟩ = some (.int .i64 x.args[i].n) ∧
        w.cell? ⟨b, o + i * 4 + 2, none⟩ = some (.string x.args[i].name) ∧ w.cell? ⟨b, o + i * 4 + 3, none⟩ = some (sl i)) ∧ ∀ i (h : i < x.args.length), StP ok w x.args[i] (sl i) := by
  unfold StP at h
  obtain ⟨m, hm⟩ : ∃ m, SizeOf.sizeOf x = m + 1 := ⟨SizeOf.sizeOf x - 1, by have := x.pos; omega⟩
  rw [hm] at h
  obtain ⟨ao, cap, sl, h1, h2, h3, h4, h5, h6, h7, h8⟩ := h
  exact ⟨ao, cap, sl, h1, h2, h3, h4, h5, h6, h7, fun i hi => StPN.up _ m _ _ (h8 i hi) (Nat.le_refl _)⟩
theorem StP.carryN {ok ok' : Nat → Prop} {w w' : World} (hb : ∀ b, ok b → b < w.heap.size → w'.heap[b]? = w.heap[b]?) (ho : ∀ b, b < w.heap.size → ok b → ok' b) : ∀ (m : Nat) (x : Ex) (s : Value), SizeOf.sizeOf x ≤ m → StP ok w x s → StP ok' w' x s
  | 0, x, s, hm, _ => by have := x.pos; omega
  | m + 1, x, s, hm, h => by
    obtain ⟨ao, cap, sl, rfl, hop, hn, hnm, hlen, hcap, hc, hs⟩ := h.out
    refine StP.intro x ao cap sl hop hn hnm hlen hcap ?_ (fun i hi => StP.carryN hb ho m _ _ (by have := x.part_lt i hi; omega) (hs i hi))
    by_cases h00 : x.args.length = 0
    · exact .inl h00
    · obtain ⟨b, o, ha, hok, hc⟩ := hc.resolve_left h00
      have hlt : b < w.heap.size := World.block_lt_of_cell? w ⟨b, o + 0 * 4, none⟩ (hc 0 (by omega)).1
      have hk : ∀ {q v}, w.cell? ⟨b, q, none⟩ = some v → w'.cell? ⟨b, q, none⟩ = some v := fun {q v} h => by
        rw [World.cell?_of_block (w := w) (a := ⟨b, q, none⟩) (hb b hok hlt)]
        exact h
      refine .inr ⟨b, o, ha, ho b hlt hok, fun i hi => ?_⟩
      obtain ⟨h0, h1, h2, h3⟩ := hc i hi
      exact ⟨hk h0, hk h1, hk h2, hk h3⟩
theorem StP.carry {ok : Nat → Prop} {w w' : World} {x : Ex} {s : Value} (h : StP ok w x s) (hb : ∀ b, ok b → b < w.heap.size → w'.heap[b]? = w.heap[b]?) : StP ok w' x s := StP.carryN hb (fun _ _ h => h) _ x s (Nat.le_refl _) h
theorem StP.stN {ok : Nat → Prop} {w : World} : ∀ (m : Nat) (x : Ex) (s : Value), SizeOf.sizeOf x ≤ m → StP ok w x s → St w x s
  | 0, x, s, hm, _ => by have := x.pos; omega
  | m + 1, x, s, hm, h => by
    obtain ⟨ao, cap, sl, rfl, hop, hn, hnm, hlen, hcap, hc, hs⟩ := h.out
    refine St.intro x ao cap sl hop hn hnm hlen hcap ?_ (fun i hi => StP.stN m _ _ (by have := x.part_lt i hi; omega) (hs i hi))
    rcases hc with h0 | ⟨b, o, ha, _, hc⟩
    · exact .inl h0
    · exact .inr ⟨b, o, ha, hc⟩
theorem StP.st {ok : Nat → Prop} {w : World} {x : Ex} {s : Value} (h : StP ok w x s) : St w x s := StP.stN _ x s (Nat.le_refl _) h
/-- What has no parts stands anywhere. -/
theorem StP.leaf {ok : Nat → Prop} {w : World} (op : Nat) (n : Int) (nm : ByteArray) (hop : op < 256) (hn : -9223372036854775808 ≤ n ∧ n ≤ 9223372036854775807) (hnm : nm.size ≤ 140737488355328) : StP ok w ⟨op, n, nm, []⟩ (.slice none 0 0) :=
  StP.intro ⟨op, n, nm, []⟩ none 0 (fun _ => .slice none 0 0) hop hn hnm (Nat.zero_le _) (Nat.le_refl _) (.inl rfl) (fun i hi => by cases hi)
end Go.Proofs.YtkieljleopbhoabDoor.Lex
namespace Go.Proofs.YtkieljleopbhoabDoor.Lex
open Go.ChangeShapes Go.WideShapes Go.ChangeAt Go.RowKit Go.Joins
/-- What reading answers: it, and the place behind it; or an error, and its place. -/
abbrev Res := Except (Nat × Nat) (Ex × Nat)
/-- A panic with an error of the language. -/
abbrev panicE (e : Nat) : Ending := .panicked [{ v := .iface 30 (.int .i64 (e : Int)), recovered := false }]
/-- A step of the reader: nothing but its own place is written; what is read lies elsewhere. -/
def Post (r mp : Nat) (v : Value) (ts : List Mark) (w : World) (res : Res) (e : Ending) (w' : World) : Prop :=
  w.grownBy w' (some r) ∧ match res with
    | .ok (x, q) => ∃ s, e = .returned (exV x s) ∧ StP (fun b => w.heap.size ≤ b) w' x s ∧ Rdr r mp v ts q w'
    | .error (n, q) => e = panicE n ∧ Rdr r mp v ts q w'
theorem Rdr.at1 {r mp : Nat} {v : Value} {ts : List Mark} {p : Nat} {w : World} (h : Rdr r mp v ts p w) : w.cell? ⟨r, 1, none⟩ = some (.int .i64 (p : Int)) ∧ w.frozen? ⟨r, 1, none⟩ = false :=
  ⟨by rw [cell_of_row _ _ _ _ 60 (0, 0) h.cell]; rfl, frozen_of_row _ _ _ _ _ h.cell⟩
theorem Rdr.lt {r mp : Nat} {v : Value} {ts : List Mark} {p : Nat} {w : World} (h : Rdr r mp v ts p w) : r < w.heap.size := (Array.getElem?_eq_some_iff.1 h.cell).1
/-- Behind a box, a step of the place, and a value in the box. -/
theorem stepped {r mp : Nat} {v : Value} {ts : List Mark} {p : Nat} {w : World} (h : Rdr r mp v ts p w) (hp : p < ts.length) (c d : Array Value) (t : TypeId) :
    ∃ W1, (w.alloc (.cells c t)).setCell ⟨r, 1, none⟩ (.int .i64 ((p : Int) + 1)) = W1 ∧ W1.heap[w.heap.size]? = some (.cells c t (0, 0)) ∧ (w.alloc (.cells c t)).cell? ⟨r, 1, none⟩ = some (.int .i64 (p : Int)) ∧ (w.alloc (.cells c t)).frozen? ⟨r, 1, none⟩ = false ∧
      w.grownBy (W1.setRow w.heap.size d) (some r) ∧ Rdr r mp v ts (p + 1) (W1.setRow w.heap.size d) := by
  have hb := (Below.refl w.heap.size w).alloc (Nat.le_refl _) (.cells c t)
  have h1 := h.step hb
  have h2 := h1.move (p + 1) (by omega)
  have hlt := h.lt
  have hne : w.heap.size ≠ r := by omega
  refine ⟨_, rfl, ?_, h1.at1.1, h1.at1.2, ?_, ?_⟩
  · rw [Below.heap_setCell _ _ _ _ hne]; exact heap_alloc_new w _
  · refine ⟨rfl, rfl, rfl, by simp [World.setRow, World.setCell], fun k hk hkr => ?_⟩
    have hkr' : k ≠ r := fun e => hkr (by rw [e])
    rw [setRow_other _ _ _ _ (by omega), Below.heap_setCell _ _ _ _ hkr', Below.heap_alloc _ _ _ hk]
  · have e : ((p : Int) + 1) = ((p + 1 : Nat) : Int) := by omega
    rw [e]
    have hfar : ∀ k, k ≠ w.heap.size → (((w.alloc (.cells c t)).setCell ⟨r, 1, none⟩ (.int .i64 ((p + 1 : Nat) : Int))).setRow w.heap.size d).heap[k]? = ((w.alloc (.cells c t)).setCell ⟨r, 1, none⟩ (.int .i64 ((p + 1 : Nat) : Int))).heap[k]? := fun k hk => setRow_other _ _ _ _ hk
    refine ⟨(hfar r (by omega)).trans h2.cell, ?_, h2.le, h2.few, h2.far, h2.own⟩
    obtain ⟨a, cap, rfl, hc⟩ := h.toks
    refine h2.toks.carry fun a' n c' ev hl => hfar a'.block ?_
    intro he
    injection ev with e1 e2 e3
    rcases hc with h0 | ⟨g, o, hg, hcc⟩
    · have := h.le; omega
    · rw [hg] at e1
      injection e1 with e1
      have hlt2 : g < w.heap.size := World.block_lt_of_cell? w ⟨g, o + 0 * 3, none⟩ (hcc 0 (by omega)).1
      rw [← e1] at he
      simp only at he
      omega
set_option maxRecDepth 100000 in
set_option maxHeartbeats 1000000 in
theorem yes_at (r mp : Nat) (v : Value) (ts : List Mark) (p : Nat) (w : World) (h : Rdr r mp v ts p w) (hp : p < ts.length) : Calls Tryd.prog 33 #[.pointer (some ⟨r, 0, none⟩)] w (Post r mp v ts w (.ok (⟨2, 1, ByteArray.empty, []⟩, p + 1))) := by
  obtain ⟨W1, hW1, hbx, y0, y1, hg, hr⟩ := stepped h hp #[.int .u8 0, .int .i64 0, .string ⟨#[]⟩, .slice none 0 0] #[.int .u8 2, .int .i64 1, .string ⟨#[]⟩, .slice none 0 0] 26
  have hfew : (p : Int) < 140737488355328 := by have := h.few; omega
  have HG := hid hg
  have HR := hid hr
  clear h hp hg hr
  go_enter Tryd.func33, Tryd.ntmps33
  go_wp2_with (refine wpList_store_row rfl 26 _ _ rfl w.heap.size #[.int .u8 2, .int .i64 1, .string ⟨#[]⟩, .slice none 0 0] rfl rfl 26 _ hbx info25 rfl (by simp [Value.oneCell']) ?_)
  refine bodyPost_ret (results_cell_row rfl _ _ w.heap.size 26 #[.int .u8 2, .int .i64 1, .string ⟨#[]⟩, .slice none 0 0] (0, 0) _ rfl (setRow_heap _ _ _ _ _ _ hbx) Tryd.underlying26 rfl info25) rfl ⟨HG.out, _, rfl, ?_, HR.out⟩
  exact StP.leaf 2 1 _ (by omega) (by omega) (by decide)
end Go.Proofs.YtkieljleopbhoabDoor.Lex
