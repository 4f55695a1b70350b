/-
  Some answers that the document fixes, and what alive asks.
-/
import Derived.Test.YtafelijlolidhabDoorSame
namespace Go.Proofs.YtafelijlolidhabDoor.Lex
open Go.RowKit
theorem al_toks1 : toks 0 [97, 49, 60, 61, 45, 50, 32, 45, 45, 120] = .ok [⟨1, [97, 49], 0⟩, ⟨3, [60, 61], 2⟩, ⟨3, [45], 4⟩, ⟨2, [50], 5⟩] := by
  rw [toks_some (k := 1) (n := 2) (by simp) (by decide), toks_some (k := 3) (n := 2) (by simp) (by decide), toks_some (k := 3) (n := 1) (by simp) (by decide), toks_some (k := 2) (n := 1) (by simp) (by decide),
    toks_some (k := 0) (n := 1) (by simp) (by decide), toks_some (k := 0) (n := 3) (by simp) (by decide)]
  simp [toks_nil, ahead]
theorem al_toks2 : toks 0 [97, 32, 33, 32, 98] = .error 2 := by
  rw [toks_some (k := 1) (n := 1) (by simp) (by decide), toks_some (k := 0) (n := 1) (by simp) (by decide), toks_none (by simp) (by decide)]
  rfl
theorem al_num1 : numN ⟨#[57, 50, 50, 51, 51, 55, 50, 48, 51, 54, 56, 53, 52, 55, 55, 53, 56, 48, 55]⟩ = 9223372036854775807 ∧ numE ⟨#[57, 50, 50, 51, 51, 55, 50, 48, 51, 54, 56, 53, 52, 55, 55, 53, 56, 48, 55]⟩ = 0 := by
  constructor <;> decide +kernel
theorem al_num2 : numN ⟨#[57, 50, 50, 51, 51, 55, 50, 48, 51, 54, 56, 53, 52, 55, 55, 53, 56, 48, 56]⟩ = 0 ∧ numE ⟨#[57, 50, 50, 51, 51, 55, 50, 48, 51, 54, 56, 53, 52, 55, 55, 53, 56, 48, 56]⟩ = 3 := by
  constructor <;> decide +kernel
theorem al_num3 : numN ⟨#[48, 48]⟩ = 0 ∧ numE ⟨#[48, 48]⟩ = 5 := by
  constructor <;> decide +kernel
theorem isRes_eq (s : ByteArray) : isRes s = resL.any fun x => x.data.toList == s.data.toList := by
  unfold isRes
  simp only [ByteArray.toList_eq]
theorem al_name1 : isName ⟨#[97, 95, 49]⟩ = true := by unfold isName; rw [isRes_eq]; decide +kernel
theorem al_name2 : isName ⟨#[95, 97]⟩ = false := by unfold isName; rw [isRes_eq]; decide +kernel
theorem al_name3 : isName ⟨#[112, 114, 101]⟩ = false := by unfold isName; rw [isRes_eq]; decide +kernel
theorem below_drewN {B : Nat} {a w : World} (h : Below B a w) (n : Nat) : Below B a (w.drewN n) := h.trans ⟨rfl, rfl, rfl, Nat.le_refl _, fun _ _ => rfl⟩
/-- SameTokens, where they are the same. -/
theorem same' (u v : Value) (ts : List Tok) (w : World) (hu : TokAt w u ts) (hv : TokAt w v ts) (hl : ts.length ≤ 1048576) :
    Calls Tryd.prog 8 #[u, v] w fun e w' => e = .returned (.bool true) ∧ Below w.heap.size w w' :=
  (same u v ts w hu hv hl).mono fun e w' ⟨h1, n, h2⟩ => ⟨h1, by rw [h2]; exact below_drewN (Below.refl _ _) n⟩
/-- A world that a law has come to. -/
structure At (w W : World) : Prop where
  below : Below w.heap.size w W
  laid : Laid W
  tab : TabS W
theorem At.step {w W W' : World} (h : At w W) (hb : Below W.heap.size W W') : At w W' := ⟨bstep h.below hb, h.laid.below hb, h.tab.below hb⟩
/-- Read of a text that has tokens; of one that has none. -/
theorem read_ok (s : ByteArray) (ts : List Tok) (h : toks 0 s.data.toList = .ok ts) (w : World) (hT : TabS w) (hs : s.size ≤ 65536) :
    Calls Tryd.prog 7 #[.string s] w fun e w' => ∃ v, e = .returned (.tuple #[v, .int .i64 0, .int .i64 0]) ∧ w'.ownsRow w.heap.size 30 3 v ts.length (toksV ts) ∧ Below w.heap.size w w' :=
  (read s w hT hs).mono fun e w' ⟨hb, hc⟩ => by
    rcases hc with ⟨a, h1, _⟩ | ⟨us, v, h1, h2, h3⟩
    · rw [h] at h1; cases h1
    · rw [h] at h1; injection h1 with h1; subst h1; exact ⟨v, h2, h3, hb⟩
theorem read_bad (s : ByteArray) (a : Nat) (h : toks 0 s.data.toList = .error a) (w : World) (hT : TabS w) (hs : s.size ≤ 65536) :
    Calls Tryd.prog 7 #[.string s] w fun e w' => e = .returned (.tuple #[.slice none 0 0, .int .i64 (a : Int), .int .i64 5]) ∧ Below w.heap.size w w' :=
  (read s w hT hs).mono fun e w' ⟨hb, hc⟩ => by
    rcases hc with ⟨b, h1, h2⟩ | ⟨us, v, h1, _⟩
    · rw [h] at h1; injection h1 with h1; subst h1; exact ⟨h2, hb⟩
    · rw [h] at h1; cases h1
theorem num_of (s : ByteArray) (n e : Int) (h : numN s = n ∧ numE s = e) (w : World) (hL : Laid w) (hs : s.size ≤ 1048576) :
    Calls Tryd.prog 9 #[.string s] w fun x w' => x = .returned (.tuple #[.int .i64 n, .int .i64 e]) ∧ Below w.heap.size w w' := by
  obtain ⟨p, hp⟩ := hL.range
  rw [← h.1, ← h.2]
  exact number s w hs 66 p hp
theorem name_of (s : ByteArray) (b : Bool) (h : isName s = b) (w : World) (hL : Laid w) : Calls Tryd.prog 6 #[.string s] w fun x w' => x = .returned (.bool b) ∧ Below w.heap.size w w' := by
  rw [← h]
  exact name s w hL.res
def wantL : List Tok := [⟨1, [97, 49], 0⟩, ⟨3, [60, 61], 2⟩, ⟨3, [45], 4⟩, ⟨2, [50], 5⟩]
def wantV : Array Value := #[.int .u8 1, .string ⟨#[97, 49]⟩, .int .i64 0, .int .u8 3, .string ⟨#[60, 61]⟩, .int .i64 2, .int .u8 3, .string ⟨#[45]⟩, .int .i64 4, .int .u8 2, .string ⟨#[50]⟩, .int .i64 5]
theorem want_at (w : World) : TokAt (w.alloc (.cells wantV 30)) (.slice (some ⟨w.heap.size, 0, none⟩) 4 4) wantL :=
  TokAt.of_own (B := w.heap.size) (World.ownsRow_lit (e := 30) (size := 3) w wantV 4 (Nat.le_refl _) (by decide) rfl)
end Go.Proofs.YtafelijlolidhabDoor.Lex
