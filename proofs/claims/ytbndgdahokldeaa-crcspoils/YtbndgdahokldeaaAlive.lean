/-
  Contract of the Go text alive: the answers that the document fixes are the answers of the code.
-/
import Derived.Test.YtbndgdahokldeaaCopy
import Derived.Lib.SlBytesConst
namespace Go.Proofs.Ytbndgdahokldeaa.Crc
open Go.ChangeShapes Go.WideShapes Go.ChangeAt Go.RowKit
theorem sum9 : ((more 0#32 [49, 50, 51, 52, 53, 54, 55, 56, 57]).toNat : Int) = 3421780262 := by decide +kernel
theorem sum0 : ((more 0#32 []).toNat : Int) = 0 := by decide +kernel
theorem sum1 : ((more 0#32 [0]).toNat : Int) = 3523407757 := by decide +kernel
theorem sum5 : ((more 5#32 []).toNat : Int) = 5 := by decide +kernel
/-- A list that was just laid in a new block. -/
theorem new_elems (w : World) (cs : Array Value) (l : List Int) (n : Nat) (hn : l.length = n) (hm : n ≤ 1048576) (hb : ∀ i, i < n → 0 ≤ l.getD i 0 ∧ l.getD i 0 < 256) (hc : ∀ i, i < n → cs[i]? = some (.int .u8 (l.getD i 0))) (fr : Nat × Nat) :
    Elems (w.alloc (.cells cs 5 fr)) (some ⟨w.heap.size, 0, none⟩) n l :=
  ⟨hn, hm, hb, .inr ⟨_, 0, rfl, fun i hi => by rw [World.cell?_alloc_mark, Nat.zero_add]; exact hc i hi⟩⟩
theorem nil_elems (w : World) : Elems w none 0 [] := ⟨rfl, by omega, fun i hi => by omega, .inl rfl⟩
theorem lt9 {P : Nat → Prop} (h0 : P 0) (h1 : P 1) (h2 : P 2) (h3 : P 3) (h4 : P 4) (h5 : P 5) (h6 : P 6) (h7 : P 7) (h8 : P 8) : ∀ i, i < 9 → P i := by
  intro i hi
  match i, hi with
  | 0, _ => exact h0 | 1, _ => exact h1 | 2, _ => exact h2 | 3, _ => exact h3 | 4, _ => exact h4
  | 5, _ => exact h5 | 6, _ => exact h6 | 7, _ => exact h7 | 8, _ => exact h8
theorem of_is (a : Option Addr) (len cap : Nat) (l : List Int) (w : World) (z : Int) (hz : ((more 0#32 l).toNat : Int) = z) (hE : Elems w a len l) :
    Calls Try.prog 11 #[.slice a len cap] w fun e w' => e = .returned (.int .u32 z) ∧ Below w.heap.size w w' := by
  subst hz; exact w11 a len cap l w hE
theorem more_is (s : BitVec 32) (n : Int) (hs : n = (s.toNat : Int)) (a : Option Addr) (len cap : Nat) (l : List Int) (w : World) (z : Int) (hz : ((more s l).toNat : Int) = z) (hE : Elems w a len l) :
    Calls Try.prog 13 #[.int .u32 n, .slice a len cap] w fun e w' => e = .returned (.int .u32 z) ∧ Below w.heap.size w w' := by
  subst hz hs; exact w13 s a len cap l w hE
/-- alive: the answers that the document fixes. -/
theorem w16 (w : World) : Calls Try.prog 16 #[] w fun e w' => e = .returned (.bool true) ∧ Below w.heap.size w w' := by
  have e9 := new_elems w #[.int .u8 49, .int .u8 50, .int .u8 51, .int .u8 52, .int .u8 53, .int .u8 54, .int .u8 55, .int .u8 56, .int .u8 57] [49, 50, 51, 52, 53, 54, 55, 56, 57] 9 rfl (by omega) (by decide) (lt9 rfl rfl rfl rfl rfl rfl rfl rfl rfl) (9, 10)
  have kc := fun (w : World) (C : Array Value) (n c : Nat) => Lib.run_convert_bytes_const (P := Try.prog) w 22 5 C n c Try.underlying22 Try.underlying5
  have hb0 := (Below.refl w.heap.size w).alloc (Nat.le_refl _) (.cells #[.int .u8 49, .int .u8 50, .int .u8 51, .int .u8 52, .int .u8 53, .int .u8 54, .int .u8 55, .int .u8 56, .int .u8 57] 5 (9, 10))
  go_enter Try.func16, Try.ntmps16
  go_wp2_with (first
    | (go_at_call 11; refine (of_is _ 9 _ _ _ _ sum9 e9).mono ?_; clear e9; rintro e w1 ⟨rfl, hb1⟩)
    | (go_at_call 11; refine (of_is _ 1 1 _ _ _ sum1 e1).mono ?_; rintro e w4 ⟨rfl, hb4⟩)
    | (go_at_call 11; refine (of_is _ 0 0 _ _ _ sum0 (nil_elems _)).mono ?_; rintro e w2 ⟨rfl, hb2⟩; have e1 := new_elems w2 #[.int .u8 0] [0] 1 rfl (by omega) (by decide) (fun i hi => by obtain rfl : i = 0 := (by omega); rfl) (0, 0); have hb3 := (Below.refl w2.heap.size w2).alloc (Nat.le_refl _) (.cells #[.int .u8 0] 5))
    | (go_at_call 13; refine (more_is 5#32 _ rfl _ 0 0 _ _ _ sum5 (nil_elems _)).mono ?_; rintro e w5 ⟨rfl, hb5⟩))
  go_ret
  exact ⟨rfl, bstep (bstep (bstep (bstep (bstep hb0 hb1) hb2) hb3) hb4) hb5⟩
end Go.Proofs.Ytbndgdahokldeaa.Crc
