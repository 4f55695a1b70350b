/-
  Steps in memory; zero values.
  The walk of BitsPuts.
  What the package-level variables hold when the law begins; steps that came in, opened once.
-/
import Derived.Test.YtfabpjgnmpkleaaGreatDoorG2
import Derived.Deep.WholeRow
import Derived.Test.YtfabpjgnmpkleaaGreatDoorTie
import Derived.Test.YtfabpjgnmpkleaaGreatDoorCards
import Derived.ProofKit
import Derived.OpenShut
import Derived.ShutString
import Derived.ChangeOld
import Derived.LaidMore
import Derived.SizedLaws
import Derived.Lib.LaidTab
import Derived.Lib.SmallJoins
import Derived.Stop.LaidErr
namespace Go.Proofs.YtfabpjgnmpkleaaGreatDoor.Bits
open Go.ChangeShapes Go.WideShapes Go.ChangeAt Go.RowKit
theorem hid {p : Prop} (h : p) : Hid p := h
abbrev c47 : Array Value := #[.int .i64 0, .slice none 0 0, .slice none 0 0, .slice none 0 0, .slice none 0 0, .slice none 0 0, .slice none 0 0, .slice none 0 0, .slice none 0 0, .slice none 0 0, .slice none 0 0, .slice none 0 0, .slice none 0 0, .slice none 0 0, .slice none 0 0, .slice none 0 0, .slice none 0 0, .slice none 0 0]
theorem zero47 : ∀ w, (zeroValue 47).run Tryz.prog w = .ok (.agg c47) w := fun _ => by kernel_rfl
theorem zero28 : ∀ w, (zeroValue 28).run Tryz.prog w = .ok (.agg #[.slice none 0 0]) w := fun _ => by kernel_rfl
theorem zero59 : ∀ w, (zeroValue 59).run Tryz.prog w = .ok (.agg #[.pointer none]) w := fun _ => by kernel_rfl
theorem info47 : (Tryz.prog.info? 47).map (·.size) = some 18 := by kernel_rfl
/-- Steps that came in. -/
def StepsAt (W : World) (l : List (Nat × Int)) (v : Value) : Prop :=
  ∃ (ao : Option Addr) (cap : Nat), v = .slice ao l.length cap ∧ l.length ≤ cap ∧ (∀ x ∈ l, x.1 < 2 ^ 64 ∧ -9223372036854775808 ≤ x.2 ∧ x.2 ≤ 9223372036854775807) ∧
    (l.length = 0 ∨ ∃ b o, ao = some ⟨b, o, none⟩ ∧ ∀ i (h : i < l.length), W.cell? ⟨b, o + i * 2, none⟩ = some (.int .u64 (l[i].1 : Int)) ∧ W.cell? ⟨b, o + i * 2 + 1, none⟩ = some (.int .i64 l[i].2))
theorem num_case (N : Nat) (k : Int) : (∃ q : Nat, k = q ∧ q ≤ 64 ∧ N < 2 ^ q) ∨ (¬ (0 ≤ k ∧ k ≤ 64) ∨ ∃ q : Nat, k = q ∧ q ≤ 64 ∧ 2 ^ q ≤ N) := by
  by_cases h : 0 ≤ k ∧ k ≤ 64
  · obtain ⟨q, rfl⟩ : ∃ q : Nat, k = q := ⟨k.toNat, by omega⟩
    by_cases h2 : N < 2 ^ q
    · exact .inl ⟨q, rfl, by omega, h2⟩
    · exact .inr (.inr ⟨q, rfl, by omega, by omega⟩)
  · exact .inr (.inl h)
theorem bitsOf_len (N k : Nat) : (bitsOf N k).length = k := by simp [bitsOf]
end Go.Proofs.YtfabpjgnmpkleaaGreatDoor.Bits
namespace Go.Proofs.YtfabpjgnmpkleaaGreatDoor.Bits
open Go.ChangeShapes Go.WideShapes Go.ChangeAt Go.RowKit
set_option linter.unusedVariables false
attribute [local go_sem] Oper.semAt_some
set_option maxRecDepth 100000 in
set_option maxHeartbeats 32000000 in
theorem walk3 (l : List (Nat × Int)) (v : Value) (w : World) (hS : StepsAt w l v) : Calls Tryz.prog 3 #[v] w fun e w' => e = .returned (.bool true) ∧ Below w.heap.size w w' := by
  obtain ⟨ao, cap, rfl, hcap, hok, hc⟩ := hS
  have HC := hid hc
  have HOK := hid hok
  clear hc hok
  obtain ⟨C, hC⟩ : ∃ C : Array Value, C = c47 := ⟨_, rfl⟩
  have z47 : ∀ w, (zeroValue 47).run Tryz.prog w = .ok (.agg C) w := by rw [hC]; exact zero47
  have HCC := hid hC
  have hC18 : C.size = 18 := by rw [hC]; rfl
  clear hC
  have z28 := zero28
  have z59 := zero59
  go_enter Tryz.func3, Tryz.ntmps3
  by_cases hl : 300 < l.length
  · have hl' : (300 : Int) < (l.length : Int) := by omega
    go_wp2_with (fail)
    go_ret
    exact ⟨rfl, Below.refl _ _⟩
  · have hl' : ¬ (300 : Int) < (l.length : Int) := by omega
    go_wp2_with (fail)
    refine (new_a w w (Below.refl _ _)).mono ?_
    rintro e w1 ⟨a, r, rfl, hP1, hb1⟩
    have HP1 := hid hP1
    have HB1 := hid hb1
    clear hP1 hb1
    have hst := run_storeCells_new (P := Tryz.prog) (w1.alloc (.cells #[.slice none 0 0] 28)) 47 C C (by rw [hC18]; exact info47) rfl (by rw [HCC.out]; simp [c47, Value.oneCell'])
    rw [World.size_alloc] at hst
    go_wp2_with (fail)
    obtain ⟨W2, hW2⟩ : ∃ W2, W2 = (w1.alloc (.cells #[.slice none 0 0] 28)).alloc (.cells C 47) := ⟨_, rfl⟩
    rw [← hW2]
    have hbw2 : Below w1.heap.size w1 W2 := by rw [hW2]; exact ((Below.refl _ w1).alloc (Nat.le_refl _) _).alloc (by simp) _
    have hrm : W2.heap[w1.heap.size]? = some (.cells #[.slice none 0 0] 28 (0, 0)) := by rw [hW2, Below.heap_alloc _ _ _ (by simp)]; exact heap_alloc_new w1 _
    have hrb : W2.heap[w1.heap.size + 1]? = some (.cells C 47 (0, 0)) := by
      have := heap_alloc_new (w1.alloc (.cells #[.slice none 0 0] 28)) (.cells C 47)
      rw [World.size_alloc] at this
      rw [hW2]
      exact this
    have D0 : Hid (Dk w a r w1.heap.size (w1.heap.size + 1) (.slice none 0 0) (.slice none 0 0) (.slice none 0 0) 0 (fun _ => 0) (fun _ => 0) [] [] W2) := hid
      ⟨HP1.out.wr.kept hbw2, ⟨hrm, World.ownsRow_nil _ _ _ _⟩, ⟨by rw [hrb, HCC.out]; rfl, World.ownsRow_nil _ _ _ _⟩, (fun i hi => by omega), (fun i j hi => by omega), (fun i hi => by omega), (fun i hi => by omega), (fun g e => by cases e), ⟨HP1.out.lo, HB1.out.size, Nat.le_succ_of_le HB1.out.size⟩, (fun g e => by cases e), (fun g e => by cases e), (fun g e => by cases e), (fun i hi => by omega), (fun i hi => by omega), bstep HB1.out hbw2⟩
    obtain ⟨m, hm⟩ : ∃ m, m = w1.heap.size := ⟨_, rfl⟩
    obtain ⟨bk, hbk⟩ : ∃ bk, bk = w1.heap.size + 1 := ⟨_, rfl⟩
    rw [← hbk, ← hm] at D0
    rw [← hbk, ← hm]
    clear hm hbk hrm hrb hbw2 hW2 hst hC18 z47 z28 HB1 HP1
    go_loopw [6] (fun i wr => ∃ (n : Nat) (v vm vb : Value) (G mm : Nat → Nat) (L : List Bool), n ≤ l.length ∧ i = .int .i64 (n : Int) ∧ Hid (Dk w a r m bk v vm vb n G mm L L wr) ∧ L.length ≤ 64 * n) (fun i _ => l.length - (intOf i).toNat)
    case atStart => exact ⟨0, _, _, _, _, _, _, Nat.zero_le _, rfl, D0, by simp⟩
    case round =>
      obtain ⟨n, v, vm, vb, G, mm, L, hn, rfl, D, hL⟩ := hrel
      obtain ⟨wq, hwq⟩ : ∃ wq, wq = wr := ⟨_, rfl⟩
      subst wr
      by_cases hnl : n < l.length
      · have hnl' : (n : Int) < (l.length : Int) := by omega
        have hn0 : (0 : Int) ≤ (n : Int) := by omega
        obtain ⟨b, o, rfl, hcs⟩ := HC.out.resolve_left (by omega)
        have hc0 := hcs n hnl
        have hok0 := HOK.out _ (List.getElem_mem hnl)
        generalize l[n] = x at hc0 hok0
        obtain ⟨N, kk⟩ := x
        dsimp only at hc0 hok0
        have HCS : Hid (∀ W, Below w.heap.size w W → W.cell? ⟨b, o + n * 2, none⟩ = some (.int .u64 (N : Int)) ∧ W.cell? ⟨b, o + n * 2 + 1, none⟩ = some (.int .i64 kk)) := hid (fun W hb => ⟨(hb.cell (World.block_lt_of_cell? w _ hc0.1)).trans hc0.1, (hb.cell (World.block_lt_of_cell? w _ hc0.2)).trans hc0.2⟩)
        obtain ⟨hN64, hK1, hK2⟩ := hok0
        clear hc0 hcs
        have D1 := hid (D.out.keep (Below.refl _ _).drew)
        have hLm : L.length + 64 < 100000 := by omega
        rcases num_case N kk with ⟨q, rfl, hq, hNq⟩ | hbad
        · go_wp2_with (fail)
          refine wp_region_held_drew (S := fun W => W.cell? ⟨b, o + n * 2, none⟩ = some (.int .u64 (N : Int)) ∧ W.cell? ⟨b, o + n * 2 + 1, none⟩ = some (.int .i64 (q : Int))) (by kernel_rfl) ?_ (fun hHeld => ?_)
          · exact HCS.out _ D1.out.below
          refine wpAnyH_take (i := 0) (oi := { dst := some 25, op := Go.Op.move (Go.Operand.tmp 3), type := 23, pos := _, after := #[], guard := none }) (v := ?_) rfl (by kernel_rfl) (by kernel_rfl) (by kernel_rfl) (fun _ _ _ h => h) (Or.inl ⟨by rfl, ?_⟩) (by assumption) ?_
          rotate_left
          · intro w hSw; (try dsimp only at hSw); go_simp <;> first | with_reducible rfl | (rw [if_neg (by first | omega | (simp only [ByteArray.size_append] at *; omega))])
          (try simp only [Act.put, List.setIfInBounds_toArray, List.set_cons_zero, List.set_cons_succ])
          refine wpAnyH_take (i := 1) (oi := { dst := some 26, op := Go.Op.move (Go.Operand.tmp 0), type := 22, pos := _, after := #[], guard := none }) (v := ?_) rfl (by kernel_rfl) (by kernel_rfl) (by kernel_rfl) (fun _ _ _ h => h) (Or.inl ⟨by rfl, ?_⟩) (by assumption) ?_
          rotate_left
          · intro w hSw; (try dsimp only at hSw); go_simp <;> first | with_reducible rfl | (rw [if_neg (by first | omega | (simp only [ByteArray.size_append] at *; omega))])
          (try simp only [Act.put, List.setIfInBounds_toArray, List.set_cons_zero, List.set_cons_succ])
          refine wpAnyH_take (i := 2) (oi := { dst := some 27, op := Go.Op.move (Go.Operand.tmp 6), type := 3, pos := _, after := #[], guard := none }) (v := ?_) rfl (by kernel_rfl) (by kernel_rfl) (by kernel_rfl) (fun _ _ _ h => h) (Or.inl ⟨by rfl, ?_⟩) (by assumption) ?_
          rotate_left
          · intro w hSw; (try dsimp only at hSw); go_simp <;> first | with_reducible rfl | (rw [if_neg (by first | omega | (simp only [ByteArray.size_append] at *; omega))])
          (try simp only [Act.put, List.setIfInBounds_toArray, List.set_cons_zero, List.set_cons_succ])
          refine wpAnyH_take (i := 3) (oi := { dst := some 28, op := Go.Op.indexAddr 22 (Go.Operand.tmp 26) (Go.Operand.tmp 27), type := 0, pos := _, after := #[{ on := 1, ground := Go.Ground.data }, { on := 2, ground := Go.Ground.data }], guard := none }) (v := ?_) rfl (by kernel_rfl) (by kernel_rfl) (by kernel_rfl) (fun _ _ _ h => h) (Or.inl ⟨by rfl, ?_⟩) (by assumption) ?_
          rotate_left
          · intro w hSw; (try dsimp only at hSw); go_simp <;> first | with_reducible rfl | (rw [if_neg (by first | omega | (simp only [ByteArray.size_append] at *; omega))])
          (try simp only [Act.put, List.setIfInBounds_toArray, List.set_cons_zero, List.set_cons_succ])
          refine wpAnyH_take (i := 4) (oi := { dst := some 29, op := Go.Op.fieldAddr 52 (Go.Operand.tmp 28) 0, type := 0, pos := _, after := #[{ on := 3, ground := Go.Ground.data }], guard := none }) (v := ?_) rfl (by kernel_rfl) (by kernel_rfl) (by kernel_rfl) (fun _ _ _ h => h) (Or.inl ⟨by rfl, ?_⟩) (by assumption) ?_
          rotate_left
          · intro w hSw; (try dsimp only at hSw); go_simp <;> first | with_reducible rfl | (rw [if_neg (by first | omega | (simp only [ByteArray.size_append] at *; omega))])
          (try simp only [Act.put, List.setIfInBounds_toArray, List.set_cons_zero, List.set_cons_succ])
          refine wpAnyH_take (i := 5) (oi := { dst := some 30, op := Go.Op.load 50 (Go.Operand.tmp 29), type := 50, pos := _, after := #[{ on := 4, ground := Go.Ground.data }], guard := none }) (v := ?_) rfl (by kernel_rfl) (by kernel_rfl) (by kernel_rfl) (fun _ _ _ h => h) (Or.inl ⟨by rfl, ?_⟩) (by assumption) ?_
          rotate_left
          · intro w hSw; (try dsimp only at hSw); go_simp <;> first | with_reducible rfl | (rw [if_neg (by first | omega | (simp only [ByteArray.size_append] at *; omega))])
          (try simp only [Act.put, List.setIfInBounds_toArray, List.set_cons_zero, List.set_cons_succ])
          refine wpAnyH_take (i := 6) (oi := { dst := some 31, op := Go.Op.move (Go.Operand.tmp 0), type := 22, pos := _, after := #[], guard := none }) (v := ?_) rfl (by kernel_rfl) (by kernel_rfl) (by kernel_rfl) (fun _ _ _ h => h) (Or.inl ⟨by rfl, ?_⟩) (by assumption) ?_
          rotate_left
          · intro w hSw; (try dsimp only at hSw); go_simp <;> first | with_reducible rfl | (rw [if_neg (by first | omega | (simp only [ByteArray.size_append] at *; omega))])
          (try simp only [Act.put, List.setIfInBounds_toArray, List.set_cons_zero, List.set_cons_succ])
          refine wpAnyH_take (i := 7) (oi := { dst := some 32, op := Go.Op.move (Go.Operand.tmp 6), type := 3, pos := _, after := #[], guard := none }) (v := ?_) rfl (by kernel_rfl) (by kernel_rfl) (by kernel_rfl) (fun _ _ _ h => h) (Or.inl ⟨by rfl, ?_⟩) (by assumption) ?_
          rotate_left
          · intro w hSw; (try dsimp only at hSw); go_simp <;> first | with_reducible rfl | (rw [if_neg (by first | omega | (simp only [ByteArray.size_append] at *; omega))])
          (try simp only [Act.put, List.setIfInBounds_toArray, List.set_cons_zero, List.set_cons_succ])
          refine wpAnyH_take (i := 8) (oi := { dst := some 33, op := Go.Op.indexAddr 22 (Go.Operand.tmp 31) (Go.Operand.tmp 32), type := 0, pos := _, after := #[{ on := 6, ground := Go.Ground.data }, { on := 7, ground := Go.Ground.data }], guard := none }) (v := ?_) rfl (by kernel_rfl) (by kernel_rfl) (by kernel_rfl) (fun _ _ _ h => h) (Or.inl ⟨by rfl, ?_⟩) (by assumption) ?_
          rotate_left
          · intro w hSw; (try dsimp only at hSw); go_simp <;> first | with_reducible rfl | (rw [if_neg (by first | omega | (simp only [ByteArray.size_append] at *; omega))])
          (try simp only [Act.put, List.setIfInBounds_toArray, List.set_cons_zero, List.set_cons_succ])
          refine wpAnyH_take (i := 9) (oi := { dst := some 34, op := Go.Op.fieldAddr 52 (Go.Operand.tmp 33) 1, type := 0, pos := _, after := #[{ on := 8, ground := Go.Ground.data }], guard := none }) (v := ?_) rfl (by kernel_rfl) (by kernel_rfl) (by kernel_rfl) (fun _ _ _ h => h) (Or.inl ⟨by rfl, ?_⟩) (by assumption) ?_
          rotate_left
          · intro w hSw; (try dsimp only at hSw); go_simp <;> first | with_reducible rfl | (rw [if_neg (by first | omega | (simp only [ByteArray.size_append] at *; omega))])
          (try simp only [Act.put, List.setIfInBounds_toArray, List.set_cons_zero, List.set_cons_succ])
          refine wpAnyH_take (i := 10) (oi := { dst := some 35, op := Go.Op.load 3 (Go.Operand.tmp 34), type := 3, pos := _, after := #[{ on := 9, ground := Go.Ground.data }], guard := none }) (v := ?_) rfl (by kernel_rfl) (by kernel_rfl) (by kernel_rfl) (fun _ _ _ h => h) (Or.inl ⟨by rfl, ?_⟩) (by assumption) ?_
          rotate_left
          · intro w hSw; (try dsimp only at hSw); go_simp <;> first | with_reducible rfl | (rw [if_neg (by first | omega | (simp only [ByteArray.size_append] at *; omega))])
          (try simp only [Act.put, List.setIfInBounds_toArray, List.set_cons_zero, List.set_cons_succ])
          refine wpAnyH_take (i := 12) (oi := { dst := some 37, op := Go.Op.move (Go.Operand.tmp 4), type := 25, pos := _, after := #[], guard := none }) (v := ?_) rfl (by kernel_rfl) (by kernel_rfl) (by kernel_rfl) (fun _ _ _ h => h) (Or.inl ⟨by rfl, ?_⟩) (by assumption) ?_
          rotate_left
          · intro w hSw; (try dsimp only at hSw); go_simp <;> first | with_reducible rfl | (rw [if_neg (by first | omega | (simp only [ByteArray.size_append] at *; omega))])
          (try simp only [Act.put, List.setIfInBounds_toArray, List.set_cons_zero, List.set_cons_succ])
          refine wpAnyH_take (i := 13) (oi := { dst := some 38, op := Go.Op.move (Go.Operand.tmp 0), type := 22, pos := _, after := #[], guard := none }) (v := ?_) rfl (by kernel_rfl) (by kernel_rfl) (by kernel_rfl) (fun _ _ _ h => h) (Or.inl ⟨by rfl, ?_⟩) (by assumption) ?_
          rotate_left
          · intro w hSw; (try dsimp only at hSw); go_simp <;> first | with_reducible rfl | (rw [if_neg (by first | omega | (simp only [ByteArray.size_append] at *; omega))])
          (try simp only [Act.put, List.setIfInBounds_toArray, List.set_cons_zero, List.set_cons_succ])
          refine wpAnyH_take (i := 14) (oi := { dst := some 39, op := Go.Op.move (Go.Operand.tmp 6), type := 3, pos := _, after := #[], guard := none }) (v := ?_) rfl (by kernel_rfl) (by kernel_rfl) (by kernel_rfl) (fun _ _ _ h => h) (Or.inl ⟨by rfl, ?_⟩) (by assumption) ?_
          rotate_left
          · intro w hSw; (try dsimp only at hSw); go_simp <;> first | with_reducible rfl | (rw [if_neg (by first | omega | (simp only [ByteArray.size_append] at *; omega))])
          (try simp only [Act.put, List.setIfInBounds_toArray, List.set_cons_zero, List.set_cons_succ])
          refine wpAnyH_take (i := 15) (oi := { dst := some 40, op := Go.Op.indexAddr 22 (Go.Operand.tmp 38) (Go.Operand.tmp 39), type := 0, pos := _, after := #[{ on := 13, ground := Go.Ground.data }, { on := 14, ground := Go.Ground.data }], guard := none }) (v := ?_) rfl (by kernel_rfl) (by kernel_rfl) (by kernel_rfl) (fun _ _ _ h => h) (Or.inl ⟨by rfl, ?_⟩) (by assumption) ?_
          rotate_left
          · intro w hSw; (try dsimp only at hSw); go_simp <;> first | with_reducible rfl | (rw [if_neg (by first | omega | (simp only [ByteArray.size_append] at *; omega))])
          (try simp only [Act.put, List.setIfInBounds_toArray, List.set_cons_zero, List.set_cons_succ])
          refine wpAnyH_take (i := 16) (oi := { dst := some 41, op := Go.Op.fieldAddr 52 (Go.Operand.tmp 40) 0, type := 0, pos := _, after := #[{ on := 15, ground := Go.Ground.data }], guard := none }) (v := ?_) rfl (by kernel_rfl) (by kernel_rfl) (by kernel_rfl) (fun _ _ _ h => h) (Or.inl ⟨by rfl, ?_⟩) (by assumption) ?_
          rotate_left
          · intro w hSw; (try dsimp only at hSw); go_simp <;> first | with_reducible rfl | (rw [if_neg (by first | omega | (simp only [ByteArray.size_append] at *; omega))])
          (try simp only [Act.put, List.setIfInBounds_toArray, List.set_cons_zero, List.set_cons_succ])
          refine wpAnyH_take (i := 17) (oi := { dst := some 42, op := Go.Op.load 50 (Go.Operand.tmp 41), type := 50, pos := _, after := #[{ on := 16, ground := Go.Ground.data }], guard := none }) (v := ?_) rfl (by kernel_rfl) (by kernel_rfl) (by kernel_rfl) (fun _ _ _ h => h) (Or.inl ⟨by rfl, ?_⟩) (by assumption) ?_
          rotate_left
          · intro w hSw; (try dsimp only at hSw); go_simp <;> first | with_reducible rfl | (rw [if_neg (by first | omega | (simp only [ByteArray.size_append] at *; omega))])
          (try simp only [Act.put, List.setIfInBounds_toArray, List.set_cons_zero, List.set_cons_succ])
          refine wpAnyH_take (i := 18) (oi := { dst := some 43, op := Go.Op.move (Go.Operand.tmp 0), type := 22, pos := _, after := #[], guard := none }) (v := ?_) rfl (by kernel_rfl) (by kernel_rfl) (by kernel_rfl) (fun _ _ _ h => h) (Or.inl ⟨by rfl, ?_⟩) (by assumption) ?_
          rotate_left
          · intro w hSw; (try dsimp only at hSw); go_simp <;> first | with_reducible rfl | (rw [if_neg (by first | omega | (simp only [ByteArray.size_append] at *; omega))])
          (try simp only [Act.put, List.setIfInBounds_toArray, List.set_cons_zero, List.set_cons_succ])
          refine wpAnyH_take (i := 19) (oi := { dst := some 44, op := Go.Op.move (Go.Operand.tmp 6), type := 3, pos := _, after := #[], guard := none }) (v := ?_) rfl (by kernel_rfl) (by kernel_rfl) (by kernel_rfl) (fun _ _ _ h => h) (Or.inl ⟨by rfl, ?_⟩) (by assumption) ?_
          rotate_left
          · intro w hSw; (try dsimp only at hSw); go_simp <;> first | with_reducible rfl | (rw [if_neg (by first | omega | (simp only [ByteArray.size_append] at *; omega))])
          (try simp only [Act.put, List.setIfInBounds_toArray, List.set_cons_zero, List.set_cons_succ])
          refine wpAnyH_take (i := 20) (oi := { dst := some 45, op := Go.Op.indexAddr 22 (Go.Operand.tmp 43) (Go.Operand.tmp 44), type := 0, pos := _, after := #[{ on := 18, ground := Go.Ground.data }, { on := 19, ground := Go.Ground.data }], guard := none }) (v := ?_) rfl (by kernel_rfl) (by kernel_rfl) (by kernel_rfl) (fun _ _ _ h => h) (Or.inl ⟨by rfl, ?_⟩) (by assumption) ?_
          rotate_left
          · intro w hSw; (try dsimp only at hSw); go_simp <;> first | with_reducible rfl | (rw [if_neg (by first | omega | (simp only [ByteArray.size_append] at *; omega))])
          (try simp only [Act.put, List.setIfInBounds_toArray, List.set_cons_zero, List.set_cons_succ])
          refine wpAnyH_take (i := 21) (oi := { dst := some 46, op := Go.Op.fieldAddr 52 (Go.Operand.tmp 45) 1, type := 0, pos := _, after := #[{ on := 20, ground := Go.Ground.data }], guard := none }) (v := ?_) rfl (by kernel_rfl) (by kernel_rfl) (by kernel_rfl) (fun _ _ _ h => h) (Or.inl ⟨by rfl, ?_⟩) (by assumption) ?_
          rotate_left
          · intro w hSw; (try dsimp only at hSw); go_simp <;> first | with_reducible rfl | (rw [if_neg (by first | omega | (simp only [ByteArray.size_append] at *; omega))])
          (try simp only [Act.put, List.setIfInBounds_toArray, List.set_cons_zero, List.set_cons_succ])
          refine wpAnyH_take (i := 22) (oi := { dst := some 47, op := Go.Op.load 3 (Go.Operand.tmp 46), type := 3, pos := _, after := #[{ on := 21, ground := Go.Ground.data }], guard := none }) (v := ?_) rfl (by kernel_rfl) (by kernel_rfl) (by kernel_rfl) (fun _ _ _ h => h) (Or.inl ⟨by rfl, ?_⟩) (by assumption) ?_
          rotate_left
          · intro w hSw; (try dsimp only at hSw); go_simp <;> first | with_reducible rfl | (rw [if_neg (by first | omega | (simp only [ByteArray.size_append] at *; omega))])
          (try simp only [Act.put, List.setIfInBounds_toArray, List.set_cons_zero, List.set_cons_succ])
          refine wpAnyH_ready (rs := [11]) (by kernel_rfl) (by simp) ?_
          refine AllReadyH.cons (o := { dst := some 36, op := Go.Op.call { callee := Go.Callee.value (Go.Operand.func 5), args := #[Go.Operand.tmp 25, Go.Operand.tmp 30, Go.Operand.tmp 35], argTypes := #[23, 50, 3] }, type := 48, pos := _, after := #[{ on := 0, ground := Go.Ground.data }, { on := 5, ground := Go.Ground.data }, { on := 10, ground := Go.Ground.data }], guard := none }) rfl (fun K hK => ?_) AllReadyH.nil
          go_simp
          refine (put_ok a r _ L N q _ D1.out.wr hq hNq (by omega)).mono ?_
          rintro e w2 ⟨rfl, v2, hW2, hp2⟩
          have D2 := hid (D1.out.put1 hW2 hp2)
          clear hW2 hp2
          go_wp2_with fail
          refine hK.out _ _ ?_ (fun hHeld1 => ?_)
          · exact HCS.out _ D2.out.below
          clear hK K
          (try simp only [Act.put, List.setIfInBounds_toArray, List.set_cons_zero, List.set_cons_succ])
          refine wpAnyH_ready (rs := [23]) (by kernel_rfl) (by simp) ?_
          refine AllReadyH.cons (o := { dst := some 48, op := Go.Op.call { callee := Go.Callee.value (Go.Operand.func 6), args := #[Go.Operand.tmp 37, Go.Operand.tmp 42, Go.Operand.tmp 47], argTypes := #[25, 50, 3] }, type := 48, pos := _, after := #[{ on := 12, ground := Go.Ground.data }, { on := 17, ground := Go.Ground.data }, { on := 22, ground := Go.Ground.data }, { on := 11, ground := Go.Ground.chain }], guard := none }) rfl (fun K hK => ?_) AllReadyH.nil
          go_simp
          refine (refput_ok m _ L N q _ D2.out.ref hq hNq (by omega)).mono ?_
          rintro e w3 ⟨rfl, vm3, hR3, hp3⟩
          have D3 := hid (D2.out.put2 hR3 hp3)
          clear hR3 hp3
          go_wp2_with fail
          refine hK.out _ _ ?_ (fun hHeld2 => ?_)
          · exact HCS.out _ D3.out.below
          clear hK K
          (try simp only [Act.put, List.setIfInBounds_toArray, List.set_cons_zero, List.set_cons_succ])
          obtain ⟨sp, cm, rfl⟩ : ∃ sp cm, vm3 = .slice sp (L ++ bitsOf N q).length cm := by
            rcases D3.out.ref.own.2 with ⟨h, h'⟩ | ⟨g, cap, cur, h, _⟩
            · exact ⟨none, 0, by rw [h, h']⟩
            · exact ⟨_, _, h⟩
          have hmc : w3.cell? ⟨m, 0, none⟩ = some (.slice sp (L ++ bitsOf N q).length cm) := by simp [World.cell?, D3.out.ref.row]
          obtain ⟨L2, hLL⟩ : ∃ L2, L2 = L ++ bitsOf N q := ⟨_, rfl⟩
          rw [← hLL] at hmc D3
          have HL2 : Hid (L2.length = L.length + q) := hid (by rw [hLL, List.length_append, bitsOf_len])
          clear hLL D1 D2
          refine wpAnyH_take (i := 24) (oi := { dst := some 49, op := Go.Op.binOp Go.BinOp.neq 48 (Go.Operand.tmp 36) (Go.Operand.tmp 48) 48, type := 4, pos := _, after := #[{ on := 11, ground := Go.Ground.data }, { on := 23, ground := Go.Ground.data }], guard := none }) (v := ?_) rfl (by kernel_rfl) (by kernel_rfl) (by kernel_rfl) (fun _ _ _ h => h) (Or.inl ⟨by rfl, ?_⟩) (by assumption) ?_
          rotate_left
          · intro w hSw; (try dsimp only at hSw); go_simp <;> first | with_reducible rfl | (rw [if_neg (by first | omega | (simp only [ByteArray.size_append] at *; omega))])
          (try simp only [Act.put, List.setIfInBounds_toArray, List.set_cons_zero, List.set_cons_succ])
          refine wpAnyH_take (i := 25) (oi := { dst := some 50, op := Go.Op.move (Go.Operand.tmp 49), type := 4, pos := _, after := #[{ on := 24, ground := Go.Ground.data }, { on := 23, ground := Go.Ground.chain }], guard := none }) (v := ?_) rfl (by kernel_rfl) (by kernel_rfl) (by kernel_rfl) (fun _ _ _ h => h) (Or.inl ⟨by rfl, ?_⟩) (by assumption) ?_
          rotate_left
          · intro w hSw; (try dsimp only at hSw); go_simp <;> first | with_reducible rfl | (rw [if_neg (by first | omega | (simp only [ByteArray.size_append] at *; omega))])
          (try simp only [Act.put, List.setIfInBounds_toArray, List.set_cons_zero, List.set_cons_succ])
          refine wpAnyH_take (i := 26) (oi := { dst := some 51, op := Go.Op.move (Go.Operand.tmp 3), type := 23, pos := _, after := #[{ on := 25, ground := Go.Ground.guard }], guard := some (25, false) }) (v := ?_) rfl (by kernel_rfl) (by kernel_rfl) (by kernel_rfl) (fun _ _ _ h => h) (Or.inl ⟨by rfl, ?_⟩) (by assumption) ?_
          rotate_left
          · intro w hSw; (try dsimp only at hSw); go_simp <;> first | with_reducible rfl | (rw [if_neg (by first | omega | (simp only [ByteArray.size_append] at *; omega))])
          (try simp only [Act.put, List.setIfInBounds_toArray, List.set_cons_zero, List.set_cons_succ])
          refine wpAnyH_take (i := 28) (oi := { dst := some 53, op := Go.Op.move (Go.Operand.tmp 4), type := 25, pos := _, after := #[{ on := 25, ground := Go.Ground.guard }], guard := some (25, false) }) (v := ?_) rfl (by kernel_rfl) (by kernel_rfl) (by kernel_rfl) (fun _ _ _ h => h) (Or.inl ⟨by rfl, ?_⟩) (by assumption) ?_
          rotate_left
          · intro w hSw; (try dsimp only at hSw); go_simp <;> first | with_reducible rfl | (rw [if_neg (by first | omega | (simp only [ByteArray.size_append] at *; omega))])
          (try simp only [Act.put, List.setIfInBounds_toArray, List.set_cons_zero, List.set_cons_succ])
          refine wpAnyH_take (i := 29) (oi := { dst := some 54, op := Go.Op.nilCheck (Go.Operand.tmp 53), type := 0, pos := _, after := #[{ on := 28, ground := Go.Ground.data }, { on := 25, ground := Go.Ground.guard }], guard := some (25, false) }) (v := ?_) rfl (by kernel_rfl) (by kernel_rfl) (by kernel_rfl) (fun _ _ _ h => h) (Or.inl ⟨by rfl, ?_⟩) (by assumption) ?_
          rotate_left
          · intro w hSw; (try dsimp only at hSw); go_simp <;> first | with_reducible rfl | (rw [if_neg (by first | omega | (simp only [ByteArray.size_append] at *; omega))])
          (try simp only [Act.put, List.setIfInBounds_toArray, List.set_cons_zero, List.set_cons_succ])
          refine wpAnyH_take (i := 30) (oi := { dst := some 55, op := Go.Op.fieldAddr 28 (Go.Operand.tmp 54) 0, type := 0, pos := _, after := #[{ on := 29, ground := Go.Ground.data }, { on := 25, ground := Go.Ground.guard }], guard := some (25, false) }) (v := ?_) rfl (by kernel_rfl) (by kernel_rfl) (by kernel_rfl) (fun _ _ _ h => h) (Or.inl ⟨by rfl, ?_⟩) (by assumption) ?_
          rotate_left
          · intro w hSw; (try dsimp only at hSw); go_simp <;> first | with_reducible rfl | (rw [if_neg (by first | omega | (simp only [ByteArray.size_append] at *; omega))])
          (try simp only [Act.put, List.setIfInBounds_toArray, List.set_cons_zero, List.set_cons_succ])
          refine wpAnyH_ready (rs := [27, 31]) (by kernel_rfl) (by simp) ?_
          refine AllReadyH.cons (o := { dst := some 52, op := Go.Op.call { callee := Go.Callee.value (Go.Operand.func 7), args := #[Go.Operand.tmp 51], argTypes := #[23] }, type := 3, pos := _, after := #[{ on := 26, ground := Go.Ground.data }, { on := 25, ground := Go.Ground.chain }, { on := 25, ground := Go.Ground.guard }], guard := some (25, false) }) rfl (fun K hK => ?_) (AllReadyH.cons (o := { dst := some 56, op := Go.Op.load 26 (Go.Operand.tmp 55), type := 26, pos := _, after := #[{ on := 30, ground := Go.Ground.data }, { on := 25, ground := Go.Ground.guard }], guard := some (25, false) }) rfl (fun K hK => ?_) AllReadyH.nil)
          · go_simp
            refine (len a r _ L2 _ D3.out.wr).mono ?_
            rintro e w4 ⟨rfl, h4⟩
            rw [h4]
            clear h4 w4
            go_wp2_with fail
            refine hK.out _ _ ?_ (fun hHeld8 => ?_)
            · exact HCS.out _ D3.out.below
            clear hK K
            (try simp only [Act.put, List.setIfInBounds_toArray, List.set_cons_zero, List.set_cons_succ])
            refine wpAnyH_ready (rs := [31]) (by kernel_rfl) (by simp) ?_
            refine AllReadyH.cons (o := { dst := some 56, op := Go.Op.load 26 (Go.Operand.tmp 55), type := 26, pos := _, after := #[{ on := 30, ground := Go.Ground.data }, { on := 25, ground := Go.Ground.guard }], guard := some (25, false) }) rfl (fun K hK => ?_) AllReadyH.nil
            go_simp
            refine hK.out _ _ ?_ (fun hHeld9 => ?_)
            · exact HCS.out _ D3.out.below
            clear hK K
            (try simp only [Act.put, List.setIfInBounds_toArray, List.set_cons_zero, List.set_cons_succ])
            refine wpAnyH_take (i := 32) (oi := { dst := some 57, op := Go.Op.call { callee := Go.Callee.builtin Go.Builtin.len, args := #[Go.Operand.tmp 56], argTypes := #[26] }, type := 3, pos := _, after := #[{ on := 31, ground := Go.Ground.data }, { on := 25, ground := Go.Ground.guard }], guard := some (25, false) }) (v := ?_) rfl (by kernel_rfl) (by kernel_rfl) (by kernel_rfl) (fun _ _ _ h => h) (Or.inl ⟨by rfl, ?_⟩) (by assumption) ?_
            rotate_left
            · intro w hSw; (try dsimp only at hSw); go_simp <;> first | with_reducible rfl | (rw [if_neg (by first | omega | (simp only [ByteArray.size_append] at *; omega))])
            (try simp only [Act.put, List.setIfInBounds_toArray, List.set_cons_zero, List.set_cons_succ])
            refine wpAnyH_take (i := 33) (oi := { dst := some 58, op := Go.Op.binOp Go.BinOp.neq 3 (Go.Operand.tmp 52) (Go.Operand.tmp 57) 3, type := 4, pos := _, after := #[{ on := 27, ground := Go.Ground.data }, { on := 32, ground := Go.Ground.data }, { on := 25, ground := Go.Ground.guard }], guard := some (25, false) }) (v := ?_) rfl (by kernel_rfl) (by kernel_rfl) (by kernel_rfl) (fun _ _ _ h => h) (Or.inl ⟨by rfl, ?_⟩) (by assumption) ?_
            rotate_left
            · intro w hSw; (try dsimp only at hSw); go_simp <;> first | with_reducible rfl | (rw [if_neg (by first | omega | (simp only [ByteArray.size_append] at *; omega))])
            (try simp only [Act.put, List.setIfInBounds_toArray, List.set_cons_zero, List.set_cons_succ])
            refine wpAnyH_take (i := 34) (oi := { dst := some 59, op := Go.Op.pick (Go.Operand.tmp 50) (Go.Operand.const (Go.Value.bool true)) (Go.Operand.tmp 58), type := 4, pos := _, after := #[{ on := 25, ground := Go.Ground.data }, { on := 33, ground := Go.Ground.data }], guard := none }) (v := ?_) rfl (by kernel_rfl) (by kernel_rfl) (by kernel_rfl) (fun _ _ _ h => h) (Or.inl ⟨by rfl, ?_⟩) (by assumption) ?_
            rotate_left
            · intro w hSw; (try dsimp only at hSw); go_simp <;> first | with_reducible rfl | (rw [if_neg (by first | omega | (simp only [ByteArray.size_append] at *; omega))])
            (try simp only [Act.put, List.setIfInBounds_toArray, List.set_cons_zero, List.set_cons_succ])
            refine wpAnyH_done (by kernel_rfl) ?_ _
            have hL2 : (L2).length ≤ 64 * (n + 1) := by have := HL2.out; omega
            obtain ⟨M, hM⟩ : ∃ M, M = ((L2).length + 7) / 8 := ⟨_, rfl⟩
            have HM := hid hM
            have hM5 : M ≤ 20000 := by omega
            clear hM
            go_wp2_with (fail)
            refine (bytes a r _ (L2) _ D3.out.wr (by omega)).mono ?_
            rintro e w5 ⟨he, hBlk, hb5⟩
            rw [pack_length, ← HM.out] at he
            subst he
            have D5 := hid (D3.out.keep hb5)
            have hgn := D3.out.glt
            have hgv := D3.out.vlt
            have hgm := D3.out.mlt
            have hgw := D3.out.below.size
            obtain ⟨g, hg⟩ : ∃ g, g = w3.heap.size := ⟨_, rfl⟩
            rw [← hg] at hBlk hgn hgv hgm hgw
            rw [← hg]
            have HG5 := hid (show g < w5.heap.size from (Array.getElem?_eq_some_iff.1 hBlk).1)
            have HG := hid (And.intro hgn (And.intro hgv (And.intro hgm hgw)))
            have HBLK := hid hBlk
            clear hg hb5 hBlk hgn hgv hgm hgw D3
            go_wp2_with (fail)
            refine (refbytes m _ (L2) _ D5.out.ref (by omega)).mono ?_
            rintro e w6 ⟨he, hEl, hb6⟩
            rw [← HM.out] at he hEl
            subst he
            have D6 := hid (D5.out.keep hb6)
            have HB6 : Hid (Blk w6 g (pack (L2))) := hid ((hb6.block g HG5.out).trans HBLK.out)
            have HEL := hid hEl
            have HE1 : Hid (Elems w6 (some ⟨g, 0, none⟩) M (pack (L2))) := hid (by
              have h := HB6.out.elems (pack_bytes (L2)) (by rw [pack_length]; omega)
              rwa [pack_length, ← HM.out] at h)
            obtain ⟨g6, hg6⟩ : ∃ g6, g6 = w5.heap.size := ⟨_, rfl⟩
            rw [← hg6] at HEL
            rw [← hg6]
            clear hb6 hEl D5 HBLK hg6 HG5
            go_wp2_with (fail)
            refine (same_b _ _ _ _ _ (pack (L2)) _ HE1.out HEL.out).mono ?_
            rintro e w7 ⟨rfl, hb7⟩
            have D7 := hid (D6.out.keep hb7)
            have hO6 := HB6.out.own (by rw [pack_length]; unfold maxLen; omega)
            rw [pack_length, ← HM.out] at hO6
            have HO7 := hid (hO6.same (hb7.block g hO6.lt))
            clear hb7 D6 HE1 HEL HB6 hO6
            go_wp2_with (fail)
            refine (keepB bk n _ _ g M _ D7.out.book (by omega)).mono ?_
            rintro e w8 ⟨⟨u, rfl⟩, vb', hB8, hp8⟩
            have D8 := hid (D7.out.more hB8 hp8 HO7.out HG.out.2.2.2 (fun i hi e => by have := HG.out.1 i hi; omega) (fun e => by have := HG.out.2.1 g e; omega) (fun e => by have := HG.out.2.2.1 g e; omega) (by omega))
            clear hB8 hp8
            go_wp2_with (fail)
            go_roundw
            case rel => exact ⟨n + 1, _, _, _, _, _, _, by omega, by go_num, D8, hL2⟩
            case measure => simp [intOf]; omega
          · go_simp
            refine hK.out _ _ ?_ (fun hHeld8 => ?_)
            · exact HCS.out _ D3.out.below
            clear hK K
            (try simp only [Act.put, List.setIfInBounds_toArray, List.set_cons_zero, List.set_cons_succ])
            refine wpAnyH_take (i := 32) (oi := { dst := some 57, op := Go.Op.call { callee := Go.Callee.builtin Go.Builtin.len, args := #[Go.Operand.tmp 56], argTypes := #[26] }, type := 3, pos := _, after := #[{ on := 31, ground := Go.Ground.data }, { on := 25, ground := Go.Ground.guard }], guard := some (25, false) }) (v := ?_) rfl (by kernel_rfl) (by kernel_rfl) (by kernel_rfl) (fun _ _ _ h => h) (Or.inl ⟨by rfl, ?_⟩) (by assumption) ?_
            rotate_left
            · intro w hSw; (try dsimp only at hSw); go_simp <;> first | with_reducible rfl | (rw [if_neg (by first | omega | (simp only [ByteArray.size_append] at *; omega))])
            (try simp only [Act.put, List.setIfInBounds_toArray, List.set_cons_zero, List.set_cons_succ])
            refine wpAnyH_ready (rs := [27]) (by kernel_rfl) (by simp) ?_
            refine AllReadyH.cons (o := { dst := some 52, op := Go.Op.call { callee := Go.Callee.value (Go.Operand.func 7), args := #[Go.Operand.tmp 51], argTypes := #[23] }, type := 3, pos := _, after := #[{ on := 26, ground := Go.Ground.data }, { on := 25, ground := Go.Ground.chain }, { on := 25, ground := Go.Ground.guard }], guard := some (25, false) }) rfl (fun K hK => ?_) AllReadyH.nil
            go_simp
            refine (len a r _ L2 _ D3.out.wr).mono ?_
            rintro e w4 ⟨rfl, h4⟩
            rw [h4]
            clear h4 w4
            go_wp2_with fail
            refine hK.out _ _ ?_ (fun hHeld9 => ?_)
            · exact HCS.out _ D3.out.below
            clear hK K
            (try simp only [Act.put, List.setIfInBounds_toArray, List.set_cons_zero, List.set_cons_succ])
            refine wpAnyH_take (i := 33) (oi := { dst := some 58, op := Go.Op.binOp Go.BinOp.neq 3 (Go.Operand.tmp 52) (Go.Operand.tmp 57) 3, type := 4, pos := _, after := #[{ on := 27, ground := Go.Ground.data }, { on := 32, ground := Go.Ground.data }, { on := 25, ground := Go.Ground.guard }], guard := some (25, false) }) (v := ?_) rfl (by kernel_rfl) (by kernel_rfl) (by kernel_rfl) (fun _ _ _ h => h) (Or.inl ⟨by rfl, ?_⟩) (by assumption) ?_
            rotate_left
            · intro w hSw; (try dsimp only at hSw); go_simp <;> first | with_reducible rfl | (rw [if_neg (by first | omega | (simp only [ByteArray.size_append] at *; omega))])
            (try simp only [Act.put, List.setIfInBounds_toArray, List.set_cons_zero, List.set_cons_succ])
            refine wpAnyH_take (i := 34) (oi := { dst := some 59, op := Go.Op.pick (Go.Operand.tmp 50) (Go.Operand.const (Go.Value.bool true)) (Go.Operand.tmp 58), type := 4, pos := _, after := #[{ on := 25, ground := Go.Ground.data }, { on := 33, ground := Go.Ground.data }], guard := none }) (v := ?_) rfl (by kernel_rfl) (by kernel_rfl) (by kernel_rfl) (fun _ _ _ h => h) (Or.inl ⟨by rfl, ?_⟩) (by assumption) ?_
            rotate_left
            · intro w hSw; (try dsimp only at hSw); go_simp <;> first | with_reducible rfl | (rw [if_neg (by first | omega | (simp only [ByteArray.size_append] at *; omega))])
            (try simp only [Act.put, List.setIfInBounds_toArray, List.set_cons_zero, List.set_cons_succ])
            refine wpAnyH_done (by kernel_rfl) ?_ _
            have hL2 : (L2).length ≤ 64 * (n + 1) := by have := HL2.out; omega
            obtain ⟨M, hM⟩ : ∃ M, M = ((L2).length + 7) / 8 := ⟨_, rfl⟩
            have HM := hid hM
            have hM5 : M ≤ 20000 := by omega
            clear hM
            go_wp2_with (fail)
            refine (bytes a r _ (L2) _ D3.out.wr (by omega)).mono ?_
            rintro e w5 ⟨he, hBlk, hb5⟩
            rw [pack_length, ← HM.out] at he
            subst he
            have D5 := hid (D3.out.keep hb5)
            have hgn := D3.out.glt
            have hgv := D3.out.vlt
            have hgm := D3.out.mlt
            have hgw := D3.out.below.size
            obtain ⟨g, hg⟩ : ∃ g, g = w3.heap.size := ⟨_, rfl⟩
            rw [← hg] at hBlk hgn hgv hgm hgw
            rw [← hg]
            have HG5 := hid (show g < w5.heap.size from (Array.getElem?_eq_some_iff.1 hBlk).1)
            have HG := hid (And.intro hgn (And.intro hgv (And.intro hgm hgw)))
            have HBLK := hid hBlk
            clear hg hb5 hBlk hgn hgv hgm hgw D3
            go_wp2_with (fail)
            refine (refbytes m _ (L2) _ D5.out.ref (by omega)).mono ?_
            rintro e w6 ⟨he, hEl, hb6⟩
            rw [← HM.out] at he hEl
            subst he
            have D6 := hid (D5.out.keep hb6)
            have HB6 : Hid (Blk w6 g (pack (L2))) := hid ((hb6.block g HG5.out).trans HBLK.out)
            have HEL := hid hEl
            have HE1 : Hid (Elems w6 (some ⟨g, 0, none⟩) M (pack (L2))) := hid (by
              have h := HB6.out.elems (pack_bytes (L2)) (by rw [pack_length]; omega)
              rwa [pack_length, ← HM.out] at h)
            obtain ⟨g6, hg6⟩ : ∃ g6, g6 = w5.heap.size := ⟨_, rfl⟩
            rw [← hg6] at HEL
            rw [← hg6]
            clear hb6 hEl D5 HBLK hg6 HG5
            go_wp2_with (fail)
            refine (same_b _ _ _ _ _ (pack (L2)) _ HE1.out HEL.out).mono ?_
            rintro e w7 ⟨rfl, hb7⟩
            have D7 := hid (D6.out.keep hb7)
            have hO6 := HB6.out.own (by rw [pack_length]; unfold maxLen; omega)
            rw [pack_length, ← HM.out] at hO6
            have HO7 := hid (hO6.same (hb7.block g hO6.lt))
            clear hb7 D6 HE1 HEL HB6 hO6
            go_wp2_with (fail)
            refine (keepB bk n _ _ g M _ D7.out.book (by omega)).mono ?_
            rintro e w8 ⟨⟨u, rfl⟩, vb', hB8, hp8⟩
            have D8 := hid (D7.out.more hB8 hp8 HO7.out HG.out.2.2.2 (fun i hi e => by have := HG.out.1 i hi; omega) (fun e => by have := HG.out.2.1 g e; omega) (fun e => by have := HG.out.2.2.1 g e; omega) (by omega))
            clear hB8 hp8
            go_wp2_with (fail)
            go_roundw
            case rel => exact ⟨n + 1, _, _, _, _, _, _, by omega, by go_num, D8, hL2⟩
            case measure => simp [intOf]; omega
        · have HBAD := hid hbad
          clear hbad
          go_wp2_with (fail)
          refine wp_region_held_drew (S := fun W => W.cell? ⟨b, o + n * 2, none⟩ = some (.int .u64 (N : Int)) ∧ W.cell? ⟨b, o + n * 2 + 1, none⟩ = some (.int .i64 kk)) (by kernel_rfl) ?_ (fun hHeld => ?_)
          · exact HCS.out _ D1.out.below
          refine wpAnyH_take (i := 0) (oi := { dst := some 25, op := Go.Op.move (Go.Operand.tmp 3), type := 23, pos := _, after := #[], guard := none }) (v := ?_) rfl (by kernel_rfl) (by kernel_rfl) (by kernel_rfl) (fun _ _ _ h => h) (Or.inl ⟨by rfl, ?_⟩) (by assumption) ?_
          rotate_left
          · intro w hSw; (try dsimp only at hSw); go_simp <;> first | with_reducible rfl | (rw [if_neg (by first | omega | (simp only [ByteArray.size_append] at *; omega))])
          (try simp only [Act.put, List.setIfInBounds_toArray, List.set_cons_zero, List.set_cons_succ])
          refine wpAnyH_take (i := 1) (oi := { dst := some 26, op := Go.Op.move (Go.Operand.tmp 0), type := 22, pos := _, after := #[], guard := none }) (v := ?_) rfl (by kernel_rfl) (by kernel_rfl) (by kernel_rfl) (fun _ _ _ h => h) (Or.inl ⟨by rfl, ?_⟩) (by assumption) ?_
          rotate_left
          · intro w hSw; (try dsimp only at hSw); go_simp <;> first | with_reducible rfl | (rw [if_neg (by first | omega | (simp only [ByteArray.size_append] at *; omega))])
          (try simp only [Act.put, List.setIfInBounds_toArray, List.set_cons_zero, List.set_cons_succ])
          refine wpAnyH_take (i := 2) (oi := { dst := some 27, op := Go.Op.move (Go.Operand.tmp 6), type := 3, pos := _, after := #[], guard := none }) (v := ?_) rfl (by kernel_rfl) (by kernel_rfl) (by kernel_rfl) (fun _ _ _ h => h) (Or.inl ⟨by rfl, ?_⟩) (by assumption) ?_
          rotate_left
          · intro w hSw; (try dsimp only at hSw); go_simp <;> first | with_reducible rfl | (rw [if_neg (by first | omega | (simp only [ByteArray.size_append] at *; omega))])
          (try simp only [Act.put, List.setIfInBounds_toArray, List.set_cons_zero, List.set_cons_succ])
          refine wpAnyH_take (i := 3) (oi := { dst := some 28, op := Go.Op.indexAddr 22 (Go.Operand.tmp 26) (Go.Operand.tmp 27), type := 0, pos := _, after := #[{ on := 1, ground := Go.Ground.data }, { on := 2, ground := Go.Ground.data }], guard := none }) (v := ?_) rfl (by kernel_rfl) (by kernel_rfl) (by kernel_rfl) (fun _ _ _ h => h) (Or.inl ⟨by rfl, ?_⟩) (by assumption) ?_
          rotate_left
          · intro w hSw; (try dsimp only at hSw); go_simp <;> first | with_reducible rfl | (rw [if_neg (by first | omega | (simp only [ByteArray.size_append] at *; omega))])
          (try simp only [Act.put, List.setIfInBounds_toArray, List.set_cons_zero, List.set_cons_succ])
          refine wpAnyH_take (i := 4) (oi := { dst := some 29, op := Go.Op.fieldAddr 52 (Go.Operand.tmp 28) 0, type := 0, pos := _, after := #[{ on := 3, ground := Go.Ground.data }], guard := none }) (v := ?_) rfl (by kernel_rfl) (by kernel_rfl) (by kernel_rfl) (fun _ _ _ h => h) (Or.inl ⟨by rfl, ?_⟩) (by assumption) ?_
          rotate_left
          · intro w hSw; (try dsimp only at hSw); go_simp <;> first | with_reducible rfl | (rw [if_neg (by first | omega | (simp only [ByteArray.size_append] at *; omega))])
          (try simp only [Act.put, List.setIfInBounds_toArray, List.set_cons_zero, List.set_cons_succ])
          refine wpAnyH_take (i := 5) (oi := { dst := some 30, op := Go.Op.load 50 (Go.Operand.tmp 29), type := 50, pos := _, after := #[{ on := 4, ground := Go.Ground.data }], guard := none }) (v := ?_) rfl (by kernel_rfl) (by kernel_rfl) (by kernel_rfl) (fun _ _ _ h => h) (Or.inl ⟨by rfl, ?_⟩) (by assumption) ?_
          rotate_left
          · intro w hSw; (try dsimp only at hSw); go_simp <;> first | with_reducible rfl | (rw [if_neg (by first | omega | (simp only [ByteArray.size_append] at *; omega))])
          (try simp only [Act.put, List.setIfInBounds_toArray, List.set_cons_zero, List.set_cons_succ])
          refine wpAnyH_take (i := 6) (oi := { dst := some 31, op := Go.Op.move (Go.Operand.tmp 0), type := 22, pos := _, after := #[], guard := none }) (v := ?_) rfl (by kernel_rfl) (by kernel_rfl) (by kernel_rfl) (fun _ _ _ h => h) (Or.inl ⟨by rfl, ?_⟩) (by assumption) ?_
          rotate_left
          · intro w hSw; (try dsimp only at hSw); go_simp <;> first | with_reducible rfl | (rw [if_neg (by first | omega | (simp only [ByteArray.size_append] at *; omega))])
          (try simp only [Act.put, List.setIfInBounds_toArray, List.set_cons_zero, List.set_cons_succ])
          refine wpAnyH_take (i := 7) (oi := { dst := some 32, op := Go.Op.move (Go.Operand.tmp 6), type := 3, pos := _, after := #[], guard := none }) (v := ?_) rfl (by kernel_rfl) (by kernel_rfl) (by kernel_rfl) (fun _ _ _ h => h) (Or.inl ⟨by rfl, ?_⟩) (by assumption) ?_
          rotate_left
          · intro w hSw; (try dsimp only at hSw); go_simp <;> first | with_reducible rfl | (rw [if_neg (by first | omega | (simp only [ByteArray.size_append] at *; omega))])
          (try simp only [Act.put, List.setIfInBounds_toArray, List.set_cons_zero, List.set_cons_succ])
          refine wpAnyH_take (i := 8) (oi := { dst := some 33, op := Go.Op.indexAddr 22 (Go.Operand.tmp 31) (Go.Operand.tmp 32), type := 0, pos := _, after := #[{ on := 6, ground := Go.Ground.data }, { on := 7, ground := Go.Ground.data }], guard := none }) (v := ?_) rfl (by kernel_rfl) (by kernel_rfl) (by kernel_rfl) (fun _ _ _ h => h) (Or.inl ⟨by rfl, ?_⟩) (by assumption) ?_
          rotate_left
          · intro w hSw; (try dsimp only at hSw); go_simp <;> first | with_reducible rfl | (rw [if_neg (by first | omega | (simp only [ByteArray.size_append] at *; omega))])
          (try simp only [Act.put, List.setIfInBounds_toArray, List.set_cons_zero, List.set_cons_succ])
          refine wpAnyH_take (i := 9) (oi := { dst := some 34, op := Go.Op.fieldAddr 52 (Go.Operand.tmp 33) 1, type := 0, pos := _, after := #[{ on := 8, ground := Go.Ground.data }], guard := none }) (v := ?_) rfl (by kernel_rfl) (by kernel_rfl) (by kernel_rfl) (fun _ _ _ h => h) (Or.inl ⟨by rfl, ?_⟩) (by assumption) ?_
          rotate_left
          · intro w hSw; (try dsimp only at hSw); go_simp <;> first | with_reducible rfl | (rw [if_neg (by first | omega | (simp only [ByteArray.size_append] at *; omega))])
          (try simp only [Act.put, List.setIfInBounds_toArray, List.set_cons_zero, List.set_cons_succ])
          refine wpAnyH_take (i := 10) (oi := { dst := some 35, op := Go.Op.load 3 (Go.Operand.tmp 34), type := 3, pos := _, after := #[{ on := 9, ground := Go.Ground.data }], guard := none }) (v := ?_) rfl (by kernel_rfl) (by kernel_rfl) (by kernel_rfl) (fun _ _ _ h => h) (Or.inl ⟨by rfl, ?_⟩) (by assumption) ?_
          rotate_left
          · intro w hSw; (try dsimp only at hSw); go_simp <;> first | with_reducible rfl | (rw [if_neg (by first | omega | (simp only [ByteArray.size_append] at *; omega))])
          (try simp only [Act.put, List.setIfInBounds_toArray, List.set_cons_zero, List.set_cons_succ])
          refine wpAnyH_take (i := 12) (oi := { dst := some 37, op := Go.Op.move (Go.Operand.tmp 4), type := 25, pos := _, after := #[], guard := none }) (v := ?_) rfl (by kernel_rfl) (by kernel_rfl) (by kernel_rfl) (fun _ _ _ h => h) (Or.inl ⟨by rfl, ?_⟩) (by assumption) ?_
          rotate_left
          · intro w hSw; (try dsimp only at hSw); go_simp <;> first | with_reducible rfl | (rw [if_neg (by first | omega | (simp only [ByteArray.size_append] at *; omega))])
          (try simp only [Act.put, List.setIfInBounds_toArray, List.set_cons_zero, List.set_cons_succ])
          refine wpAnyH_take (i := 13) (oi := { dst := some 38, op := Go.Op.move (Go.Operand.tmp 0), type := 22, pos := _, after := #[], guard := none }) (v := ?_) rfl (by kernel_rfl) (by kernel_rfl) (by kernel_rfl) (fun _ _ _ h => h) (Or.inl ⟨by rfl, ?_⟩) (by assumption) ?_
          rotate_left
          · intro w hSw; (try dsimp only at hSw); go_simp <;> first | with_reducible rfl | (rw [if_neg (by first | omega | (simp only [ByteArray.size_append] at *; omega))])
          (try simp only [Act.put, List.setIfInBounds_toArray, List.set_cons_zero, List.set_cons_succ])
          refine wpAnyH_take (i := 14) (oi := { dst := some 39, op := Go.Op.move (Go.Operand.tmp 6), type := 3, pos := _, after := #[], guard := none }) (v := ?_) rfl (by kernel_rfl) (by kernel_rfl) (by kernel_rfl) (fun _ _ _ h => h) (Or.inl ⟨by rfl, ?_⟩) (by assumption) ?_
          rotate_left
          · intro w hSw; (try dsimp only at hSw); go_simp <;> first | with_reducible rfl | (rw [if_neg (by first | omega | (simp only [ByteArray.size_append] at *; omega))])
          (try simp only [Act.put, List.setIfInBounds_toArray, List.set_cons_zero, List.set_cons_succ])
          refine wpAnyH_take (i := 15) (oi := { dst := some 40, op := Go.Op.indexAddr 22 (Go.Operand.tmp 38) (Go.Operand.tmp 39), type := 0, pos := _, after := #[{ on := 13, ground := Go.Ground.data }, { on := 14, ground := Go.Ground.data }], guard := none }) (v := ?_) rfl (by kernel_rfl) (by kernel_rfl) (by kernel_rfl) (fun _ _ _ h => h) (Or.inl ⟨by rfl, ?_⟩) (by assumption) ?_
          rotate_left
          · intro w hSw; (try dsimp only at hSw); go_simp <;> first | with_reducible rfl | (rw [if_neg (by first | omega | (simp only [ByteArray.size_append] at *; omega))])
          (try simp only [Act.put, List.setIfInBounds_toArray, List.set_cons_zero, List.set_cons_succ])
          refine wpAnyH_take (i := 16) (oi := { dst := some 41, op := Go.Op.fieldAddr 52 (Go.Operand.tmp 40) 0, type := 0, pos := _, after := #[{ on := 15, ground := Go.Ground.data }], guard := none }) (v := ?_) rfl (by kernel_rfl) (by kernel_rfl) (by kernel_rfl) (fun _ _ _ h => h) (Or.inl ⟨by rfl, ?_⟩) (by assumption) ?_
          rotate_left
          · intro w hSw; (try dsimp only at hSw); go_simp <;> first | with_reducible rfl | (rw [if_neg (by first | omega | (simp only [ByteArray.size_append] at *; omega))])
          (try simp only [Act.put, List.setIfInBounds_toArray, List.set_cons_zero, List.set_cons_succ])
          refine wpAnyH_take (i := 17) (oi := { dst := some 42, op := Go.Op.load 50 (Go.Operand.tmp 41), type := 50, pos := _, after := #[{ on := 16, ground := Go.Ground.data }], guard := none }) (v := ?_) rfl (by kernel_rfl) (by kernel_rfl) (by kernel_rfl) (fun _ _ _ h => h) (Or.inl ⟨by rfl, ?_⟩) (by assumption) ?_
          rotate_left
          · intro w hSw; (try dsimp only at hSw); go_simp <;> first | with_reducible rfl | (rw [if_neg (by first | omega | (simp only [ByteArray.size_append] at *; omega))])
          (try simp only [Act.put, List.setIfInBounds_toArray, List.set_cons_zero, List.set_cons_succ])
          refine wpAnyH_take (i := 18) (oi := { dst := some 43, op := Go.Op.move (Go.Operand.tmp 0), type := 22, pos := _, after := #[], guard := none }) (v := ?_) rfl (by kernel_rfl) (by kernel_rfl) (by kernel_rfl) (fun _ _ _ h => h) (Or.inl ⟨by rfl, ?_⟩) (by assumption) ?_
          rotate_left
          · intro w hSw; (try dsimp only at hSw); go_simp <;> first | with_reducible rfl | (rw [if_neg (by first | omega | (simp only [ByteArray.size_append] at *; omega))])
          (try simp only [Act.put, List.setIfInBounds_toArray, List.set_cons_zero, List.set_cons_succ])
          refine wpAnyH_take (i := 19) (oi := { dst := some 44, op := Go.Op.move (Go.Operand.tmp 6), type := 3, pos := _, after := #[], guard := none }) (v := ?_) rfl (by kernel_rfl) (by kernel_rfl) (by kernel_rfl) (fun _ _ _ h => h) (Or.inl ⟨by rfl, ?_⟩) (by assumption) ?_
          rotate_left
          · intro w hSw; (try dsimp only at hSw); go_simp <;> first | with_reducible rfl | (rw [if_neg (by first | omega | (simp only [ByteArray.size_append] at *; omega))])
          (try simp only [Act.put, List.setIfInBounds_toArray, List.set_cons_zero, List.set_cons_succ])
          refine wpAnyH_take (i := 20) (oi := { dst := some 45, op := Go.Op.indexAddr 22 (Go.Operand.tmp 43) (Go.Operand.tmp 44), type := 0, pos := _, after := #[{ on := 18, ground := Go.Ground.data }, { on := 19, ground := Go.Ground.data }], guard := none }) (v := ?_) rfl (by kernel_rfl) (by kernel_rfl) (by kernel_rfl) (fun _ _ _ h => h) (Or.inl ⟨by rfl, ?_⟩) (by assumption) ?_
          rotate_left
          · intro w hSw; (try dsimp only at hSw); go_simp <;> first | with_reducible rfl | (rw [if_neg (by first | omega | (simp only [ByteArray.size_append] at *; omega))])
          (try simp only [Act.put, List.setIfInBounds_toArray, List.set_cons_zero, List.set_cons_succ])
          refine wpAnyH_take (i := 21) (oi := { dst := some 46, op := Go.Op.fieldAddr 52 (Go.Operand.tmp 45) 1, type := 0, pos := _, after := #[{ on := 20, ground := Go.Ground.data }], guard := none }) (v := ?_) rfl (by kernel_rfl) (by kernel_rfl) (by kernel_rfl) (fun _ _ _ h => h) (Or.inl ⟨by rfl, ?_⟩) (by assumption) ?_
          rotate_left
          · intro w hSw; (try dsimp only at hSw); go_simp <;> first | with_reducible rfl | (rw [if_neg (by first | omega | (simp only [ByteArray.size_append] at *; omega))])
          (try simp only [Act.put, List.setIfInBounds_toArray, List.set_cons_zero, List.set_cons_succ])
          refine wpAnyH_take (i := 22) (oi := { dst := some 47, op := Go.Op.load 3 (Go.Operand.tmp 46), type := 3, pos := _, after := #[{ on := 21, ground := Go.Ground.data }], guard := none }) (v := ?_) rfl (by kernel_rfl) (by kernel_rfl) (by kernel_rfl) (fun _ _ _ h => h) (Or.inl ⟨by rfl, ?_⟩) (by assumption) ?_
          rotate_left
          · intro w hSw; (try dsimp only at hSw); go_simp <;> first | with_reducible rfl | (rw [if_neg (by first | omega | (simp only [ByteArray.size_append] at *; omega))])
          (try simp only [Act.put, List.setIfInBounds_toArray, List.set_cons_zero, List.set_cons_succ])
          refine wpAnyH_ready (rs := [11]) (by kernel_rfl) (by simp) ?_
          refine AllReadyH.cons (o := { dst := some 36, op := Go.Op.call { callee := Go.Callee.value (Go.Operand.func 5), args := #[Go.Operand.tmp 25, Go.Operand.tmp 30, Go.Operand.tmp 35], argTypes := #[23, 50, 3] }, type := 48, pos := _, after := #[{ on := 0, ground := Go.Ground.data }, { on := 5, ground := Go.Ground.data }, { on := 10, ground := Go.Ground.data }], guard := none }) rfl (fun K hK => ?_) AllReadyH.nil
          go_simp
          refine (put_bad a r _ L N kk _ D1.out.wr HBAD.out).mono ?_
          rintro e w2 ⟨rfl, o2, ho2⟩
          have hb2 : Below wq.drew.heap.size wq.drew w2 := by subst ho2; exact below_alloc _ _
          have D2 := hid (D1.out.keep hb2)
          clear ho2 hb2
          go_wp2_with fail
          refine hK.out _ _ ?_ (fun hHeld1 => ?_)
          · exact HCS.out _ D2.out.below
          clear hK K
          (try simp only [Act.put, List.setIfInBounds_toArray, List.set_cons_zero, List.set_cons_succ])
          refine wpAnyH_ready (rs := [23]) (by kernel_rfl) (by simp) ?_
          refine AllReadyH.cons (o := { dst := some 48, op := Go.Op.call { callee := Go.Callee.value (Go.Operand.func 6), args := #[Go.Operand.tmp 37, Go.Operand.tmp 42, Go.Operand.tmp 47], argTypes := #[25, 50, 3] }, type := 48, pos := _, after := #[{ on := 12, ground := Go.Ground.data }, { on := 17, ground := Go.Ground.data }, { on := 22, ground := Go.Ground.data }, { on := 11, ground := Go.Ground.chain }], guard := none }) rfl (fun K hK => ?_) AllReadyH.nil
          go_simp
          refine (refput_bad m N kk _ hN64 HBAD.out).mono ?_
          rintro e w3 ⟨rfl, ho3⟩
          have hb3 : Below w2.heap.size w2 w3 := by rw [ho3]; exact Below.refl _ _
          have D3 := hid (D2.out.keep hb3)
          clear ho3 hb3
          go_wp2_with fail
          refine hK.out _ _ ?_ (fun hHeld2 => ?_)
          · exact HCS.out _ D3.out.below
          clear hK K
          (try simp only [Act.put, List.setIfInBounds_toArray, List.set_cons_zero, List.set_cons_succ])
          obtain ⟨sp, cm, rfl⟩ : ∃ sp cm, vm = .slice sp L.length cm := by
            rcases D3.out.ref.own.2 with ⟨h, h'⟩ | ⟨g, cap, cur, h, _⟩
            · exact ⟨none, 0, by rw [h, h']⟩
            · exact ⟨_, _, h⟩
          have hmc : w3.cell? ⟨m, 0, none⟩ = some (.slice sp L.length cm) := by simp [World.cell?, D3.out.ref.row]
          clear D1 D2 D
          refine wpAnyH_take (i := 24) (oi := { dst := some 49, op := Go.Op.binOp Go.BinOp.neq 48 (Go.Operand.tmp 36) (Go.Operand.tmp 48) 48, type := 4, pos := _, after := #[{ on := 11, ground := Go.Ground.data }, { on := 23, ground := Go.Ground.data }], guard := none }) (v := ?_) rfl (by kernel_rfl) (by kernel_rfl) (by kernel_rfl) (fun _ _ _ h => h) (Or.inl ⟨by rfl, ?_⟩) (by assumption) ?_
          rotate_left
          · intro w hSw; (try dsimp only at hSw); go_simp <;> first | with_reducible rfl | (rw [if_neg (by first | omega | (simp only [ByteArray.size_append] at *; omega))])
          (try simp only [Act.put, List.setIfInBounds_toArray, List.set_cons_zero, List.set_cons_succ])
          refine wpAnyH_take (i := 25) (oi := { dst := some 50, op := Go.Op.move (Go.Operand.tmp 49), type := 4, pos := _, after := #[{ on := 24, ground := Go.Ground.data }, { on := 23, ground := Go.Ground.chain }], guard := none }) (v := ?_) rfl (by kernel_rfl) (by kernel_rfl) (by kernel_rfl) (fun _ _ _ h => h) (Or.inl ⟨by rfl, ?_⟩) (by assumption) ?_
          rotate_left
          · intro w hSw; (try dsimp only at hSw); go_simp <;> first | with_reducible rfl | (rw [if_neg (by first | omega | (simp only [ByteArray.size_append] at *; omega))])
          (try simp only [Act.put, List.setIfInBounds_toArray, List.set_cons_zero, List.set_cons_succ])
          refine wpAnyH_take (i := 26) (oi := { dst := some 51, op := Go.Op.move (Go.Operand.tmp 3), type := 23, pos := _, after := #[{ on := 25, ground := Go.Ground.guard }], guard := some (25, false) }) (v := ?_) rfl (by kernel_rfl) (by kernel_rfl) (by kernel_rfl) (fun _ _ _ h => h) (Or.inl ⟨by rfl, ?_⟩) (by assumption) ?_
          rotate_left
          · intro w hSw; (try dsimp only at hSw); go_simp <;> first | with_reducible rfl | (rw [if_neg (by first | omega | (simp only [ByteArray.size_append] at *; omega))])
          (try simp only [Act.put, List.setIfInBounds_toArray, List.set_cons_zero, List.set_cons_succ])
          refine wpAnyH_take (i := 28) (oi := { dst := some 53, op := Go.Op.move (Go.Operand.tmp 4), type := 25, pos := _, after := #[{ on := 25, ground := Go.Ground.guard }], guard := some (25, false) }) (v := ?_) rfl (by kernel_rfl) (by kernel_rfl) (by kernel_rfl) (fun _ _ _ h => h) (Or.inl ⟨by rfl, ?_⟩) (by assumption) ?_
          rotate_left
          · intro w hSw; (try dsimp only at hSw); go_simp <;> first | with_reducible rfl | (rw [if_neg (by first | omega | (simp only [ByteArray.size_append] at *; omega))])
          (try simp only [Act.put, List.setIfInBounds_toArray, List.set_cons_zero, List.set_cons_succ])
          refine wpAnyH_take (i := 29) (oi := { dst := some 54, op := Go.Op.nilCheck (Go.Operand.tmp 53), type := 0, pos := _, after := #[{ on := 28, ground := Go.Ground.data }, { on := 25, ground := Go.Ground.guard }], guard := some (25, false) }) (v := ?_) rfl (by kernel_rfl) (by kernel_rfl) (by kernel_rfl) (fun _ _ _ h => h) (Or.inl ⟨by rfl, ?_⟩) (by assumption) ?_
          rotate_left
          · intro w hSw; (try dsimp only at hSw); go_simp <;> first | with_reducible rfl | (rw [if_neg (by first | omega | (simp only [ByteArray.size_append] at *; omega))])
          (try simp only [Act.put, List.setIfInBounds_toArray, List.set_cons_zero, List.set_cons_succ])
          refine wpAnyH_take (i := 30) (oi := { dst := some 55, op := Go.Op.fieldAddr 28 (Go.Operand.tmp 54) 0, type := 0, pos := _, after := #[{ on := 29, ground := Go.Ground.data }, { on := 25, ground := Go.Ground.guard }], guard := some (25, false) }) (v := ?_) rfl (by kernel_rfl) (by kernel_rfl) (by kernel_rfl) (fun _ _ _ h => h) (Or.inl ⟨by rfl, ?_⟩) (by assumption) ?_
          rotate_left
          · intro w hSw; (try dsimp only at hSw); go_simp <;> first | with_reducible rfl | (rw [if_neg (by first | omega | (simp only [ByteArray.size_append] at *; omega))])
          (try simp only [Act.put, List.setIfInBounds_toArray, List.set_cons_zero, List.set_cons_succ])
          refine wpAnyH_ready (rs := [27, 31]) (by kernel_rfl) (by simp) ?_
          refine AllReadyH.cons (o := { dst := some 52, op := Go.Op.call { callee := Go.Callee.value (Go.Operand.func 7), args := #[Go.Operand.tmp 51], argTypes := #[23] }, type := 3, pos := _, after := #[{ on := 26, ground := Go.Ground.data }, { on := 25, ground := Go.Ground.chain }, { on := 25, ground := Go.Ground.guard }], guard := some (25, false) }) rfl (fun K hK => ?_) (AllReadyH.cons (o := { dst := some 56, op := Go.Op.load 26 (Go.Operand.tmp 55), type := 26, pos := _, after := #[{ on := 30, ground := Go.Ground.data }, { on := 25, ground := Go.Ground.guard }], guard := some (25, false) }) rfl (fun K hK => ?_) AllReadyH.nil)
          · go_simp
            refine (len a r _ L _ D3.out.wr).mono ?_
            rintro e w4 ⟨rfl, h4⟩
            rw [h4]
            clear h4 w4
            go_wp2_with fail
            refine hK.out _ _ ?_ (fun hHeld8 => ?_)
            · exact HCS.out _ D3.out.below
            clear hK K
            (try simp only [Act.put, List.setIfInBounds_toArray, List.set_cons_zero, List.set_cons_succ])
            refine wpAnyH_ready (rs := [31]) (by kernel_rfl) (by simp) ?_
            refine AllReadyH.cons (o := { dst := some 56, op := Go.Op.load 26 (Go.Operand.tmp 55), type := 26, pos := _, after := #[{ on := 30, ground := Go.Ground.data }, { on := 25, ground := Go.Ground.guard }], guard := some (25, false) }) rfl (fun K hK => ?_) AllReadyH.nil
            go_simp
            refine hK.out _ _ ?_ (fun hHeld9 => ?_)
            · exact HCS.out _ D3.out.below
            clear hK K
            (try simp only [Act.put, List.setIfInBounds_toArray, List.set_cons_zero, List.set_cons_succ])
            refine wpAnyH_take (i := 32) (oi := { dst := some 57, op := Go.Op.call { callee := Go.Callee.builtin Go.Builtin.len, args := #[Go.Operand.tmp 56], argTypes := #[26] }, type := 3, pos := _, after := #[{ on := 31, ground := Go.Ground.data }, { on := 25, ground := Go.Ground.guard }], guard := some (25, false) }) (v := ?_) rfl (by kernel_rfl) (by kernel_rfl) (by kernel_rfl) (fun _ _ _ h => h) (Or.inl ⟨by rfl, ?_⟩) (by assumption) ?_
            rotate_left
            · intro w hSw; (try dsimp only at hSw); go_simp <;> first | with_reducible rfl | (rw [if_neg (by first | omega | (simp only [ByteArray.size_append] at *; omega))])
            (try simp only [Act.put, List.setIfInBounds_toArray, List.set_cons_zero, List.set_cons_succ])
            refine wpAnyH_take (i := 33) (oi := { dst := some 58, op := Go.Op.binOp Go.BinOp.neq 3 (Go.Operand.tmp 52) (Go.Operand.tmp 57) 3, type := 4, pos := _, after := #[{ on := 27, ground := Go.Ground.data }, { on := 32, ground := Go.Ground.data }, { on := 25, ground := Go.Ground.guard }], guard := some (25, false) }) (v := ?_) rfl (by kernel_rfl) (by kernel_rfl) (by kernel_rfl) (fun _ _ _ h => h) (Or.inl ⟨by rfl, ?_⟩) (by assumption) ?_
            rotate_left
            · intro w hSw; (try dsimp only at hSw); go_simp <;> first | with_reducible rfl | (rw [if_neg (by first | omega | (simp only [ByteArray.size_append] at *; omega))])
            (try simp only [Act.put, List.setIfInBounds_toArray, List.set_cons_zero, List.set_cons_succ])
            refine wpAnyH_take (i := 34) (oi := { dst := some 59, op := Go.Op.pick (Go.Operand.tmp 50) (Go.Operand.const (Go.Value.bool true)) (Go.Operand.tmp 58), type := 4, pos := _, after := #[{ on := 25, ground := Go.Ground.data }, { on := 33, ground := Go.Ground.data }], guard := none }) (v := ?_) rfl (by kernel_rfl) (by kernel_rfl) (by kernel_rfl) (fun _ _ _ h => h) (Or.inl ⟨by rfl, ?_⟩) (by assumption) ?_
            rotate_left
            · intro w hSw; (try dsimp only at hSw); go_simp <;> first | with_reducible rfl | (rw [if_neg (by first | omega | (simp only [ByteArray.size_append] at *; omega))])
            (try simp only [Act.put, List.setIfInBounds_toArray, List.set_cons_zero, List.set_cons_succ])
            refine wpAnyH_done (by kernel_rfl) ?_ _
            have hL2 : (L).length ≤ 64 * (n + 1) := by omega
            obtain ⟨M, hM⟩ : ∃ M, M = ((L).length + 7) / 8 := ⟨_, rfl⟩
            have HM := hid hM
            have hM5 : M ≤ 20000 := by omega
            clear hM
            go_wp2_with (fail)
            refine (bytes a r _ (L) _ D3.out.wr (by omega)).mono ?_
            rintro e w5 ⟨he, hBlk, hb5⟩
            rw [pack_length, ← HM.out] at he
            subst he
            have D5 := hid (D3.out.keep hb5)
            have hgn := D3.out.glt
            have hgv := D3.out.vlt
            have hgm := D3.out.mlt
            have hgw := D3.out.below.size
            obtain ⟨g, hg⟩ : ∃ g, g = w3.heap.size := ⟨_, rfl⟩
            rw [← hg] at hBlk hgn hgv hgm hgw
            rw [← hg]
            have HG5 := hid (show g < w5.heap.size from (Array.getElem?_eq_some_iff.1 hBlk).1)
            have HG := hid (And.intro hgn (And.intro hgv (And.intro hgm hgw)))
            have HBLK := hid hBlk
            clear hg hb5 hBlk hgn hgv hgm hgw D3
            go_wp2_with (fail)
            refine (refbytes m _ (L) _ D5.out.ref (by omega)).mono ?_
            rintro e w6 ⟨he, hEl, hb6⟩
            rw [← HM.out] at he hEl
            subst he
            have D6 := hid (D5.out.keep hb6)
            have HB6 : Hid (Blk w6 g (pack (L))) := hid ((hb6.block g HG5.out).trans HBLK.out)
            have HEL := hid hEl
            have HE1 : Hid (Elems w6 (some ⟨g, 0, none⟩) M (pack (L))) := hid (by
              have h := HB6.out.elems (pack_bytes (L)) (by rw [pack_length]; omega)
              rwa [pack_length, ← HM.out] at h)
            obtain ⟨g6, hg6⟩ : ∃ g6, g6 = w5.heap.size := ⟨_, rfl⟩
            rw [← hg6] at HEL
            rw [← hg6]
            clear hb6 hEl D5 HBLK hg6 HG5
            go_wp2_with (fail)
            refine (same_b _ _ _ _ _ (pack (L)) _ HE1.out HEL.out).mono ?_
            rintro e w7 ⟨rfl, hb7⟩
            have D7 := hid (D6.out.keep hb7)
            have hO6 := HB6.out.own (by rw [pack_length]; unfold maxLen; omega)
            rw [pack_length, ← HM.out] at hO6
            have HO7 := hid (hO6.same (hb7.block g hO6.lt))
            clear hb7 D6 HE1 HEL HB6 hO6
            go_wp2_with (fail)
            refine (keepB bk n _ _ g M _ D7.out.book (by omega)).mono ?_
            rintro e w8 ⟨⟨u, rfl⟩, vb', hB8, hp8⟩
            have D8 := hid (D7.out.more hB8 hp8 HO7.out HG.out.2.2.2 (fun i hi e => by have := HG.out.1 i hi; omega) (fun e => by have := HG.out.2.1 g e; omega) (fun e => by have := HG.out.2.2.1 g e; omega) (by omega))
            clear hB8 hp8
            go_wp2_with (fail)
            go_roundw
            case rel => exact ⟨n + 1, _, _, _, _, _, _, by omega, by go_num, D8, hL2⟩
            case measure => simp [intOf]; omega
          · go_simp
            refine hK.out _ _ ?_ (fun hHeld8 => ?_)
            · exact HCS.out _ D3.out.below
            clear hK K
            (try simp only [Act.put, List.setIfInBounds_toArray, List.set_cons_zero, List.set_cons_succ])
            refine wpAnyH_take (i := 32) (oi := { dst := some 57, op := Go.Op.call { callee := Go.Callee.builtin Go.Builtin.len, args := #[Go.Operand.tmp 56], argTypes := #[26] }, type := 3, pos := _, after := #[{ on := 31, ground := Go.Ground.data }, { on := 25, ground := Go.Ground.guard }], guard := some (25, false) }) (v := ?_) rfl (by kernel_rfl) (by kernel_rfl) (by kernel_rfl) (fun _ _ _ h => h) (Or.inl ⟨by rfl, ?_⟩) (by assumption) ?_
            rotate_left
            · intro w hSw; (try dsimp only at hSw); go_simp <;> first | with_reducible rfl | (rw [if_neg (by first | omega | (simp only [ByteArray.size_append] at *; omega))])
            (try simp only [Act.put, List.setIfInBounds_toArray, List.set_cons_zero, List.set_cons_succ])
            refine wpAnyH_ready (rs := [27]) (by kernel_rfl) (by simp) ?_
            refine AllReadyH.cons (o := { dst := some 52, op := Go.Op.call { callee := Go.Callee.value (Go.Operand.func 7), args := #[Go.Operand.tmp 51], argTypes := #[23] }, type := 3, pos := _, after := #[{ on := 26, ground := Go.Ground.data }, { on := 25, ground := Go.Ground.chain }, { on := 25, ground := Go.Ground.guard }], guard := some (25, false) }) rfl (fun K hK => ?_) AllReadyH.nil
            go_simp
            refine (len a r _ L _ D3.out.wr).mono ?_
            rintro e w4 ⟨rfl, h4⟩
            rw [h4]
            clear h4 w4
            go_wp2_with fail
            refine hK.out _ _ ?_ (fun hHeld9 => ?_)
            · exact HCS.out _ D3.out.below
            clear hK K
            (try simp only [Act.put, List.setIfInBounds_toArray, List.set_cons_zero, List.set_cons_succ])
            refine wpAnyH_take (i := 33) (oi := { dst := some 58, op := Go.Op.binOp Go.BinOp.neq 3 (Go.Operand.tmp 52) (Go.Operand.tmp 57) 3, type := 4, pos := _, after := #[{ on := 27, ground := Go.Ground.data }, { on := 32, ground := Go.Ground.data }, { on := 25, ground := Go.Ground.guard }], guard := some (25, false) }) (v := ?_) rfl (by kernel_rfl) (by kernel_rfl) (by kernel_rfl) (fun _ _ _ h => h) (Or.inl ⟨by rfl, ?_⟩) (by assumption) ?_
            rotate_left
            · intro w hSw; (try dsimp only at hSw); go_simp <;> first | with_reducible rfl | (rw [if_neg (by first | omega | (simp only [ByteArray.size_append] at *; omega))])
            (try simp only [Act.put, List.setIfInBounds_toArray, List.set_cons_zero, List.set_cons_succ])
            refine wpAnyH_take (i := 34) (oi := { dst := some 59, op := Go.Op.pick (Go.Operand.tmp 50) (Go.Operand.const (Go.Value.bool true)) (Go.Operand.tmp 58), type := 4, pos := _, after := #[{ on := 25, ground := Go.Ground.data }, { on := 33, ground := Go.Ground.data }], guard := none }) (v := ?_) rfl (by kernel_rfl) (by kernel_rfl) (by kernel_rfl) (fun _ _ _ h => h) (Or.inl ⟨by rfl, ?_⟩) (by assumption) ?_
            rotate_left
            · intro w hSw; (try dsimp only at hSw); go_simp <;> first | with_reducible rfl | (rw [if_neg (by first | omega | (simp only [ByteArray.size_append] at *; omega))])
            (try simp only [Act.put, List.setIfInBounds_toArray, List.set_cons_zero, List.set_cons_succ])
            refine wpAnyH_done (by kernel_rfl) ?_ _
            have hL2 : (L).length ≤ 64 * (n + 1) := by omega
            obtain ⟨M, hM⟩ : ∃ M, M = ((L).length + 7) / 8 := ⟨_, rfl⟩
            have HM := hid hM
            have hM5 : M ≤ 20000 := by omega
            clear hM
            go_wp2_with (fail)
            refine (bytes a r _ (L) _ D3.out.wr (by omega)).mono ?_
            rintro e w5 ⟨he, hBlk, hb5⟩
            rw [pack_length, ← HM.out] at he
            subst he
            have D5 := hid (D3.out.keep hb5)
            have hgn := D3.out.glt
            have hgv := D3.out.vlt
            have hgm := D3.out.mlt
            have hgw := D3.out.below.size
            obtain ⟨g, hg⟩ : ∃ g, g = w3.heap.size := ⟨_, rfl⟩
            rw [← hg] at hBlk hgn hgv hgm hgw
            rw [← hg]
            have HG5 := hid (show g < w5.heap.size from (Array.getElem?_eq_some_iff.1 hBlk).1)
            have HG := hid (And.intro hgn (And.intro hgv (And.intro hgm hgw)))
            have HBLK := hid hBlk
            clear hg hb5 hBlk hgn hgv hgm hgw D3
            go_wp2_with (fail)
            refine (refbytes m _ (L) _ D5.out.ref (by omega)).mono ?_
            rintro e w6 ⟨he, hEl, hb6⟩
            rw [← HM.out] at he hEl
            subst he
            have D6 := hid (D5.out.keep hb6)
            have HB6 : Hid (Blk w6 g (pack (L))) := hid ((hb6.block g HG5.out).trans HBLK.out)
            have HEL := hid hEl
            have HE1 : Hid (Elems w6 (some ⟨g, 0, none⟩) M (pack (L))) := hid (by
              have h := HB6.out.elems (pack_bytes (L)) (by rw [pack_length]; omega)
              rwa [pack_length, ← HM.out] at h)
            obtain ⟨g6, hg6⟩ : ∃ g6, g6 = w5.heap.size := ⟨_, rfl⟩
            rw [← hg6] at HEL
            rw [← hg6]
            clear hb6 hEl D5 HBLK hg6 HG5
            go_wp2_with (fail)
            refine (same_b _ _ _ _ _ (pack (L)) _ HE1.out HEL.out).mono ?_
            rintro e w7 ⟨rfl, hb7⟩
            have D7 := hid (D6.out.keep hb7)
            have hO6 := HB6.out.own (by rw [pack_length]; unfold maxLen; omega)
            rw [pack_length, ← HM.out] at hO6
            have HO7 := hid (hO6.same (hb7.block g hO6.lt))
            clear hb7 D6 HE1 HEL HB6 hO6
            go_wp2_with (fail)
            refine (keepB bk n _ _ g M _ D7.out.book (by omega)).mono ?_
            rintro e w8 ⟨⟨u, rfl⟩, vb', hB8, hp8⟩
            have D8 := hid (D7.out.more hB8 hp8 HO7.out HG.out.2.2.2 (fun i hi e => by have := HG.out.1 i hi; omega) (fun e => by have := HG.out.2.1 g e; omega) (fun e => by have := HG.out.2.2.1 g e; omega) (by omega))
            clear hB8 hp8
            go_wp2_with (fail)
            go_roundw
            case rel => exact ⟨n + 1, _, _, _, _, _, _, by omega, by go_num, D8, hL2⟩
            case measure => simp [intOf]; omega
      · have hnl' : ¬ (n : Int) < (l.length : Int) := by omega
        go_wp2_with (fail)
        obtain ⟨z, hz0⟩ : ∃ z, z = wq.heap.size := ⟨_, rfl⟩
        obtain ⟨Wz, hWz⟩ : ∃ Wz, Wz = wq.alloc (.cells #[.pointer none] 59) := ⟨_, rfl⟩
        have hbz : Below wq.heap.size wq Wz := by rw [hWz]; exact below_alloc _ _
        have hrz : Wz.heap[z]? = some (.cells #[.pointer none] 59 (0, 0)) := by rw [hWz, hz0]; exact heap_alloc_new wq _
        have DZ := hid (D.out.keep hbz)
        have hgz := D.out.glt
        rw [← hWz, ← hz0]
        rw [← hz0] at hgz
        clear hWz hz0 hbz D
        have hap : Calls Tryz.prog 12 #[.pointer (some ⟨bk, 0, none⟩)] Wz fun e w' => e = .returned (.bool true) ∧ Bz z (.cells #[.pointer none] 59 (0, 0)) w w' := by
          rcases DZ.out.book.own.2 with ⟨hvb, hn0⟩ | ⟨gb, cb, cur, hvb, _, hgb, _⟩
          · subst hvb
            exact (apart_none bk n _ Wz DZ.out.book).mono fun e w' ⟨h1, h2⟩ => ⟨h1, by rw [h2]; exact ⟨DZ.out.below, hrz⟩⟩
          · subst hvb
            exact apart z _ w bk gb cb n G mm Wz ⟨DZ.out.book, DZ.out.sep, DZ.out.old, fun i hi => by omega⟩ (by omega) DZ.out.mb DZ.out.lg (DZ.out.lb gb rfl) (fun i hi e => by have := hgz i hi; omega) (ne_ty hrz hgb (by decide)) ⟨DZ.out.below, hrz⟩
        clear DZ hgz hrz
        refine hap.mono ?_
        rintro e w9 ⟨rfl, hB9⟩
        have HB9 := hid hB9
        clear hB9 hap
        go_wp2_with (fail)
        refine (put_nil 0 0 _).mono ?_
        rintro e w10 ⟨rfl, o1, ho1⟩
        have HB10 : Hid (Bz z (.cells #[.pointer none] 59 (0, 0)) w w10) := hid (HB9.out.step (by rw [ho1]; exact below_alloc _ _))
        clear ho1
        go_wp2_with (fail)
        refine (put_zero z 0 0 _ HB10.out.z).mono ?_
        rintro e w11 ⟨rfl, o2, ho2⟩
        have HB11 : Hid (Bz z (.cells #[.pointer none] 59 (0, 0)) w w11) := hid (HB10.out.step (by rw [ho2]; exact below_alloc _ _))
        clear ho2
        go_wp2_with (fail)
        refine (bytes_nil _).mono ?_
        rintro e w12 ⟨rfl, h12⟩
        rw [h12]
        clear h12 w12
        go_wp2_with (fail)
        refine (len_zero z _ HB11.out.z).mono ?_
        rintro e w13 ⟨rfl, h13⟩
        rw [h13]
        clear h13 w13
        go_wp2_with (fail)
        go_ret
        exact ⟨rfl, HB11.out.b⟩
end Go.Proofs.YtfabpjgnmpkleaaGreatDoor.Bits
namespace Go.Proofs.YtfabpjgnmpkleaaGreatDoor.Bits
open Go.ChangeShapes Go.WideShapes Go.ChangeAt Go.RowKit Go.Joins
theorem ownGo : ownKnob Tryz.prog.godebug = none := by kernel_rfl
theorem laidOut : laidOutB Tryz.prog = true := by kernel_rfl
def laidL : List (String × DataW Unit) := [("math/bits.deBruijn32tab", Rows.laid_math_bits_deBruijn32tab), ("math/bits.deBruijn64tab", Rows.laid_math_bits_deBruijn64tab), ("internal/strconv.uint64pow10", Rows.laid_internal_strconv_uint64pow10)]
theorem door_met (os : Os) (args : Array Value) : laidMetH Tryz.prog laidL ((World.doorLaid Tryz.prog 43 os).forCall (fun _ _ => 0) ⟨#[], args, []⟩).memory :=
  laidMetH_of_parts3 (fuel := 8) (laidMet_of_run' 8 (by kernel_rfl) (by kernel_rfl)) (by kernel_rfl) (by kernel_rfl)
theorem wid_of_laid {W : World} (_ : laidMetH Tryz.prog laidL W) : True := trivial
theorem cells3' : Tryz.prog.cellsOf 3 = 1 := by kernel_rfl
theorem cells50' : Tryz.prog.cellsOf 50 = 1 := by kernel_rfl
theorem cells52' : Tryz.prog.cellsOf 52 = 2 := by kernel_rfl
theorem bytes52' : Tryz.prog.bytesOf 52 = 16 := by kernel_rfl
theorem all_mem {H : Type} {P : Program} {e : TypeId} : ∀ {l : List (DataW H)} {i : Nat} {d : DataW H}, l[i]? = some d → ∀ v ∈ d.weights P e, v ∈ DataW.weightsAll P e l
  | [], i, d, h => by simp at h
  | x :: l, 0, d, h => by simp at h; subst h; intro v hv; rw [DataW.weightsAll]; exact List.mem_append_left _ hv
  | x :: l, i + 1, d, h => by simp at h; intro v hv; rw [DataW.weightsAll]; exact List.mem_append_right _ (all_mem h v hv)
theorem add_off (b o n : Nat) : (⟨b, o, none⟩ : Addr).add n = ⟨b, o + n, none⟩ := by unfold Addr.add; split <;> simp_all
abbrev Trd {H : Type} (enc : TypeId × Value → H) (W : World) (n : Nat) (t : TypeId) (cs : List Value) (y : DataW H × List MemPlace) : Prop := DataW.trod enc Tryz.prog W 0 (fun _ => true) true n t cs = some y
theorem view_i64 {H : Type} {enc : TypeId × Value → H} {W : World} {n : Nat} {t : TypeId} {c : Value} {y : DataW H × List MemPlace} (hu : Tryz.prog.underlying t = some (.int .i64)) (h : Trd enc W n t [c] y) : ∃ k : Int, c = .int .i64 k ∧ (-9223372036854775808 ≤ k ∧ k ≤ 9223372036854775807) := by
  obtain ⟨k, e, _, w0⟩ := DataW.trod_int hu h
  simp only [List.cons.injEq, and_true] at e
  subst e
  have hk : -9223372036854775808 ≤ k ∧ k ≤ 9223372036854775807 := by
    simp [Lit.wf, IntKind.min, IntKind.max, IntKind.signed, IntKind.bits] at w0
    omega
  exact ⟨k, rfl, hk⟩
theorem view_row {H : Type} {enc : TypeId × Value → H} {W : World} {n : Nat} {t e : TypeId} {c : Value} {y : DataW H × List MemPlace} (hu : Tryz.prog.underlying t = some (.slice e)) (h : Trd enc W n t [c] y) (hw : ∀ v ∈ y.1.weights Tryz.prog t, v ≤ reachBytes) (hc0 : 0 < Tryz.prog.cellsOf e) :
    ∃ (ao : Option Addr) (len cap : Nat), c = .slice ao len cap ∧ len ≤ cap ∧ len * Tryz.prog.bytesOf e ≤ reachBytes ∧ (len = 0 ∨ ∃ b o, ao = some ⟨b, o, none⟩ ∧ ∀ i, i < len → ∃ l d m, (W.cells? 0 ⟨b, o + i * Tryz.prog.cellsOf e, none⟩ (Tryz.prog.cellsOf e)) = some l ∧ Trd enc W m e l d ∧ ∀ v ∈ d.1.weights Tryz.prog e, v ≤ reachBytes) := by
  rcases DataW.trod_slice hu h with ⟨hc, _⟩ | ⟨a, len, cap, elems, rest, n', hn', hc, hy3, hb, hlc, hcm, hel, helem, hsp, _⟩
  · simp only [List.cons.injEq, and_true] at hc
    exact ⟨none, 0, 0, hc, Nat.le_refl _, by simp [reachBytes], .inl rfl⟩
  · simp only [List.cons.injEq, and_true] at hc
    subst hc
    have hwl : (len + rest.length) * Tryz.prog.bytesOf e ≤ reachBytes := by
      have := hw ((elems.map (·.1)).length + (rest.map (·.1)).length |> (· * Tryz.prog.bytesOf e)) (by rw [hy3]; simp [DataW.weights, hu])
      simpa [hel] using this
    refine ⟨some a, len, cap, rfl, hlc, Nat.le_trans (Nat.mul_le_mul_right _ (by omega)) hwl, ?_⟩
    by_cases h00 : len = 0
    · exact .inl h00
    · right
      have each : ∀ i, i < len → ∃ l d m, (W.cells? 0 (a.add (i * Tryz.prog.cellsOf e)) (Tryz.prog.cellsOf e)) = some l ∧ Trd enc W m e l d ∧ ∀ v ∈ d.1.weights Tryz.prog e, v ≤ reachBytes := fun i hi => by
        have he := helem i hi
        rw [List.getElem?_eq_getElem (by omega)] at he
        obtain ⟨l, hl1, hl2⟩ := Option.bind_eq_some_iff.1 he
        refine ⟨l, _, n', hl1, hl2, fun v hv => hw v ?_⟩
        rw [hy3]
        simp only [DataW.weights, hu]
        refine List.mem_cons_of_mem _ (List.mem_append_left _ (all_mem (i := i) (d := (elems[i]'(by omega)).1) ?_ v hv))
        rw [List.getElem?_map, List.getElem?_eq_getElem (by omega)]
        rfl
      obtain ⟨b, o, sp⟩ := a
      have hspt : sp = none := by
        obtain ⟨l, d, m, hl, _⟩ := each 0 (by omega)
        unfold World.cells? at hl
        rw [if_pos (Nat.zero_le _)] at hl
        obtain ⟨v, _, hf⟩ := Lib.mapM_at hl 0 0 (by simp [hc0])
        simpa [Addr.add] using World.cell?_spot hf
      subst hspt
      exact ⟨b, o, rfl, fun i hi => by have := each i hi; rw [add_off] at this; exact this⟩
theorem cells_at {w : World} {b o c : Nat} {l : List Value} (h : w.cells? 0 ⟨b, o, none⟩ c = some l) : l.length = c ∧ ∀ j, j < c → w.cell? ⟨b, o + j, none⟩ = l[j]? := by
  unfold World.cells? at h
  rw [if_pos (Nat.zero_le _)] at h
  refine ⟨by have := Lib.mapM_length h; simpa using this, fun j hj => ?_⟩
  obtain ⟨v, hb, hf⟩ := Lib.mapM_at h j j (by simp [hj])
  rw [add_off] at hf
  rw [hf, hb]
theorem view_u64 {H : Type} {enc : TypeId × Value → H} {W : World} {n : Nat} {t : TypeId} {c : Value} {y : DataW H × List MemPlace} (hu : Tryz.prog.underlying t = some (.int .u64)) (h : Trd enc W n t [c] y) : ∃ u : Nat, c = .int .u64 (u : Int) ∧ u < 2 ^ 64 := by
  obtain ⟨k, e, _, w0⟩ := DataW.trod_int hu h
  simp only [List.cons.injEq, and_true] at e
  subst e
  have hk : 0 ≤ k ∧ k < 18446744073709551616 := by
    simp [Lit.wf, IntKind.min, IntKind.max, IntKind.signed, IntKind.bits] at w0
    omega
  exact ⟨k.toNat, by rw [Int.toNat_of_nonneg hk.1], by omega⟩
theorem list2 {l : List Value} (h : l.length = 2) : ∃ a b, l = [a, b] := by match l, h with | [a, b], _ => exact ⟨a, b, rfl⟩
theorem viewStep {H : Type} {enc : TypeId × Value → H} {W : World} {n : Nat} {cs : List Value} {y : DataW H × List MemPlace} (h : Trd enc W n 52 cs y) : ∃ x : Nat × Int, cs = [.int .u64 (x.1 : Int), .int .i64 x.2] ∧ x.1 < 2 ^ 64 ∧ -9223372036854775808 ≤ x.2 ∧ x.2 ≤ 9223372036854775807 := by
  obtain ⟨xs, m, hn, hx, hl, hlen, hfs⟩ := DataW.trod_struct Tryz.underlying52 h
  rw [cells52'] at hl
  obtain ⟨c0, c1, rfl⟩ := list2 hl
  match xs, hlen with
  | [y0, y1], _ =>
    have h0 : Trd enc W m 50 [c0] y0 := by simpa [cells50'] using hfs 0 _ rfl
    have h1 : Trd enc W m 3 [c1] y1 := by simpa [cells3', cells50'] using hfs 1 _ rfl
    obtain ⟨u, rfl, k0⟩ := view_u64 Tryz.underlying50 h0
    obtain ⟨k, rfl, k1⟩ := view_i64 Tryz.underlying3 h1
    exact ⟨(u, k), rfl, k0, k1⟩
set_option maxRecDepth 100000 in
theorem viewSt {H : Type} {enc : TypeId × Value → H} {W : World} {r : Reach} {b0 : Nat} {v : Value} {d : DataW H} {p : List MemPlace} {ts : List TypeId} {ds : List (DataW H)} {j : Nat}
    (hv : Value.okWide Tryz.prog W r b0 22 v) (h : DataW.Trod enc Tryz.prog W 0 (fun _ => true) true 22 v d p)
    (hsz : (DataW.weightsEach Tryz.prog ts ds).all (· ≤ reachBytes) = true) (ht : ts[j]? = some 22) (hj : ds[j]? = some d) : ∃ l, StepsAt W l v := by
  obtain ⟨a9, n9, c9, rfl⟩ := okWide_slice Tryz.underlying22 hv
  obtain ⟨fuel, hf⟩ := h
  have hw : ∀ v ∈ d.weights Tryz.prog 22, v ≤ reachBytes := fun v hv => by
    have := List.all_eq_true.1 hsz _ (DataW.weights_mem_each ht hj v hv)
    simpa using this
  obtain ⟨ao, len, cap, e, hlc, hby, hr⟩ := view_row (c := .slice a9 n9 c9) (y := (d, p)) Tryz.underlying22 (by simpa [Value.cells] using hf) hw (by rw [cells52']; omega)
  rw [e]
  rw [cells52'] at hr
  have each : ∀ i, ∃ x : Nat × Int, i < len → (x.1 < 2 ^ 64 ∧ -9223372036854775808 ≤ x.2 ∧ x.2 ≤ 9223372036854775807) ∧ ∃ b o, ao = some ⟨b, o, none⟩ ∧ W.cell? ⟨b, o + i * 2, none⟩ = some (.int .u64 (x.1 : Int)) ∧ W.cell? ⟨b, o + i * 2 + 1, none⟩ = some (.int .i64 x.2) := fun i => by
    by_cases hi : i < len
    · obtain ⟨b, o, rfl, hc⟩ := hr.resolve_left (by omega)
      obtain ⟨l, d, m, hl, ht, _⟩ := hc i hi
      obtain ⟨x, rfl, hx⟩ := viewStep ht
      obtain ⟨_, hcell⟩ := cells_at hl
      exact ⟨x, fun _ => ⟨hx, b, o, rfl, by simpa using hcell 0 (by omega), by simpa using hcell 1 (by omega)⟩⟩
    · exact ⟨(0, 0), fun h => absurd h hi⟩
  obtain ⟨f, hf⟩ := Classical.axiomOfChoice each
  refine ⟨(List.range len).map f, ao, cap, by simp, by simpa using hlc, fun x hx => ?_, ?_⟩
  · obtain ⟨i, hi, rfl⟩ := List.mem_map.1 hx
    exact (hf i (List.mem_range.1 hi)).1
  · by_cases h0 : len = 0
    · exact .inl (by simp [h0])
    · right
      obtain ⟨_, b, o, e, _⟩ := hf 0 (by omega)
      refine ⟨b, o, e, fun i hi => ?_⟩
      obtain ⟨_, b', o', e', hc⟩ := hf i (by simpa using hi)
      rw [e] at e'
      injection e' with e'
      injection e' with e1 e2 _
      subst e1 e2
      simpa using hc
end Go.Proofs.YtfabpjgnmpkleaaGreatDoor.Bits
