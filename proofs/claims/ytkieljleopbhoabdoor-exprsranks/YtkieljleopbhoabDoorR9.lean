/-
  Of two operators without brackets the one of the higher rank goes first: the walk of the law.
-/
import Derived.Test.YtkieljleopbhoabDoorR8
namespace Go.Proofs.YtkieljleopbhoabDoor.Lex
open Go.ChangeShapes Go.WideShapes Go.ChangeAt Go.RowKit Go.Joins
theorem app_bytes (s e : ByteArray) : (s ++ e).data.toList = s.data.toList ++ e.data.toList := by rw [ByteArray.data_append, Array.toList_append]
def plS (si sk : ByteArray) : ByteArray := ⟨#[97, 32]⟩ ++ si ++ ⟨#[32, 98, 32]⟩ ++ sk ++ ⟨#[32, 99]⟩
def fiS (si sk : ByteArray) : ByteArray := ⟨#[40, 97, 32]⟩ ++ si ++ ⟨#[32, 98, 41, 32]⟩ ++ sk ++ ⟨#[32, 99]⟩
def seS (si sk : ByteArray) : ByteArray := ⟨#[97, 32]⟩ ++ si ++ ⟨#[32, 40, 98, 32]⟩ ++ sk ++ ⟨#[32, 99, 41]⟩
/-- What stands behind the line that makes the first one. -/
def Aft9 (w : World) (p1 p2 p3 i k : Nat) (a : Act) (W : World) : Prop := ∃ kl g1 g2, RV w [(kl, #[.int .u8 (opR k : Int), .int .i64 0, .string ⟨#[]⟩, .slice (some ⟨g2, 0, none⟩) 2 2]), (g2, #[.int .u8 (opR i : Int), .int .i64 0, .string ⟨#[]⟩, .slice (some ⟨g1, 0, none⟩) 2 2, .int .u8 3, .int .i64 0, .string ⟨#[99]⟩, .slice none 0 0]), (g1, #[.int .u8 3, .int .i64 0, .string ⟨#[97]⟩, .slice none 0 0, .int .u8 3, .int .i64 0, .string ⟨#[98]⟩, .slice none 0 0]), (p3, #[.int .u8 3, .int .i64 0, .string ⟨#[99]⟩, .slice none 0 0]), (p2, #[.int .u8 3, .int .i64 0, .string ⟨#[98]⟩, .slice none 0 0]), (p1, #[.int .u8 3, .int .i64 0, .string ⟨#[97]⟩, .slice none 0 0])] W ∧ ∃ u0 u1 u2 u3 u20 u21 u22 u23 u24 u25 u26 u27 u28 u29 u30 u31 u32 u33 u34 u35 u36 u37 u38 u39 u40 u41 u42 u43 u44 u45 u46 : Value, a = { tmps := #[u0, u1, u2, u3, .bool false, .slice (some ⟨w.heap.size, 0, none⟩) 12 12, .slice (some ⟨w.heap.size + 1, 0, none⟩) 12 12, .slice (some ⟨w.heap.size + 1 + 1, 0, none⟩) 12 12, .int .i64 (i : Int), .int .i64 (k : Int), .pointer (some ⟨p1, 0, none⟩), .pointer (some ⟨p2, 0, none⟩), .pointer (some ⟨p3, 0, none⟩), .pointer (some ⟨kl, 0, none⟩), undef, undef, undef, undef, undef, undef, u20, u21, u22, u23, u24, u25, u26, u27, u28, u29, u30, u31, u32, u33, u34, u35, u36, u37, u38, u39, u40, u41, u42, u43, u44, u45, u46, undef, undef, undef, undef, undef, undef, undef, undef, undef, undef, undef, undef, undef, undef, undef, undef, undef, undef, undef, undef, undef, undef, undef, undef, undef, undef, undef, undef, undef, undef, undef, undef, undef, undef, undef, undef, undef, undef, undef, undef, undef, undef, undef, undef, undef, undef, undef, undef, undef, undef, undef, undef, undef, undef, undef, undef, undef, undef, undef, undef, undef, undef, undef, undef, undef, undef, undef, undef, undef, undef, undef, undef, undef, undef, undef, undef, undef, undef, undef, undef, undef, undef, undef, undef, undef, undef, undef, undef, undef, undef, undef, undef, undef, undef, undef, undef, undef, undef, undef, undef, undef, undef, undef, undef, undef, undef, undef, undef, undef, undef, undef, undef, undef, undef, undef, undef, undef, undef, undef, undef, undef, undef, undef, undef, undef, undef, undef, undef, undef, undef, undef, undef], defers := [] }
/-- What stands behind the line that makes the second one. -/
def Aft10 (w : World) (p1 p2 p3 kl g1 g2 i k : Nat) (a : Act) (W : World) : Prop := ∃ kr h1 h2, RV w [(kr, #[.int .u8 (opR i : Int), .int .i64 0, .string ⟨#[]⟩, .slice (some ⟨h2, 0, none⟩) 2 2]), (h2, #[.int .u8 3, .int .i64 0, .string ⟨#[97]⟩, .slice none 0 0, .int .u8 (opR k : Int), .int .i64 0, .string ⟨#[]⟩, .slice (some ⟨h1, 0, none⟩) 2 2]), (h1, #[.int .u8 3, .int .i64 0, .string ⟨#[98]⟩, .slice none 0 0, .int .u8 3, .int .i64 0, .string ⟨#[99]⟩, .slice none 0 0]), (kl, #[.int .u8 (opR k : Int), .int .i64 0, .string ⟨#[]⟩, .slice (some ⟨g2, 0, none⟩) 2 2]), (g2, #[.int .u8 (opR i : Int), .int .i64 0, .string ⟨#[]⟩, .slice (some ⟨g1, 0, none⟩) 2 2, .int .u8 3, .int .i64 0, .string ⟨#[99]⟩, .slice none 0 0]), (g1, #[.int .u8 3, .int .i64 0, .string ⟨#[97]⟩, .slice none 0 0, .int .u8 3, .int .i64 0, .string ⟨#[98]⟩, .slice none 0 0]), (p3, #[.int .u8 3, .int .i64 0, .string ⟨#[99]⟩, .slice none 0 0]), (p2, #[.int .u8 3, .int .i64 0, .string ⟨#[98]⟩, .slice none 0 0]), (p1, #[.int .u8 3, .int .i64 0, .string ⟨#[97]⟩, .slice none 0 0])] W ∧ ∃ u0 u1 u2 u3 u20 u21 u22 u23 u24 u25 u26 u27 u28 u29 u30 u31 u32 u33 u34 u35 u36 u37 u38 u39 u40 u41 u42 u43 u44 u45 u46 u47 u48 u49 u50 u51 u52 u53 u54 u55 u56 u57 u58 u59 u60 u61 : Value, a = { tmps := #[u0, u1, u2, u3, .bool false, .slice (some ⟨w.heap.size, 0, none⟩) 12 12, .slice (some ⟨w.heap.size + 1, 0, none⟩) 12 12, .slice (some ⟨w.heap.size + 1 + 1, 0, none⟩) 12 12, .int .i64 (i : Int), .int .i64 (k : Int), .pointer (some ⟨p1, 0, none⟩), .pointer (some ⟨p2, 0, none⟩), .pointer (some ⟨p3, 0, none⟩), .pointer (some ⟨kl, 0, none⟩), .pointer (some ⟨kr, 0, none⟩), undef, undef, undef, undef, undef, u20, u21, u22, u23, u24, u25, u26, u27, u28, u29, u30, u31, u32, u33, u34, u35, u36, u37, u38, u39, u40, u41, u42, u43, u44, u45, u46, u47, u48, u49, u50, u51, u52, u53, u54, u55, u56, u57, u58, u59, u60, u61, undef, undef, undef, undef, undef, undef, undef, undef, undef, undef, undef, undef, undef, undef, undef, undef, undef, undef, undef, undef, undef, undef, undef, undef, undef, undef, undef, undef, undef, undef, undef, undef, undef, undef, undef, undef, undef, undef, undef, undef, undef, undef, undef, undef, undef, undef, undef, undef, undef, undef, undef, undef, undef, undef, undef, undef, undef, undef, undef, undef, undef, undef, undef, undef, undef, undef, undef, undef, undef, undef, undef, undef, undef, undef, undef, undef, undef, undef, undef, undef, undef, undef, undef, undef, undef, undef, undef, undef, undef, undef, undef, undef, undef, undef, undef, undef, undef, undef, undef, undef, undef, undef, undef, undef, undef, undef, undef, undef, undef, undef, undef, undef, undef, undef, undef, undef, undef], defers := [] }
set_option maxRecDepth 100000 in
set_option maxHeartbeats 16000000 in
theorem walk5 (n m : Nat) (w : World) (A : AEnv w) (hn8 : n < 256) (hm8 : m < 256) : Calls Tryd.prog 5 #[.int .u8 (n : Int), .int .u8 (m : Int)] w fun e w' => e = .returned (.bool true) ∧ Below w.heap.size w w' := by
  have HA := hid A
  obtain ⟨i, hi, hin⟩ : ∃ i : Nat, i < 12 ∧ Int.tmod (n : Int) 12 = (i : Int) := ⟨n % 12, Nat.mod_lt _ (by omega), by rw [show (12 : Int) = ((12 : Nat) : Int) from rfl, Int.ofNat_tmod]⟩
  obtain ⟨k, hk, hkm⟩ : ∃ k : Nat, k < 12 ∧ Int.tmod (m : Int) 12 = (k : Int) := ⟨m % 12, Nat.mod_lt _ (by omega), by rw [show (12 : Int) = ((12 : Nat) : Int) from rfl, Int.ofNat_tmod]⟩
  have R0 := hid (RV.start w)
  clear A
  go_enter Tryd.func5, Tryd.ntmps5
  go_wp2_with (fail)
  refine (name_at ⟨#[97]⟩ _).mono ?_
  rintro e w1 ⟨rfl, b1⟩
  have R1 := hid ((R0.out.step b1).push #[.int .u8 3, .int .i64 0, .string ⟨#[97]⟩, .slice none 0 0])
  clear b1
  go_wp2_with (fail)
  refine (name_at ⟨#[98]⟩ _).mono ?_
  rintro e w2 ⟨rfl, b2⟩
  have R2 := hid ((R1.out.step b2).push #[.int .u8 3, .int .i64 0, .string ⟨#[98]⟩, .slice none 0 0])
  clear b2
  go_wp2_with (fail)
  refine (name_at ⟨#[99]⟩ _).mono ?_
  rintro e w3 ⟨rfl, b3⟩
  have R9 := hid ((R2.out.step b3).push #[.int .u8 3, .int .i64 0, .string ⟨#[99]⟩, .slice none 0 0])
  clear b3 hin hkm R0 R1 R2
  have hi' : (i : Int) < 12 := by omega
  have hk' : (k : Int) < 12 := by omega
  have hi0 : (0 : Int) ≤ (i : Int) := by omega
  have hk0 : (0 : Int) ≤ (k : Int) := by omega
  have SA : ∀ V, RV w [(w3.heap.size, #[.int .u8 3, .int .i64 0, .string ⟨#[99]⟩, .slice none 0 0]), (w2.heap.size, #[.int .u8 3, .int .i64 0, .string ⟨#[98]⟩, .slice none 0 0]), (w1.heap.size, #[.int .u8 3, .int .i64 0, .string ⟨#[97]⟩, .slice none 0 0])] V → (fun V => V.cell? ⟨w1.heap.size, 0, none⟩ = some (.int .u8 3) ∧ V.cell? ⟨w1.heap.size, 1, none⟩ = some (.int .i64 0) ∧ V.cell? ⟨w1.heap.size, 2, none⟩ = some (.string ⟨#[97]⟩) ∧ V.cell? ⟨w1.heap.size, 3, none⟩ = some (.slice none 0 0) ∧ V.cell? ⟨w2.heap.size, 0, none⟩ = some (.int .u8 3) ∧ V.cell? ⟨w2.heap.size, 1, none⟩ = some (.int .i64 0) ∧ V.cell? ⟨w2.heap.size, 2, none⟩ = some (.string ⟨#[98]⟩) ∧ V.cell? ⟨w2.heap.size, 3, none⟩ = some (.slice none 0 0) ∧ V.cell? ⟨w3.heap.size, 0, none⟩ = some (.int .u8 3) ∧ V.cell? ⟨w3.heap.size, 1, none⟩ = some (.int .i64 0) ∧ V.cell? ⟨w3.heap.size, 2, none⟩ = some (.string ⟨#[99]⟩) ∧ V.cell? ⟨w3.heap.size, 3, none⟩ = some (.slice none 0 0) ∧ V.cell? ⟨w.heap.size, i, none⟩ = some (.int .u8 (opR i : Int)) ∧ V.cell? ⟨w.heap.size, k, none⟩ = some (.int .u8 (opR k : Int))) V := fun V h => by
    obtain ⟨x0, x1, x2, x3⟩ := h.row4 w1.heap.size (.int .u8 3) (.int .i64 0) (.string ⟨#[97]⟩) (.slice none 0 0) (by simp)
    obtain ⟨y0, y1, y2, y3⟩ := h.row4 w2.heap.size (.int .u8 3) (.int .i64 0) (.string ⟨#[98]⟩) (.slice none 0 0) (by simp)
    obtain ⟨z0, z1, z2, z3⟩ := h.row4 w3.heap.size (.int .u8 3) (.int .i64 0) (.string ⟨#[99]⟩) (.slice none 0 0) (by simp)
    exact ⟨x0, x1, x2, x3, y0, y1, y2, y3, z0, z1, z2, z3, h.op hi, h.op hk⟩
  go_wp2_with (fail)
  generalize w3.alloc (.cells #[.int .u8 3, .int .i64 0, .string ⟨#[99]⟩, .slice none 0 0] 26) = W9 at *
  have R9d := hid R9.out.drew
  have l1 := R9.out.lt (b := w1.heap.size) (c := #[.int .u8 3, .int .i64 0, .string ⟨#[97]⟩, .slice none 0 0]) (by simp)
  have l2 := R9.out.lt (b := w2.heap.size) (c := #[.int .u8 3, .int .i64 0, .string ⟨#[98]⟩, .slice none 0 0]) (by simp)
  have l3 := R9.out.lt (b := w3.heap.size) (c := #[.int .u8 3, .int .i64 0, .string ⟨#[99]⟩, .slice none 0 0]) (by simp)
  have l0 := R9.out.big
  refine wp_mono (Q := Exit.then (Aft9 w w1.heap.size w2.heap.size w3.heap.size i k) (fun _ _ _ => False)) ?reg ?go
  case reg =>
    refine wp_region_held_drew (S := fun V => V.cell? ⟨w1.heap.size, 0, none⟩ = some (.int .u8 3) ∧ V.cell? ⟨w1.heap.size, 1, none⟩ = some (.int .i64 0) ∧ V.cell? ⟨w1.heap.size, 2, none⟩ = some (.string ⟨#[97]⟩) ∧ V.cell? ⟨w1.heap.size, 3, none⟩ = some (.slice none 0 0) ∧ V.cell? ⟨w2.heap.size, 0, none⟩ = some (.int .u8 3) ∧ V.cell? ⟨w2.heap.size, 1, none⟩ = some (.int .i64 0) ∧ V.cell? ⟨w2.heap.size, 2, none⟩ = some (.string ⟨#[98]⟩) ∧ V.cell? ⟨w2.heap.size, 3, none⟩ = some (.slice none 0 0) ∧ V.cell? ⟨w3.heap.size, 0, none⟩ = some (.int .u8 3) ∧ V.cell? ⟨w3.heap.size, 1, none⟩ = some (.int .i64 0) ∧ V.cell? ⟨w3.heap.size, 2, none⟩ = some (.string ⟨#[99]⟩) ∧ V.cell? ⟨w3.heap.size, 3, none⟩ = some (.slice none 0 0) ∧ V.cell? ⟨w.heap.size, i, none⟩ = some (.int .u8 (opR i : Int)) ∧ V.cell? ⟨w.heap.size, k, none⟩ = some (.int .u8 (opR k : Int))) (by kernel_rfl) ?_ (fun hHeld => ?_)
    · exact SA _ (R9.out.drew.less (by simp))
    refine wpAnyH_take (i := 0) (oi := { dst := some 32, op := Go.Op.move (Go.Operand.tmp 5), type := 43, pos := _, after := #[], guard := none }) (v := ?_) rfl (by kernel_rfl) (by kernel_rfl) (by kernel_rfl) (fun _ _ _ h => h) (Or.inl ⟨by rfl, ?_⟩) (by assumption) ?_
    rotate_left
    · intro w hSw; (try dsimp only at hSw); go_simp <;> first | with_reducible rfl | (rw [if_neg (by omega)])
    simp only [Act.put, List.setIfInBounds_toArray, List.set_cons_zero, List.set_cons_succ]
    refine wpAnyH_take (i := 1) (oi := { dst := some 33, op := Go.Op.move (Go.Operand.tmp 9), type := 3, pos := _, after := #[], guard := none }) (v := ?_) rfl (by kernel_rfl) (by kernel_rfl) (by kernel_rfl) (fun _ _ _ h => h) (Or.inl ⟨by rfl, ?_⟩) (by assumption) ?_
    rotate_left
    · intro w hSw; (try dsimp only at hSw); go_simp <;> first | with_reducible rfl | (rw [if_neg (by omega)])
    simp only [Act.put, List.setIfInBounds_toArray, List.set_cons_zero, List.set_cons_succ]
    refine wpAnyH_take (i := 2) (oi := { dst := some 34, op := Go.Op.indexAddr 43 (Go.Operand.tmp 32) (Go.Operand.tmp 33), type := 0, pos := _, after := #[{ on := 0, ground := Go.Ground.data }, { on := 1, ground := Go.Ground.data }], guard := none }) (v := ?_) rfl (by kernel_rfl) (by kernel_rfl) (by kernel_rfl) (fun _ _ _ h => h) (Or.inl ⟨by rfl, ?_⟩) (by assumption) ?_
    rotate_left
    · intro w hSw; (try dsimp only at hSw); go_simp <;> first | with_reducible rfl | (rw [if_neg (by omega)])
    simp only [Act.put, List.setIfInBounds_toArray, List.set_cons_zero, List.set_cons_succ]
    refine wpAnyH_take (i := 3) (oi := { dst := some 35, op := Go.Op.load 23 (Go.Operand.tmp 34), type := 23, pos := _, after := #[{ on := 2, ground := Go.Ground.data }], guard := none }) (v := ?_) rfl (by kernel_rfl) (by kernel_rfl) (by kernel_rfl) (fun _ _ _ h => h) (Or.inl ⟨by rfl, ?_⟩) (by assumption) ?_
    rotate_left
    · intro w hSw; (try dsimp only at hSw); go_simp <;> first | with_reducible rfl | (rw [if_neg (by omega)])
    simp only [Act.put, List.setIfInBounds_toArray, List.set_cons_zero, List.set_cons_succ]
    refine wpAnyH_take (i := 4) (oi := { dst := some 36, op := Go.Op.move (Go.Operand.tmp 5), type := 43, pos := _, after := #[], guard := none }) (v := ?_) rfl (by kernel_rfl) (by kernel_rfl) (by kernel_rfl) (fun _ _ _ h => h) (Or.inl ⟨by rfl, ?_⟩) (by assumption) ?_
    rotate_left
    · intro w hSw; (try dsimp only at hSw); go_simp <;> first | with_reducible rfl | (rw [if_neg (by omega)])
    simp only [Act.put, List.setIfInBounds_toArray, List.set_cons_zero, List.set_cons_succ]
    refine wpAnyH_take (i := 5) (oi := { dst := some 37, op := Go.Op.move (Go.Operand.tmp 8), type := 3, pos := _, after := #[], guard := none }) (v := ?_) rfl (by kernel_rfl) (by kernel_rfl) (by kernel_rfl) (fun _ _ _ h => h) (Or.inl ⟨by rfl, ?_⟩) (by assumption) ?_
    rotate_left
    · intro w hSw; (try dsimp only at hSw); go_simp <;> first | with_reducible rfl | (rw [if_neg (by omega)])
    simp only [Act.put, List.setIfInBounds_toArray, List.set_cons_zero, List.set_cons_succ]
    refine wpAnyH_take (i := 6) (oi := { dst := some 38, op := Go.Op.indexAddr 43 (Go.Operand.tmp 36) (Go.Operand.tmp 37), type := 0, pos := _, after := #[{ on := 4, ground := Go.Ground.data }, { on := 5, ground := Go.Ground.data }], guard := none }) (v := ?_) rfl (by kernel_rfl) (by kernel_rfl) (by kernel_rfl) (fun _ _ _ h => h) (Or.inl ⟨by rfl, ?_⟩) (by assumption) ?_
    rotate_left
    · intro w hSw; (try dsimp only at hSw); go_simp <;> first | with_reducible rfl | (rw [if_neg (by omega)])
    simp only [Act.put, List.setIfInBounds_toArray, List.set_cons_zero, List.set_cons_succ]
    refine wpAnyH_take (i := 7) (oi := { dst := some 39, op := Go.Op.load 23 (Go.Operand.tmp 38), type := 23, pos := _, after := #[{ on := 6, ground := Go.Ground.data }], guard := none }) (v := ?_) rfl (by kernel_rfl) (by kernel_rfl) (by kernel_rfl) (fun _ _ _ h => h) (Or.inl ⟨by rfl, ?_⟩) (by assumption) ?_
    rotate_left
    · intro w hSw; (try dsimp only at hSw); go_simp <;> first | with_reducible rfl | (rw [if_neg (by omega)])
    simp only [Act.put, List.setIfInBounds_toArray, List.set_cons_zero, List.set_cons_succ]
    refine wpAnyH_take (i := 8) (oi := { dst := some 40, op := Go.Op.load 26 (Go.Operand.tmp 10), type := 26, pos := _, after := #[], guard := none }) (v := ?_) rfl (by kernel_rfl) (by kernel_rfl) (by kernel_rfl) (fun _ _ _ h => h) (Or.inl ⟨by rfl, ?_⟩) (by assumption) ?_
    rotate_left
    · intro w hSw; (try dsimp only at hSw); go_simp <;> first | with_reducible rfl | (rw [if_neg (by omega)])
    simp only [Act.put, List.setIfInBounds_toArray, List.set_cons_zero, List.set_cons_succ]
    refine wpAnyH_take (i := 9) (oi := { dst := some 41, op := Go.Op.load 26 (Go.Operand.tmp 11), type := 26, pos := _, after := #[], guard := none }) (v := ?_) rfl (by kernel_rfl) (by kernel_rfl) (by kernel_rfl) (fun _ _ _ h => h) (Or.inl ⟨by rfl, ?_⟩) (by assumption) ?_
    rotate_left
    · intro w hSw; (try dsimp only at hSw); go_simp <;> first | with_reducible rfl | (rw [if_neg (by omega)])
    simp only [Act.put, List.setIfInBounds_toArray, List.set_cons_zero, List.set_cons_succ]
    refine wpAnyH_take (i := 12) (oi := { dst := some 44, op := Go.Op.load 26 (Go.Operand.tmp 12), type := 26, pos := _, after := #[], guard := none }) (v := ?_) rfl (by kernel_rfl) (by kernel_rfl) (by kernel_rfl) (fun _ _ _ h => h) (Or.inl ⟨by rfl, ?_⟩) (by assumption) ?_
    rotate_left
    · intro w hSw; (try dsimp only at hSw); go_simp <;> first | with_reducible rfl | (rw [if_neg (by omega)])
    simp only [Act.put, List.setIfInBounds_toArray, List.set_cons_zero, List.set_cons_succ]
    refine wpAnyH_ready (rs := [10, 15]) (by kernel_rfl) (by simp) ?_
    refine AllReadyH.cons (o := { dst := some 42, op := Go.Op.buildSlice 24 2 #[(0, Go.Operand.tmp 40), (1, Go.Operand.tmp 41)], type := 24, pos := _, after := #[{ on := 8, ground := Go.Ground.data }, { on := 9, ground := Go.Ground.data }], guard := none }) rfl (fun K hK => ?_) (AllReadyH.cons (o := { dst := some 13, op := Go.Op.alloc 26, type := 0, pos := _, after := #[], guard := none }) rfl (fun K hK => ?_) AllReadyH.nil)
    · refine if_take (by rfl) ?_
      obtain ⟨ie, hie, hz, hsz⟩ := inf25
      refine wp_buildSlice 24 26 2 _ rfl #[.int .u8 3, .int .i64 0, .string ⟨#[97]⟩, .slice none 0 0, .int .u8 3, .int .i64 0, .string ⟨#[98]⟩, .slice none 0 0] ie z25 Tryd.underlying24 hie hz (by rw [hsz]; decide) (by rw [hsz]; decide) (by rw [hsz]; simp only [List.map_toArray, List.map_cons, List.map_nil]; exact fill2R _ _ _ _ _ _ _ _) ?_
      clear hie hz hsz
      have R2 := hid (R9d.out.pushAt #[.int .u8 3, .int .i64 0, .string ⟨#[97]⟩, .slice none 0 0, .int .u8 3, .int .i64 0, .string ⟨#[98]⟩, .slice none 0 0] (b := W9.heap.size) (by simp))
      refine hK.out _ _ ?_ (fun hHeld => ?_)
      · exact SA _ (R2.out.less (by simp))
      clear hK K
      simp only [Act.put, List.setIfInBounds_toArray, List.set_cons_zero, List.set_cons_succ]
      refine wpAnyH_ready (rs := [11, 15]) (by kernel_rfl) (by simp) ?_
      refine AllReadyH.cons (o := { dst := some 43, op := Go.Op.call { callee := Go.Callee.value (Go.Operand.func 7), args := #[Go.Operand.tmp 39, Go.Operand.tmp 42], argTypes := #[23, 24] }, type := 26, pos := _, after := #[{ on := 7, ground := Go.Ground.data }, { on := 10, ground := Go.Ground.data }], guard := none }) rfl (fun K hK => ?_) (AllReadyH.cons (o := { dst := some 13, op := Go.Op.alloc 26, type := 0, pos := _, after := #[], guard := none }) rfl (fun K hK => ?_) AllReadyH.nil)
      · go_simp
        refine (of_pl _ _ _ _ _).mono ?_
        rintro e v4 ⟨rfl, b4⟩
        have R4 := hid (R2.out.step b4)
        have s4 : W9.heap.size + 1 ≤ v4.heap.size := by have := b4.size; simpa using this
        go_wp2_with fail
        refine hK.out _ _ ?_ (fun hHeld => ?_)
        · exact SA _ (R4.out.less (by simp))
        clear hK K
        refine wpAnyH_ready (rs := [13, 15]) (by kernel_rfl) (by simp) ?_
        refine AllReadyH.cons (o := { dst := some 45, op := Go.Op.buildSlice 24 2 #[(0, Go.Operand.tmp 43), (1, Go.Operand.tmp 44)], type := 24, pos := _, after := #[{ on := 11, ground := Go.Ground.data }, { on := 12, ground := Go.Ground.data }], guard := none }) rfl (fun K hK => ?_) (AllReadyH.cons (o := { dst := some 13, op := Go.Op.alloc 26, type := 0, pos := _, after := #[], guard := none }) rfl (fun K hK => ?_) AllReadyH.nil)
        · refine if_take (by rfl) ?_
          obtain ⟨ie, hie, hz, hsz⟩ := inf25
          refine wp_buildSlice 24 26 2 _ rfl #[.int .u8 (opR i : Int), .int .i64 0, .string ⟨#[]⟩, .slice (some ⟨W9.heap.size, 0, none⟩) 2 2, .int .u8 3, .int .i64 0, .string ⟨#[99]⟩, .slice none 0 0] ie z25 Tryd.underlying24 hie hz (by rw [hsz]; decide) (by rw [hsz]; decide) (by rw [hsz]; simp only [List.map_toArray, List.map_cons, List.map_nil]; exact fill2R _ _ _ _ _ _ _ _) ?_
          clear hie hz hsz
          have R6 := hid (R4.out.pushAt #[.int .u8 (opR i : Int), .int .i64 0, .string ⟨#[]⟩, .slice (some ⟨W9.heap.size, 0, none⟩) 2 2, .int .u8 3, .int .i64 0, .string ⟨#[99]⟩, .slice none 0 0] (b := v4.heap.size) (by simp))
          refine hK.out _ _ ?_ (fun hHeld => ?_)
          · exact SA _ (R6.out.less (by simp))
          clear hK K
          simp only [Act.put, List.setIfInBounds_toArray, List.set_cons_zero, List.set_cons_succ]
          refine wpAnyH_ready (rs := [14, 15]) (by kernel_rfl) (by simp) ?_
          refine AllReadyH.cons (o := { dst := some 46, op := Go.Op.call { callee := Go.Callee.value (Go.Operand.func 7), args := #[Go.Operand.tmp 35, Go.Operand.tmp 45], argTypes := #[23, 24] }, type := 26, pos := _, after := #[{ on := 3, ground := Go.Ground.data }, { on := 13, ground := Go.Ground.data }, { on := 11, ground := Go.Ground.chain }], guard := none }) rfl (fun K hK => ?_) (AllReadyH.cons (o := { dst := some 13, op := Go.Op.alloc 26, type := 0, pos := _, after := #[], guard := none }) rfl (fun K hK => ?_) AllReadyH.nil)
          · go_simp
            refine (of_pl _ _ _ _ _).mono ?_
            rintro e v8 ⟨rfl, b8⟩
            have R8 := hid (R6.out.step b8)
            have s8 : v4.heap.size + 1 ≤ v8.heap.size := by have := b8.size; simpa using this
            go_wp2_with fail
            refine hK.out _ _ ?_ (fun hHeld => ?_)
            · exact SA _ (R8.out.less (by simp))
            clear hK K
            refine wpAnyH_ready (rs := [15]) (by kernel_rfl) (by simp) ?_
            refine AllReadyH.cons (o := { dst := some 13, op := Go.Op.alloc 26, type := 0, pos := _, after := #[], guard := none }) rfl (fun K hK => ?_) AllReadyH.nil
            · go_simp
              have R10 := hid (R8.out.pushAt c25 (b := v8.heap.size) (by simp))
              refine hK.out _ _ ?_ (fun hHeld => ?_)
              · exact SA _ (R10.out.less (by simp))
              clear hK K
              refine wpAnyH_ready (rs := [16]) (by kernel_rfl) (by simp) ?_
              refine AllReadyH.cons (o := { dst := none, op := Go.Op.store 26 (Go.Operand.tmp 13) (Go.Operand.tmp 46), type := 0, pos := _, after := #[{ on := 15, ground := Go.Ground.data }, { on := 14, ground := Go.Ground.data }, { on := 14, ground := Go.Ground.chain }, { on := 0, ground := Go.Ground.phase }, { on := 1, ground := Go.Ground.phase }, { on := 2, ground := Go.Ground.phase }, { on := 3, ground := Go.Ground.phase }, { on := 4, ground := Go.Ground.phase }, { on := 5, ground := Go.Ground.phase }, { on := 6, ground := Go.Ground.phase }, { on := 7, ground := Go.Ground.phase }, { on := 8, ground := Go.Ground.phase }, { on := 9, ground := Go.Ground.phase }, { on := 10, ground := Go.Ground.phase }, { on := 11, ground := Go.Ground.phase }, { on := 12, ground := Go.Ground.phase }, { on := 13, ground := Go.Ground.phase }, { on := 14, ground := Go.Ground.phase }, { on := 15, ground := Go.Ground.phase }], guard := none }) rfl (fun K hK => ?_) AllReadyH.nil
              · refine if_take (by rfl) ?_
                refine wp_store_row 26 _ _ rfl (v8.heap.size) #[.int .u8 (opR k : Int), .int .i64 0, .string ⟨#[]⟩, .slice (some ⟨v4.heap.size, 0, none⟩) 2 2] rfl rfl 26 _ (R10.out.av.row (v8.heap.size) c25 (by simp)) info25 rfl (by simp [Value.oneCell']) ?_
                have RZ := hid (R10.out.setRow (kl := v8.heap.size) (c0 := c25) (L' := [(v4.heap.size, #[.int .u8 (opR i : Int), .int .i64 0, .string ⟨#[]⟩, .slice (some ⟨W9.heap.size, 0, none⟩) 2 2, .int .u8 3, .int .i64 0, .string ⟨#[99]⟩, .slice none 0 0]), (W9.heap.size, #[.int .u8 3, .int .i64 0, .string ⟨#[97]⟩, .slice none 0 0, .int .u8 3, .int .i64 0, .string ⟨#[98]⟩, .slice none 0 0]), (w3.heap.size, #[.int .u8 3, .int .i64 0, .string ⟨#[99]⟩, .slice none 0 0]), (w2.heap.size, #[.int .u8 3, .int .i64 0, .string ⟨#[98]⟩, .slice none 0 0]), (w1.heap.size, #[.int .u8 3, .int .i64 0, .string ⟨#[97]⟩, .slice none 0 0])]) (by simp) #[.int .u8 (opR k : Int), .int .i64 0, .string ⟨#[]⟩, .slice (some ⟨v4.heap.size, 0, none⟩) 2 2] (fun p hp => by simp only [List.mem_cons, List.not_mem_nil, or_false] at hp; rcases hp with rfl | rfl | rfl | rfl | rfl <;> exact ⟨by simp, by dsimp only; omega⟩) (by omega))
                refine hK.out _ _ ?_ (fun hHeld => ?_)
                · exact SA _ (RZ.out.less (by simp))
                clear hK K
                refine wpAnyH_done (by kernel_rfl) ?_ _
                exact ⟨v8.heap.size, W9.heap.size, v4.heap.size, RZ.out, _, _, _, _, _, _, _, _, _, _, _, _, _, _, _, _, _, _, _, _, _, _, _, _, _, _, _, _, _, _, _, rfl⟩
          · go_simp
            have R13 := hid (R6.out.pushAt c25 (b := v4.heap.size + 1) (by simp))
            refine hK.out _ _ ?_ (fun hHeld => ?_)
            · exact SA _ (R13.out.less (by simp))
            clear hK K
            refine wpAnyH_ready (rs := [14]) (by kernel_rfl) (by simp) ?_
            refine AllReadyH.cons (o := { dst := some 46, op := Go.Op.call { callee := Go.Callee.value (Go.Operand.func 7), args := #[Go.Operand.tmp 35, Go.Operand.tmp 45], argTypes := #[23, 24] }, type := 26, pos := _, after := #[{ on := 3, ground := Go.Ground.data }, { on := 13, ground := Go.Ground.data }, { on := 11, ground := Go.Ground.chain }], guard := none }) rfl (fun K hK => ?_) AllReadyH.nil
            · go_simp
              refine (of_pl _ _ _ _ _).mono ?_
              rintro e v15 ⟨rfl, b15⟩
              have R15 := hid (R13.out.step b15)
              have s15 : v4.heap.size + 1 + 1 ≤ v15.heap.size := by have := b15.size; simpa using this
              go_wp2_with fail
              refine hK.out _ _ ?_ (fun hHeld => ?_)
              · exact SA _ (R15.out.less (by simp))
              clear hK K
              refine wpAnyH_ready (rs := [16]) (by kernel_rfl) (by simp) ?_
              refine AllReadyH.cons (o := { dst := none, op := Go.Op.store 26 (Go.Operand.tmp 13) (Go.Operand.tmp 46), type := 0, pos := _, after := #[{ on := 15, ground := Go.Ground.data }, { on := 14, ground := Go.Ground.data }, { on := 14, ground := Go.Ground.chain }, { on := 0, ground := Go.Ground.phase }, { on := 1, ground := Go.Ground.phase }, { on := 2, ground := Go.Ground.phase }, { on := 3, ground := Go.Ground.phase }, { on := 4, ground := Go.Ground.phase }, { on := 5, ground := Go.Ground.phase }, { on := 6, ground := Go.Ground.phase }, { on := 7, ground := Go.Ground.phase }, { on := 8, ground := Go.Ground.phase }, { on := 9, ground := Go.Ground.phase }, { on := 10, ground := Go.Ground.phase }, { on := 11, ground := Go.Ground.phase }, { on := 12, ground := Go.Ground.phase }, { on := 13, ground := Go.Ground.phase }, { on := 14, ground := Go.Ground.phase }, { on := 15, ground := Go.Ground.phase }], guard := none }) rfl (fun K hK => ?_) AllReadyH.nil
              · refine if_take (by rfl) ?_
                refine wp_store_row 26 _ _ rfl (v4.heap.size + 1) #[.int .u8 (opR k : Int), .int .i64 0, .string ⟨#[]⟩, .slice (some ⟨v4.heap.size, 0, none⟩) 2 2] rfl rfl 26 _ (R15.out.av.row (v4.heap.size + 1) c25 (by simp)) info25 rfl (by simp [Value.oneCell']) ?_
                have RZ := hid (R15.out.setRow (kl := v4.heap.size + 1) (c0 := c25) (L' := [(v4.heap.size, #[.int .u8 (opR i : Int), .int .i64 0, .string ⟨#[]⟩, .slice (some ⟨W9.heap.size, 0, none⟩) 2 2, .int .u8 3, .int .i64 0, .string ⟨#[99]⟩, .slice none 0 0]), (W9.heap.size, #[.int .u8 3, .int .i64 0, .string ⟨#[97]⟩, .slice none 0 0, .int .u8 3, .int .i64 0, .string ⟨#[98]⟩, .slice none 0 0]), (w3.heap.size, #[.int .u8 3, .int .i64 0, .string ⟨#[99]⟩, .slice none 0 0]), (w2.heap.size, #[.int .u8 3, .int .i64 0, .string ⟨#[98]⟩, .slice none 0 0]), (w1.heap.size, #[.int .u8 3, .int .i64 0, .string ⟨#[97]⟩, .slice none 0 0])]) (by simp) #[.int .u8 (opR k : Int), .int .i64 0, .string ⟨#[]⟩, .slice (some ⟨v4.heap.size, 0, none⟩) 2 2] (fun p hp => by simp only [List.mem_cons, List.not_mem_nil, or_false] at hp; rcases hp with rfl | rfl | rfl | rfl | rfl <;> exact ⟨by simp, by dsimp only; omega⟩) (by omega))
                refine hK.out _ _ ?_ (fun hHeld => ?_)
                · exact SA _ (RZ.out.less (by simp))
                clear hK K
                refine wpAnyH_done (by kernel_rfl) ?_ _
                exact ⟨v4.heap.size + 1, W9.heap.size, v4.heap.size, RZ.out, _, _, _, _, _, _, _, _, _, _, _, _, _, _, _, _, _, _, _, _, _, _, _, _, _, _, _, _, _, _, _, rfl⟩
        · go_simp
          have R18 := hid (R4.out.pushAt c25 (b := v4.heap.size) (by simp))
          refine hK.out _ _ ?_ (fun hHeld => ?_)
          · exact SA _ (R18.out.less (by simp))
          clear hK K
          refine wpAnyH_ready (rs := [13]) (by kernel_rfl) (by simp) ?_
          refine AllReadyH.cons (o := { dst := some 45, op := Go.Op.buildSlice 24 2 #[(0, Go.Operand.tmp 43), (1, Go.Operand.tmp 44)], type := 24, pos := _, after := #[{ on := 11, ground := Go.Ground.data }, { on := 12, ground := Go.Ground.data }], guard := none }) rfl (fun K hK => ?_) AllReadyH.nil
          · refine if_take (by rfl) ?_
            obtain ⟨ie, hie, hz, hsz⟩ := inf25
            refine wp_buildSlice 24 26 2 _ rfl #[.int .u8 (opR i : Int), .int .i64 0, .string ⟨#[]⟩, .slice (some ⟨W9.heap.size, 0, none⟩) 2 2, .int .u8 3, .int .i64 0, .string ⟨#[99]⟩, .slice none 0 0] ie z25 Tryd.underlying24 hie hz (by rw [hsz]; decide) (by rw [hsz]; decide) (by rw [hsz]; simp only [List.map_toArray, List.map_cons, List.map_nil]; exact fill2R _ _ _ _ _ _ _ _) ?_
            clear hie hz hsz
            have R20 := hid (R18.out.pushAt #[.int .u8 (opR i : Int), .int .i64 0, .string ⟨#[]⟩, .slice (some ⟨W9.heap.size, 0, none⟩) 2 2, .int .u8 3, .int .i64 0, .string ⟨#[99]⟩, .slice none 0 0] (b := v4.heap.size + 1) (by simp))
            refine hK.out _ _ ?_ (fun hHeld => ?_)
            · exact SA _ (R20.out.less (by simp))
            clear hK K
            simp only [Act.put, List.setIfInBounds_toArray, List.set_cons_zero, List.set_cons_succ]
            refine wpAnyH_ready (rs := [14]) (by kernel_rfl) (by simp) ?_
            refine AllReadyH.cons (o := { dst := some 46, op := Go.Op.call { callee := Go.Callee.value (Go.Operand.func 7), args := #[Go.Operand.tmp 35, Go.Operand.tmp 45], argTypes := #[23, 24] }, type := 26, pos := _, after := #[{ on := 3, ground := Go.Ground.data }, { on := 13, ground := Go.Ground.data }, { on := 11, ground := Go.Ground.chain }], guard := none }) rfl (fun K hK => ?_) AllReadyH.nil
            · go_simp
              refine (of_pl _ _ _ _ _).mono ?_
              rintro e v22 ⟨rfl, b22⟩
              have R22 := hid (R20.out.step b22)
              have s22 : v4.heap.size + 1 + 1 ≤ v22.heap.size := by have := b22.size; simpa using this
              go_wp2_with fail
              refine hK.out _ _ ?_ (fun hHeld => ?_)
              · exact SA _ (R22.out.less (by simp))
              clear hK K
              refine wpAnyH_ready (rs := [16]) (by kernel_rfl) (by simp) ?_
              refine AllReadyH.cons (o := { dst := none, op := Go.Op.store 26 (Go.Operand.tmp 13) (Go.Operand.tmp 46), type := 0, pos := _, after := #[{ on := 15, ground := Go.Ground.data }, { on := 14, ground := Go.Ground.data }, { on := 14, ground := Go.Ground.chain }, { on := 0, ground := Go.Ground.phase }, { on := 1, ground := Go.Ground.phase }, { on := 2, ground := Go.Ground.phase }, { on := 3, ground := Go.Ground.phase }, { on := 4, ground := Go.Ground.phase }, { on := 5, ground := Go.Ground.phase }, { on := 6, ground := Go.Ground.phase }, { on := 7, ground := Go.Ground.phase }, { on := 8, ground := Go.Ground.phase }, { on := 9, ground := Go.Ground.phase }, { on := 10, ground := Go.Ground.phase }, { on := 11, ground := Go.Ground.phase }, { on := 12, ground := Go.Ground.phase }, { on := 13, ground := Go.Ground.phase }, { on := 14, ground := Go.Ground.phase }, { on := 15, ground := Go.Ground.phase }], guard := none }) rfl (fun K hK => ?_) AllReadyH.nil
              · refine if_take (by rfl) ?_
                refine wp_store_row 26 _ _ rfl (v4.heap.size) #[.int .u8 (opR k : Int), .int .i64 0, .string ⟨#[]⟩, .slice (some ⟨v4.heap.size + 1, 0, none⟩) 2 2] rfl rfl 26 _ (R22.out.av.row (v4.heap.size) c25 (by simp)) info25 rfl (by simp [Value.oneCell']) ?_
                have RZ := hid (R22.out.setRow (kl := v4.heap.size) (c0 := c25) (L' := [(v4.heap.size + 1, #[.int .u8 (opR i : Int), .int .i64 0, .string ⟨#[]⟩, .slice (some ⟨W9.heap.size, 0, none⟩) 2 2, .int .u8 3, .int .i64 0, .string ⟨#[99]⟩, .slice none 0 0]), (W9.heap.size, #[.int .u8 3, .int .i64 0, .string ⟨#[97]⟩, .slice none 0 0, .int .u8 3, .int .i64 0, .string ⟨#[98]⟩, .slice none 0 0]), (w3.heap.size, #[.int .u8 3, .int .i64 0, .string ⟨#[99]⟩, .slice none 0 0]), (w2.heap.size, #[.int .u8 3, .int .i64 0, .string ⟨#[98]⟩, .slice none 0 0]), (w1.heap.size, #[.int .u8 3, .int .i64 0, .string ⟨#[97]⟩, .slice none 0 0])]) (by simp) #[.int .u8 (opR k : Int), .int .i64 0, .string ⟨#[]⟩, .slice (some ⟨v4.heap.size + 1, 0, none⟩) 2 2] (fun p hp => by simp only [List.mem_cons, List.not_mem_nil, or_false] at hp; rcases hp with rfl | rfl | rfl | rfl | rfl <;> exact ⟨by simp, by dsimp only; omega⟩) (by omega))
                refine hK.out _ _ ?_ (fun hHeld => ?_)
                · exact SA _ (RZ.out.less (by simp))
                clear hK K
                refine wpAnyH_done (by kernel_rfl) ?_ _
                exact ⟨v4.heap.size, W9.heap.size, v4.heap.size + 1, RZ.out, _, _, _, _, _, _, _, _, _, _, _, _, _, _, _, _, _, _, _, _, _, _, _, _, _, _, _, _, _, _, _, rfl⟩
      · go_simp
        have R25 := hid (R2.out.pushAt c25 (b := W9.heap.size + 1) (by simp))
        refine hK.out _ _ ?_ (fun hHeld => ?_)
        · exact SA _ (R25.out.less (by simp))
        clear hK K
        refine wpAnyH_ready (rs := [11]) (by kernel_rfl) (by simp) ?_
        refine AllReadyH.cons (o := { dst := some 43, op := Go.Op.call { callee := Go.Callee.value (Go.Operand.func 7), args := #[Go.Operand.tmp 39, Go.Operand.tmp 42], argTypes := #[23, 24] }, type := 26, pos := _, after := #[{ on := 7, ground := Go.Ground.data }, { on := 10, ground := Go.Ground.data }], guard := none }) rfl (fun K hK => ?_) AllReadyH.nil
        · go_simp
          refine (of_pl _ _ _ _ _).mono ?_
          rintro e v27 ⟨rfl, b27⟩
          have R27 := hid (R25.out.step b27)
          have s27 : W9.heap.size + 1 + 1 ≤ v27.heap.size := by have := b27.size; simpa using this
          go_wp2_with fail
          refine hK.out _ _ ?_ (fun hHeld => ?_)
          · exact SA _ (R27.out.less (by simp))
          clear hK K
          refine wpAnyH_ready (rs := [13]) (by kernel_rfl) (by simp) ?_
          refine AllReadyH.cons (o := { dst := some 45, op := Go.Op.buildSlice 24 2 #[(0, Go.Operand.tmp 43), (1, Go.Operand.tmp 44)], type := 24, pos := _, after := #[{ on := 11, ground := Go.Ground.data }, { on := 12, ground := Go.Ground.data }], guard := none }) rfl (fun K hK => ?_) AllReadyH.nil
          · refine if_take (by rfl) ?_
            obtain ⟨ie, hie, hz, hsz⟩ := inf25
            refine wp_buildSlice 24 26 2 _ rfl #[.int .u8 (opR i : Int), .int .i64 0, .string ⟨#[]⟩, .slice (some ⟨W9.heap.size, 0, none⟩) 2 2, .int .u8 3, .int .i64 0, .string ⟨#[99]⟩, .slice none 0 0] ie z25 Tryd.underlying24 hie hz (by rw [hsz]; decide) (by rw [hsz]; decide) (by rw [hsz]; simp only [List.map_toArray, List.map_cons, List.map_nil]; exact fill2R _ _ _ _ _ _ _ _) ?_
            clear hie hz hsz
            have R29 := hid (R27.out.pushAt #[.int .u8 (opR i : Int), .int .i64 0, .string ⟨#[]⟩, .slice (some ⟨W9.heap.size, 0, none⟩) 2 2, .int .u8 3, .int .i64 0, .string ⟨#[99]⟩, .slice none 0 0] (b := v27.heap.size) (by simp))
            refine hK.out _ _ ?_ (fun hHeld => ?_)
            · exact SA _ (R29.out.less (by simp))
            clear hK K
            simp only [Act.put, List.setIfInBounds_toArray, List.set_cons_zero, List.set_cons_succ]
            refine wpAnyH_ready (rs := [14]) (by kernel_rfl) (by simp) ?_
            refine AllReadyH.cons (o := { dst := some 46, op := Go.Op.call { callee := Go.Callee.value (Go.Operand.func 7), args := #[Go.Operand.tmp 35, Go.Operand.tmp 45], argTypes := #[23, 24] }, type := 26, pos := _, after := #[{ on := 3, ground := Go.Ground.data }, { on := 13, ground := Go.Ground.data }, { on := 11, ground := Go.Ground.chain }], guard := none }) rfl (fun K hK => ?_) AllReadyH.nil
            · go_simp
              refine (of_pl _ _ _ _ _).mono ?_
              rintro e v31 ⟨rfl, b31⟩
              have R31 := hid (R29.out.step b31)
              have s31 : v27.heap.size + 1 ≤ v31.heap.size := by have := b31.size; simpa using this
              go_wp2_with fail
              refine hK.out _ _ ?_ (fun hHeld => ?_)
              · exact SA _ (R31.out.less (by simp))
              clear hK K
              refine wpAnyH_ready (rs := [16]) (by kernel_rfl) (by simp) ?_
              refine AllReadyH.cons (o := { dst := none, op := Go.Op.store 26 (Go.Operand.tmp 13) (Go.Operand.tmp 46), type := 0, pos := _, after := #[{ on := 15, ground := Go.Ground.data }, { on := 14, ground := Go.Ground.data }, { on := 14, ground := Go.Ground.chain }, { on := 0, ground := Go.Ground.phase }, { on := 1, ground := Go.Ground.phase }, { on := 2, ground := Go.Ground.phase }, { on := 3, ground := Go.Ground.phase }, { on := 4, ground := Go.Ground.phase }, { on := 5, ground := Go.Ground.phase }, { on := 6, ground := Go.Ground.phase }, { on := 7, ground := Go.Ground.phase }, { on := 8, ground := Go.Ground.phase }, { on := 9, ground := Go.Ground.phase }, { on := 10, ground := Go.Ground.phase }, { on := 11, ground := Go.Ground.phase }, { on := 12, ground := Go.Ground.phase }, { on := 13, ground := Go.Ground.phase }, { on := 14, ground := Go.Ground.phase }, { on := 15, ground := Go.Ground.phase }], guard := none }) rfl (fun K hK => ?_) AllReadyH.nil
              · refine if_take (by rfl) ?_
                refine wp_store_row 26 _ _ rfl (W9.heap.size + 1) #[.int .u8 (opR k : Int), .int .i64 0, .string ⟨#[]⟩, .slice (some ⟨v27.heap.size, 0, none⟩) 2 2] rfl rfl 26 _ (R31.out.av.row (W9.heap.size + 1) c25 (by simp)) info25 rfl (by simp [Value.oneCell']) ?_
                have RZ := hid (R31.out.setRow (kl := W9.heap.size + 1) (c0 := c25) (L' := [(v27.heap.size, #[.int .u8 (opR i : Int), .int .i64 0, .string ⟨#[]⟩, .slice (some ⟨W9.heap.size, 0, none⟩) 2 2, .int .u8 3, .int .i64 0, .string ⟨#[99]⟩, .slice none 0 0]), (W9.heap.size, #[.int .u8 3, .int .i64 0, .string ⟨#[97]⟩, .slice none 0 0, .int .u8 3, .int .i64 0, .string ⟨#[98]⟩, .slice none 0 0]), (w3.heap.size, #[.int .u8 3, .int .i64 0, .string ⟨#[99]⟩, .slice none 0 0]), (w2.heap.size, #[.int .u8 3, .int .i64 0, .string ⟨#[98]⟩, .slice none 0 0]), (w1.heap.size, #[.int .u8 3, .int .i64 0, .string ⟨#[97]⟩, .slice none 0 0])]) (by simp) #[.int .u8 (opR k : Int), .int .i64 0, .string ⟨#[]⟩, .slice (some ⟨v27.heap.size, 0, none⟩) 2 2] (fun p hp => by simp only [List.mem_cons, List.not_mem_nil, or_false] at hp; rcases hp with rfl | rfl | rfl | rfl | rfl <;> exact ⟨by simp, by dsimp only; omega⟩) (by omega))
                refine hK.out _ _ ?_ (fun hHeld => ?_)
                · exact SA _ (RZ.out.less (by simp))
                clear hK K
                refine wpAnyH_done (by kernel_rfl) ?_ _
                exact ⟨W9.heap.size + 1, W9.heap.size, v27.heap.size, RZ.out, _, _, _, _, _, _, _, _, _, _, _, _, _, _, _, _, _, _, _, _, _, _, _, _, _, _, _, _, _, _, _, rfl⟩
    · go_simp
      have R34 := hid (R9d.out.pushAt c25 (b := W9.heap.size) (by simp))
      refine hK.out _ _ ?_ (fun hHeld => ?_)
      · exact SA _ (R34.out.less (by simp))
      clear hK K
      refine wpAnyH_ready (rs := [10]) (by kernel_rfl) (by simp) ?_
      refine AllReadyH.cons (o := { dst := some 42, op := Go.Op.buildSlice 24 2 #[(0, Go.Operand.tmp 40), (1, Go.Operand.tmp 41)], type := 24, pos := _, after := #[{ on := 8, ground := Go.Ground.data }, { on := 9, ground := Go.Ground.data }], guard := none }) rfl (fun K hK => ?_) AllReadyH.nil
      · refine if_take (by rfl) ?_
        obtain ⟨ie, hie, hz, hsz⟩ := inf25
        refine wp_buildSlice 24 26 2 _ rfl #[.int .u8 3, .int .i64 0, .string ⟨#[97]⟩, .slice none 0 0, .int .u8 3, .int .i64 0, .string ⟨#[98]⟩, .slice none 0 0] ie z25 Tryd.underlying24 hie hz (by rw [hsz]; decide) (by rw [hsz]; decide) (by rw [hsz]; simp only [List.map_toArray, List.map_cons, List.map_nil]; exact fill2R _ _ _ _ _ _ _ _) ?_
        clear hie hz hsz
        have R36 := hid (R34.out.pushAt #[.int .u8 3, .int .i64 0, .string ⟨#[97]⟩, .slice none 0 0, .int .u8 3, .int .i64 0, .string ⟨#[98]⟩, .slice none 0 0] (b := W9.heap.size + 1) (by simp))
        refine hK.out _ _ ?_ (fun hHeld => ?_)
        · exact SA _ (R36.out.less (by simp))
        clear hK K
        simp only [Act.put, List.setIfInBounds_toArray, List.set_cons_zero, List.set_cons_succ]
        refine wpAnyH_ready (rs := [11]) (by kernel_rfl) (by simp) ?_
        refine AllReadyH.cons (o := { dst := some 43, op := Go.Op.call { callee := Go.Callee.value (Go.Operand.func 7), args := #[Go.Operand.tmp 39, Go.Operand.tmp 42], argTypes := #[23, 24] }, type := 26, pos := _, after := #[{ on := 7, ground := Go.Ground.data }, { on := 10, ground := Go.Ground.data }], guard := none }) rfl (fun K hK => ?_) AllReadyH.nil
        · go_simp
          refine (of_pl _ _ _ _ _).mono ?_
          rintro e v38 ⟨rfl, b38⟩
          have R38 := hid (R36.out.step b38)
          have s38 : W9.heap.size + 1 + 1 ≤ v38.heap.size := by have := b38.size; simpa using this
          go_wp2_with fail
          refine hK.out _ _ ?_ (fun hHeld => ?_)
          · exact SA _ (R38.out.less (by simp))
          clear hK K
          refine wpAnyH_ready (rs := [13]) (by kernel_rfl) (by simp) ?_
          refine AllReadyH.cons (o := { dst := some 45, op := Go.Op.buildSlice 24 2 #[(0, Go.Operand.tmp 43), (1, Go.Operand.tmp 44)], type := 24, pos := _, after := #[{ on := 11, ground := Go.Ground.data }, { on := 12, ground := Go.Ground.data }], guard := none }) rfl (fun K hK => ?_) AllReadyH.nil
          · refine if_take (by rfl) ?_
            obtain ⟨ie, hie, hz, hsz⟩ := inf25
            refine wp_buildSlice 24 26 2 _ rfl #[.int .u8 (opR i : Int), .int .i64 0, .string ⟨#[]⟩, .slice (some ⟨W9.heap.size + 1, 0, none⟩) 2 2, .int .u8 3, .int .i64 0, .string ⟨#[99]⟩, .slice none 0 0] ie z25 Tryd.underlying24 hie hz (by rw [hsz]; decide) (by rw [hsz]; decide) (by rw [hsz]; simp only [List.map_toArray, List.map_cons, List.map_nil]; exact fill2R _ _ _ _ _ _ _ _) ?_
            clear hie hz hsz
            have R40 := hid (R38.out.pushAt #[.int .u8 (opR i : Int), .int .i64 0, .string ⟨#[]⟩, .slice (some ⟨W9.heap.size + 1, 0, none⟩) 2 2, .int .u8 3, .int .i64 0, .string ⟨#[99]⟩, .slice none 0 0] (b := v38.heap.size) (by simp))
            refine hK.out _ _ ?_ (fun hHeld => ?_)
            · exact SA _ (R40.out.less (by simp))
            clear hK K
            simp only [Act.put, List.setIfInBounds_toArray, List.set_cons_zero, List.set_cons_succ]
            refine wpAnyH_ready (rs := [14]) (by kernel_rfl) (by simp) ?_
            refine AllReadyH.cons (o := { dst := some 46, op := Go.Op.call { callee := Go.Callee.value (Go.Operand.func 7), args := #[Go.Operand.tmp 35, Go.Operand.tmp 45], argTypes := #[23, 24] }, type := 26, pos := _, after := #[{ on := 3, ground := Go.Ground.data }, { on := 13, ground := Go.Ground.data }, { on := 11, ground := Go.Ground.chain }], guard := none }) rfl (fun K hK => ?_) AllReadyH.nil
            · go_simp
              refine (of_pl _ _ _ _ _).mono ?_
              rintro e v42 ⟨rfl, b42⟩
              have R42 := hid (R40.out.step b42)
              have s42 : v38.heap.size + 1 ≤ v42.heap.size := by have := b42.size; simpa using this
              go_wp2_with fail
              refine hK.out _ _ ?_ (fun hHeld => ?_)
              · exact SA _ (R42.out.less (by simp))
              clear hK K
              refine wpAnyH_ready (rs := [16]) (by kernel_rfl) (by simp) ?_
              refine AllReadyH.cons (o := { dst := none, op := Go.Op.store 26 (Go.Operand.tmp 13) (Go.Operand.tmp 46), type := 0, pos := _, after := #[{ on := 15, ground := Go.Ground.data }, { on := 14, ground := Go.Ground.data }, { on := 14, ground := Go.Ground.chain }, { on := 0, ground := Go.Ground.phase }, { on := 1, ground := Go.Ground.phase }, { on := 2, ground := Go.Ground.phase }, { on := 3, ground := Go.Ground.phase }, { on := 4, ground := Go.Ground.phase }, { on := 5, ground := Go.Ground.phase }, { on := 6, ground := Go.Ground.phase }, { on := 7, ground := Go.Ground.phase }, { on := 8, ground := Go.Ground.phase }, { on := 9, ground := Go.Ground.phase }, { on := 10, ground := Go.Ground.phase }, { on := 11, ground := Go.Ground.phase }, { on := 12, ground := Go.Ground.phase }, { on := 13, ground := Go.Ground.phase }, { on := 14, ground := Go.Ground.phase }, { on := 15, ground := Go.Ground.phase }], guard := none }) rfl (fun K hK => ?_) AllReadyH.nil
              · refine if_take (by rfl) ?_
                refine wp_store_row 26 _ _ rfl (W9.heap.size) #[.int .u8 (opR k : Int), .int .i64 0, .string ⟨#[]⟩, .slice (some ⟨v38.heap.size, 0, none⟩) 2 2] rfl rfl 26 _ (R42.out.av.row (W9.heap.size) c25 (by simp)) info25 rfl (by simp [Value.oneCell']) ?_
                have RZ := hid (R42.out.setRow (kl := W9.heap.size) (c0 := c25) (L' := [(v38.heap.size, #[.int .u8 (opR i : Int), .int .i64 0, .string ⟨#[]⟩, .slice (some ⟨W9.heap.size + 1, 0, none⟩) 2 2, .int .u8 3, .int .i64 0, .string ⟨#[99]⟩, .slice none 0 0]), (W9.heap.size + 1, #[.int .u8 3, .int .i64 0, .string ⟨#[97]⟩, .slice none 0 0, .int .u8 3, .int .i64 0, .string ⟨#[98]⟩, .slice none 0 0]), (w3.heap.size, #[.int .u8 3, .int .i64 0, .string ⟨#[99]⟩, .slice none 0 0]), (w2.heap.size, #[.int .u8 3, .int .i64 0, .string ⟨#[98]⟩, .slice none 0 0]), (w1.heap.size, #[.int .u8 3, .int .i64 0, .string ⟨#[97]⟩, .slice none 0 0])]) (by simp) #[.int .u8 (opR k : Int), .int .i64 0, .string ⟨#[]⟩, .slice (some ⟨v38.heap.size, 0, none⟩) 2 2] (fun p hp => by simp only [List.mem_cons, List.not_mem_nil, or_false] at hp; rcases hp with rfl | rfl | rfl | rfl | rfl <;> exact ⟨by simp, by dsimp only; omega⟩) (by omega))
                refine hK.out _ _ ?_ (fun hHeld => ?_)
                · exact SA _ (RZ.out.less (by simp))
                clear hK K
                refine wpAnyH_done (by kernel_rfl) ?_ _
                exact ⟨W9.heap.size, W9.heap.size + 1, v38.heap.size, RZ.out, _, _, _, _, _, _, _, _, _, _, _, _, _, _, _, _, _, _, _, _, _, _, _, _, _, _, _, _, _, _, _, rfl⟩
  case go =>
    rintro e a W h
    obtain rfl : e = .normal := by cases e <;> first | rfl | exact h.elim
    obtain ⟨kl, g1, g2, hR, u0, u1, u2, u3, u20, u21, u22, u23, u24, u25, u26, u27, u28, u29, u30, u31, u32, u33, u34, u35, u36, u37, u38, u39, u40, u41, u42, u43, u44, u45, u46, rfl⟩ := h
    have R10 := hid hR
    clear hR R9 R9d l1 l2 l3 l0
    have R10d := hid R10.out.drew
    have l1 := R10.out.lt (b := w1.heap.size) (c := #[.int .u8 3, .int .i64 0, .string ⟨#[97]⟩, .slice none 0 0]) (by simp)
    have l2 := R10.out.lt (b := w2.heap.size) (c := #[.int .u8 3, .int .i64 0, .string ⟨#[98]⟩, .slice none 0 0]) (by simp)
    have l3 := R10.out.lt (b := w3.heap.size) (c := #[.int .u8 3, .int .i64 0, .string ⟨#[99]⟩, .slice none 0 0]) (by simp)
    have l4 := R10.out.lt (b := kl) (c := #[.int .u8 (opR k : Int), .int .i64 0, .string ⟨#[]⟩, .slice (some ⟨g2, 0, none⟩) 2 2]) (by simp)
    have l5 := R10.out.lt (b := g2) (c := #[.int .u8 (opR i : Int), .int .i64 0, .string ⟨#[]⟩, .slice (some ⟨g1, 0, none⟩) 2 2, .int .u8 3, .int .i64 0, .string ⟨#[99]⟩, .slice none 0 0]) (by simp)
    have l6 := R10.out.lt (b := g1) (c := #[.int .u8 3, .int .i64 0, .string ⟨#[97]⟩, .slice none 0 0, .int .u8 3, .int .i64 0, .string ⟨#[98]⟩, .slice none 0 0]) (by simp)
    have l0 := R10.out.big
    go_wp2_with (fail)
    refine wp_mono (Q := Exit.then (Aft10 w w1.heap.size w2.heap.size w3.heap.size kl g1 g2 i k) (fun _ _ _ => False)) ?reg ?go
    case reg =>
      refine wp_region_held_drew (S := fun V => V.cell? ⟨w1.heap.size, 0, none⟩ = some (.int .u8 3) ∧ V.cell? ⟨w1.heap.size, 1, none⟩ = some (.int .i64 0) ∧ V.cell? ⟨w1.heap.size, 2, none⟩ = some (.string ⟨#[97]⟩) ∧ V.cell? ⟨w1.heap.size, 3, none⟩ = some (.slice none 0 0) ∧ V.cell? ⟨w2.heap.size, 0, none⟩ = some (.int .u8 3) ∧ V.cell? ⟨w2.heap.size, 1, none⟩ = some (.int .i64 0) ∧ V.cell? ⟨w2.heap.size, 2, none⟩ = some (.string ⟨#[98]⟩) ∧ V.cell? ⟨w2.heap.size, 3, none⟩ = some (.slice none 0 0) ∧ V.cell? ⟨w3.heap.size, 0, none⟩ = some (.int .u8 3) ∧ V.cell? ⟨w3.heap.size, 1, none⟩ = some (.int .i64 0) ∧ V.cell? ⟨w3.heap.size, 2, none⟩ = some (.string ⟨#[99]⟩) ∧ V.cell? ⟨w3.heap.size, 3, none⟩ = some (.slice none 0 0) ∧ V.cell? ⟨w.heap.size, i, none⟩ = some (.int .u8 (opR i : Int)) ∧ V.cell? ⟨w.heap.size, k, none⟩ = some (.int .u8 (opR k : Int))) (by kernel_rfl) ?_ (fun hHeld => ?_)
      · exact SA _ (R10.out.drew.less (by simp))
      refine wpAnyH_take (i := 0) (oi := { dst := some 47, op := Go.Op.move (Go.Operand.tmp 5), type := 43, pos := _, after := #[], guard := none }) (v := ?_) rfl (by kernel_rfl) (by kernel_rfl) (by kernel_rfl) (fun _ _ _ h => h) (Or.inl ⟨by rfl, ?_⟩) (by assumption) ?_
      rotate_left
      · intro w hSw; (try dsimp only at hSw); go_simp <;> first | with_reducible rfl | (rw [if_neg (by omega)])
      simp only [Act.put, List.setIfInBounds_toArray, List.set_cons_zero, List.set_cons_succ]
      refine wpAnyH_take (i := 1) (oi := { dst := some 48, op := Go.Op.move (Go.Operand.tmp 8), type := 3, pos := _, after := #[], guard := none }) (v := ?_) rfl (by kernel_rfl) (by kernel_rfl) (by kernel_rfl) (fun _ _ _ h => h) (Or.inl ⟨by rfl, ?_⟩) (by assumption) ?_
      rotate_left
      · intro w hSw; (try dsimp only at hSw); go_simp <;> first | with_reducible rfl | (rw [if_neg (by omega)])
      simp only [Act.put, List.setIfInBounds_toArray, List.set_cons_zero, List.set_cons_succ]
      refine wpAnyH_take (i := 2) (oi := { dst := some 49, op := Go.Op.indexAddr 43 (Go.Operand.tmp 47) (Go.Operand.tmp 48), type := 0, pos := _, after := #[{ on := 0, ground := Go.Ground.data }, { on := 1, ground := Go.Ground.data }], guard := none }) (v := ?_) rfl (by kernel_rfl) (by kernel_rfl) (by kernel_rfl) (fun _ _ _ h => h) (Or.inl ⟨by rfl, ?_⟩) (by assumption) ?_
      rotate_left
      · intro w hSw; (try dsimp only at hSw); go_simp <;> first | with_reducible rfl | (rw [if_neg (by omega)])
      simp only [Act.put, List.setIfInBounds_toArray, List.set_cons_zero, List.set_cons_succ]
      refine wpAnyH_take (i := 3) (oi := { dst := some 50, op := Go.Op.load 23 (Go.Operand.tmp 49), type := 23, pos := _, after := #[{ on := 2, ground := Go.Ground.data }], guard := none }) (v := ?_) rfl (by kernel_rfl) (by kernel_rfl) (by kernel_rfl) (fun _ _ _ h => h) (Or.inl ⟨by rfl, ?_⟩) (by assumption) ?_
      rotate_left
      · intro w hSw; (try dsimp only at hSw); go_simp <;> first | with_reducible rfl | (rw [if_neg (by omega)])
      simp only [Act.put, List.setIfInBounds_toArray, List.set_cons_zero, List.set_cons_succ]
      refine wpAnyH_take (i := 4) (oi := { dst := some 51, op := Go.Op.load 26 (Go.Operand.tmp 10), type := 26, pos := _, after := #[], guard := none }) (v := ?_) rfl (by kernel_rfl) (by kernel_rfl) (by kernel_rfl) (fun _ _ _ h => h) (Or.inl ⟨by rfl, ?_⟩) (by assumption) ?_
      rotate_left
      · intro w hSw; (try dsimp only at hSw); go_simp <;> first | with_reducible rfl | (rw [if_neg (by omega)])
      simp only [Act.put, List.setIfInBounds_toArray, List.set_cons_zero, List.set_cons_succ]
      refine wpAnyH_take (i := 5) (oi := { dst := some 52, op := Go.Op.move (Go.Operand.tmp 5), type := 43, pos := _, after := #[], guard := none }) (v := ?_) rfl (by kernel_rfl) (by kernel_rfl) (by kernel_rfl) (fun _ _ _ h => h) (Or.inl ⟨by rfl, ?_⟩) (by assumption) ?_
      rotate_left
      · intro w hSw; (try dsimp only at hSw); go_simp <;> first | with_reducible rfl | (rw [if_neg (by omega)])
      simp only [Act.put, List.setIfInBounds_toArray, List.set_cons_zero, List.set_cons_succ]
      refine wpAnyH_take (i := 6) (oi := { dst := some 53, op := Go.Op.move (Go.Operand.tmp 9), type := 3, pos := _, after := #[], guard := none }) (v := ?_) rfl (by kernel_rfl) (by kernel_rfl) (by kernel_rfl) (fun _ _ _ h => h) (Or.inl ⟨by rfl, ?_⟩) (by assumption) ?_
      rotate_left
      · intro w hSw; (try dsimp only at hSw); go_simp <;> first | with_reducible rfl | (rw [if_neg (by omega)])
      simp only [Act.put, List.setIfInBounds_toArray, List.set_cons_zero, List.set_cons_succ]
      refine wpAnyH_take (i := 7) (oi := { dst := some 54, op := Go.Op.indexAddr 43 (Go.Operand.tmp 52) (Go.Operand.tmp 53), type := 0, pos := _, after := #[{ on := 5, ground := Go.Ground.data }, { on := 6, ground := Go.Ground.data }], guard := none }) (v := ?_) rfl (by kernel_rfl) (by kernel_rfl) (by kernel_rfl) (fun _ _ _ h => h) (Or.inl ⟨by rfl, ?_⟩) (by assumption) ?_
      rotate_left
      · intro w hSw; (try dsimp only at hSw); go_simp <;> first | with_reducible rfl | (rw [if_neg (by omega)])
      simp only [Act.put, List.setIfInBounds_toArray, List.set_cons_zero, List.set_cons_succ]
      refine wpAnyH_take (i := 8) (oi := { dst := some 55, op := Go.Op.load 23 (Go.Operand.tmp 54), type := 23, pos := _, after := #[{ on := 7, ground := Go.Ground.data }], guard := none }) (v := ?_) rfl (by kernel_rfl) (by kernel_rfl) (by kernel_rfl) (fun _ _ _ h => h) (Or.inl ⟨by rfl, ?_⟩) (by assumption) ?_
      rotate_left
      · intro w hSw; (try dsimp only at hSw); go_simp <;> first | with_reducible rfl | (rw [if_neg (by omega)])
      simp only [Act.put, List.setIfInBounds_toArray, List.set_cons_zero, List.set_cons_succ]
      refine wpAnyH_take (i := 9) (oi := { dst := some 56, op := Go.Op.load 26 (Go.Operand.tmp 11), type := 26, pos := _, after := #[], guard := none }) (v := ?_) rfl (by kernel_rfl) (by kernel_rfl) (by kernel_rfl) (fun _ _ _ h => h) (Or.inl ⟨by rfl, ?_⟩) (by assumption) ?_
      rotate_left
      · intro w hSw; (try dsimp only at hSw); go_simp <;> first | with_reducible rfl | (rw [if_neg (by omega)])
      simp only [Act.put, List.setIfInBounds_toArray, List.set_cons_zero, List.set_cons_succ]
      refine wpAnyH_take (i := 10) (oi := { dst := some 57, op := Go.Op.load 26 (Go.Operand.tmp 12), type := 26, pos := _, after := #[], guard := none }) (v := ?_) rfl (by kernel_rfl) (by kernel_rfl) (by kernel_rfl) (fun _ _ _ h => h) (Or.inl ⟨by rfl, ?_⟩) (by assumption) ?_
      rotate_left
      · intro w hSw; (try dsimp only at hSw); go_simp <;> first | with_reducible rfl | (rw [if_neg (by omega)])
      simp only [Act.put, List.setIfInBounds_toArray, List.set_cons_zero, List.set_cons_succ]
      refine wpAnyH_ready (rs := [11, 15]) (by kernel_rfl) (by simp) ?_
      refine AllReadyH.cons (o := { dst := some 58, op := Go.Op.buildSlice 24 2 #[(0, Go.Operand.tmp 56), (1, Go.Operand.tmp 57)], type := 24, pos := _, after := #[{ on := 9, ground := Go.Ground.data }, { on := 10, ground := Go.Ground.data }], guard := none }) rfl (fun K hK => ?_) (AllReadyH.cons (o := { dst := some 14, op := Go.Op.alloc 26, type := 0, pos := _, after := #[], guard := none }) rfl (fun K hK => ?_) AllReadyH.nil)
      · refine if_take (by rfl) ?_
        obtain ⟨ie, hie, hz, hsz⟩ := inf25
        refine wp_buildSlice 24 26 2 _ rfl #[.int .u8 3, .int .i64 0, .string ⟨#[98]⟩, .slice none 0 0, .int .u8 3, .int .i64 0, .string ⟨#[99]⟩, .slice none 0 0] ie z25 Tryd.underlying24 hie hz (by rw [hsz]; decide) (by rw [hsz]; decide) (by rw [hsz]; simp only [List.map_toArray, List.map_cons, List.map_nil]; exact fill2R _ _ _ _ _ _ _ _) ?_
        clear hie hz hsz
        have R2 := hid (R10d.out.pushAt #[.int .u8 3, .int .i64 0, .string ⟨#[98]⟩, .slice none 0 0, .int .u8 3, .int .i64 0, .string ⟨#[99]⟩, .slice none 0 0] (b := W.heap.size) (by simp))
        refine hK.out _ _ ?_ (fun hHeld => ?_)
        · exact SA _ (R2.out.less (by simp))
        clear hK K
        simp only [Act.put, List.setIfInBounds_toArray, List.set_cons_zero, List.set_cons_succ]
        refine wpAnyH_ready (rs := [12, 15]) (by kernel_rfl) (by simp) ?_
        refine AllReadyH.cons (o := { dst := some 59, op := Go.Op.call { callee := Go.Callee.value (Go.Operand.func 7), args := #[Go.Operand.tmp 55, Go.Operand.tmp 58], argTypes := #[23, 24] }, type := 26, pos := _, after := #[{ on := 8, ground := Go.Ground.data }, { on := 11, ground := Go.Ground.data }], guard := none }) rfl (fun K hK => ?_) (AllReadyH.cons (o := { dst := some 14, op := Go.Op.alloc 26, type := 0, pos := _, after := #[], guard := none }) rfl (fun K hK => ?_) AllReadyH.nil)
        · go_simp
          refine (of_pl _ _ _ _ _).mono ?_
          rintro e v4 ⟨rfl, b4⟩
          have R4 := hid (R2.out.step b4)
          have s4 : W.heap.size + 1 ≤ v4.heap.size := by have := b4.size; simpa using this
          go_wp2_with fail
          refine hK.out _ _ ?_ (fun hHeld => ?_)
          · exact SA _ (R4.out.less (by simp))
          clear hK K
          refine wpAnyH_ready (rs := [13, 15]) (by kernel_rfl) (by simp) ?_
          refine AllReadyH.cons (o := { dst := some 60, op := Go.Op.buildSlice 24 2 #[(0, Go.Operand.tmp 51), (1, Go.Operand.tmp 59)], type := 24, pos := _, after := #[{ on := 4, ground := Go.Ground.data }, { on := 12, ground := Go.Ground.data }], guard := none }) rfl (fun K hK => ?_) (AllReadyH.cons (o := { dst := some 14, op := Go.Op.alloc 26, type := 0, pos := _, after := #[], guard := none }) rfl (fun K hK => ?_) AllReadyH.nil)
          · refine if_take (by rfl) ?_
            obtain ⟨ie, hie, hz, hsz⟩ := inf25
            refine wp_buildSlice 24 26 2 _ rfl #[.int .u8 3, .int .i64 0, .string ⟨#[97]⟩, .slice none 0 0, .int .u8 (opR k : Int), .int .i64 0, .string ⟨#[]⟩, .slice (some ⟨W.heap.size, 0, none⟩) 2 2] ie z25 Tryd.underlying24 hie hz (by rw [hsz]; decide) (by rw [hsz]; decide) (by rw [hsz]; simp only [List.map_toArray, List.map_cons, List.map_nil]; exact fill2R _ _ _ _ _ _ _ _) ?_
            clear hie hz hsz
            have R6 := hid (R4.out.pushAt #[.int .u8 3, .int .i64 0, .string ⟨#[97]⟩, .slice none 0 0, .int .u8 (opR k : Int), .int .i64 0, .string ⟨#[]⟩, .slice (some ⟨W.heap.size, 0, none⟩) 2 2] (b := v4.heap.size) (by simp))
            refine hK.out _ _ ?_ (fun hHeld => ?_)
            · exact SA _ (R6.out.less (by simp))
            clear hK K
            simp only [Act.put, List.setIfInBounds_toArray, List.set_cons_zero, List.set_cons_succ]
            refine wpAnyH_ready (rs := [14, 15]) (by kernel_rfl) (by simp) ?_
            refine AllReadyH.cons (o := { dst := some 61, op := Go.Op.call { callee := Go.Callee.value (Go.Operand.func 7), args := #[Go.Operand.tmp 50, Go.Operand.tmp 60], argTypes := #[23, 24] }, type := 26, pos := _, after := #[{ on := 3, ground := Go.Ground.data }, { on := 13, ground := Go.Ground.data }, { on := 12, ground := Go.Ground.chain }], guard := none }) rfl (fun K hK => ?_) (AllReadyH.cons (o := { dst := some 14, op := Go.Op.alloc 26, type := 0, pos := _, after := #[], guard := none }) rfl (fun K hK => ?_) AllReadyH.nil)
            · go_simp
              refine (of_pl _ _ _ _ _).mono ?_
              rintro e v8 ⟨rfl, b8⟩
              have R8 := hid (R6.out.step b8)
              have s8 : v4.heap.size + 1 ≤ v8.heap.size := by have := b8.size; simpa using this
              go_wp2_with fail
              refine hK.out _ _ ?_ (fun hHeld => ?_)
              · exact SA _ (R8.out.less (by simp))
              clear hK K
              refine wpAnyH_ready (rs := [15]) (by kernel_rfl) (by simp) ?_
              refine AllReadyH.cons (o := { dst := some 14, op := Go.Op.alloc 26, type := 0, pos := _, after := #[], guard := none }) rfl (fun K hK => ?_) AllReadyH.nil
              · go_simp
                have R10 := hid (R8.out.pushAt c25 (b := v8.heap.size) (by simp))
                refine hK.out _ _ ?_ (fun hHeld => ?_)
                · exact SA _ (R10.out.less (by simp))
                clear hK K
                refine wpAnyH_ready (rs := [16]) (by kernel_rfl) (by simp) ?_
                refine AllReadyH.cons (o := { dst := none, op := Go.Op.store 26 (Go.Operand.tmp 14) (Go.Operand.tmp 61), type := 0, pos := _, after := #[{ on := 15, ground := Go.Ground.data }, { on := 14, ground := Go.Ground.data }, { on := 14, ground := Go.Ground.chain }, { on := 0, ground := Go.Ground.phase }, { on := 1, ground := Go.Ground.phase }, { on := 2, ground := Go.Ground.phase }, { on := 3, ground := Go.Ground.phase }, { on := 4, ground := Go.Ground.phase }, { on := 5, ground := Go.Ground.phase }, { on := 6, ground := Go.Ground.phase }, { on := 7, ground := Go.Ground.phase }, { on := 8, ground := Go.Ground.phase }, { on := 9, ground := Go.Ground.phase }, { on := 10, ground := Go.Ground.phase }, { on := 11, ground := Go.Ground.phase }, { on := 12, ground := Go.Ground.phase }, { on := 13, ground := Go.Ground.phase }, { on := 14, ground := Go.Ground.phase }, { on := 15, ground := Go.Ground.phase }], guard := none }) rfl (fun K hK => ?_) AllReadyH.nil
                · refine if_take (by rfl) ?_
                  refine wp_store_row 26 _ _ rfl (v8.heap.size) #[.int .u8 (opR i : Int), .int .i64 0, .string ⟨#[]⟩, .slice (some ⟨v4.heap.size, 0, none⟩) 2 2] rfl rfl 26 _ (R10.out.av.row (v8.heap.size) c25 (by simp)) info25 rfl (by simp [Value.oneCell']) ?_
                  have RZ := hid (R10.out.setRow (kl := v8.heap.size) (c0 := c25) (L' := [(v4.heap.size, #[.int .u8 3, .int .i64 0, .string ⟨#[97]⟩, .slice none 0 0, .int .u8 (opR k : Int), .int .i64 0, .string ⟨#[]⟩, .slice (some ⟨W.heap.size, 0, none⟩) 2 2]), (W.heap.size, #[.int .u8 3, .int .i64 0, .string ⟨#[98]⟩, .slice none 0 0, .int .u8 3, .int .i64 0, .string ⟨#[99]⟩, .slice none 0 0]), (kl, #[.int .u8 (opR k : Int), .int .i64 0, .string ⟨#[]⟩, .slice (some ⟨g2, 0, none⟩) 2 2]), (g2, #[.int .u8 (opR i : Int), .int .i64 0, .string ⟨#[]⟩, .slice (some ⟨g1, 0, none⟩) 2 2, .int .u8 3, .int .i64 0, .string ⟨#[99]⟩, .slice none 0 0]), (g1, #[.int .u8 3, .int .i64 0, .string ⟨#[97]⟩, .slice none 0 0, .int .u8 3, .int .i64 0, .string ⟨#[98]⟩, .slice none 0 0]), (w3.heap.size, #[.int .u8 3, .int .i64 0, .string ⟨#[99]⟩, .slice none 0 0]), (w2.heap.size, #[.int .u8 3, .int .i64 0, .string ⟨#[98]⟩, .slice none 0 0]), (w1.heap.size, #[.int .u8 3, .int .i64 0, .string ⟨#[97]⟩, .slice none 0 0])]) (by simp) #[.int .u8 (opR i : Int), .int .i64 0, .string ⟨#[]⟩, .slice (some ⟨v4.heap.size, 0, none⟩) 2 2] (fun p hp => by simp only [List.mem_cons, List.not_mem_nil, or_false] at hp; rcases hp with rfl | rfl | rfl | rfl | rfl | rfl | rfl | rfl <;> exact ⟨by simp, by dsimp only; omega⟩) (by omega))
                  refine hK.out _ _ ?_ (fun hHeld => ?_)
                  · exact SA _ (RZ.out.less (by simp))
                  clear hK K
                  refine wpAnyH_done (by kernel_rfl) ?_ _
                  exact ⟨v8.heap.size, W.heap.size, v4.heap.size, RZ.out, _, _, _, _, _, _, _, _, _, _, _, _, _, _, _, _, _, _, _, _, _, _, _, _, _, _, _, _, _, _, _, _, _, _, _, _, _, _, _, _, _, _, _, _, _, _, rfl⟩
            · go_simp
              have R13 := hid (R6.out.pushAt c25 (b := v4.heap.size + 1) (by simp))
              refine hK.out _ _ ?_ (fun hHeld => ?_)
              · exact SA _ (R13.out.less (by simp))
              clear hK K
              refine wpAnyH_ready (rs := [14]) (by kernel_rfl) (by simp) ?_
              refine AllReadyH.cons (o := { dst := some 61, op := Go.Op.call { callee := Go.Callee.value (Go.Operand.func 7), args := #[Go.Operand.tmp 50, Go.Operand.tmp 60], argTypes := #[23, 24] }, type := 26, pos := _, after := #[{ on := 3, ground := Go.Ground.data }, { on := 13, ground := Go.Ground.data }, { on := 12, ground := Go.Ground.chain }], guard := none }) rfl (fun K hK => ?_) AllReadyH.nil
              · go_simp
                refine (of_pl _ _ _ _ _).mono ?_
                rintro e v15 ⟨rfl, b15⟩
                have R15 := hid (R13.out.step b15)
                have s15 : v4.heap.size + 1 + 1 ≤ v15.heap.size := by have := b15.size; simpa using this
                go_wp2_with fail
                refine hK.out _ _ ?_ (fun hHeld => ?_)
                · exact SA _ (R15.out.less (by simp))
                clear hK K
                refine wpAnyH_ready (rs := [16]) (by kernel_rfl) (by simp) ?_
                refine AllReadyH.cons (o := { dst := none, op := Go.Op.store 26 (Go.Operand.tmp 14) (Go.Operand.tmp 61), type := 0, pos := _, after := #[{ on := 15, ground := Go.Ground.data }, { on := 14, ground := Go.Ground.data }, { on := 14, ground := Go.Ground.chain }, { on := 0, ground := Go.Ground.phase }, { on := 1, ground := Go.Ground.phase }, { on := 2, ground := Go.Ground.phase }, { on := 3, ground := Go.Ground.phase }, { on := 4, ground := Go.Ground.phase }, { on := 5, ground := Go.Ground.phase }, { on := 6, ground := Go.Ground.phase }, { on := 7, ground := Go.Ground.phase }, { on := 8, ground := Go.Ground.phase }, { on := 9, ground := Go.Ground.phase }, { on := 10, ground := Go.Ground.phase }, { on := 11, ground := Go.Ground.phase }, { on := 12, ground := Go.Ground.phase }, { on := 13, ground := Go.Ground.phase }, { on := 14, ground := Go.Ground.phase }, { on := 15, ground := Go.Ground.phase }], guard := none }) rfl (fun K hK => ?_) AllReadyH.nil
                · refine if_take (by rfl) ?_
                  refine wp_store_row 26 _ _ rfl (v4.heap.size + 1) #[.int .u8 (opR i : Int), .int .i64 0, .string ⟨#[]⟩, .slice (some ⟨v4.heap.size, 0, none⟩) 2 2] rfl rfl 26 _ (R15.out.av.row (v4.heap.size + 1) c25 (by simp)) info25 rfl (by simp [Value.oneCell']) ?_
                  have RZ := hid (R15.out.setRow (kl := v4.heap.size + 1) (c0 := c25) (L' := [(v4.heap.size, #[.int .u8 3, .int .i64 0, .string ⟨#[97]⟩, .slice none 0 0, .int .u8 (opR k : Int), .int .i64 0, .string ⟨#[]⟩, .slice (some ⟨W.heap.size, 0, none⟩) 2 2]), (W.heap.size, #[.int .u8 3, .int .i64 0, .string ⟨#[98]⟩, .slice none 0 0, .int .u8 3, .int .i64 0, .string ⟨#[99]⟩, .slice none 0 0]), (kl, #[.int .u8 (opR k : Int), .int .i64 0, .string ⟨#[]⟩, .slice (some ⟨g2, 0, none⟩) 2 2]), (g2, #[.int .u8 (opR i : Int), .int .i64 0, .string ⟨#[]⟩, .slice (some ⟨g1, 0, none⟩) 2 2, .int .u8 3, .int .i64 0, .string ⟨#[99]⟩, .slice none 0 0]), (g1, #[.int .u8 3, .int .i64 0, .string ⟨#[97]⟩, .slice none 0 0, .int .u8 3, .int .i64 0, .string ⟨#[98]⟩, .slice none 0 0]), (w3.heap.size, #[.int .u8 3, .int .i64 0, .string ⟨#[99]⟩, .slice none 0 0]), (w2.heap.size, #[.int .u8 3, .int .i64 0, .string ⟨#[98]⟩, .slice none 0 0]), (w1.heap.size, #[.int .u8 3, .int .i64 0, .string ⟨#[97]⟩, .slice none 0 0])]) (by simp) #[.int .u8 (opR i : Int), .int .i64 0, .string ⟨#[]⟩, .slice (some ⟨v4.heap.size, 0, none⟩) 2 2] (fun p hp => by simp only [List.mem_cons, List.not_mem_nil, or_false] at hp; rcases hp with rfl | rfl | rfl | rfl | rfl | rfl | rfl | rfl <;> exact ⟨by simp, by dsimp only; omega⟩) (by omega))
                  refine hK.out _ _ ?_ (fun hHeld => ?_)
                  · exact SA _ (RZ.out.less (by simp))
                  clear hK K
                  refine wpAnyH_done (by kernel_rfl) ?_ _
                  exact ⟨v4.heap.size + 1, W.heap.size, v4.heap.size, RZ.out, _, _, _, _, _, _, _, _, _, _, _, _, _, _, _, _, _, _, _, _, _, _, _, _, _, _, _, _, _, _, _, _, _, _, _, _, _, _, _, _, _, _, _, _, _, _, rfl⟩
          · go_simp
            have R18 := hid (R4.out.pushAt c25 (b := v4.heap.size) (by simp))
            refine hK.out _ _ ?_ (fun hHeld => ?_)
            · exact SA _ (R18.out.less (by simp))
            clear hK K
            refine wpAnyH_ready (rs := [13]) (by kernel_rfl) (by simp) ?_
            refine AllReadyH.cons (o := { dst := some 60, op := Go.Op.buildSlice 24 2 #[(0, Go.Operand.tmp 51), (1, Go.Operand.tmp 59)], type := 24, pos := _, after := #[{ on := 4, ground := Go.Ground.data }, { on := 12, ground := Go.Ground.data }], guard := none }) rfl (fun K hK => ?_) AllReadyH.nil
            · refine if_take (by rfl) ?_
              obtain ⟨ie, hie, hz, hsz⟩ := inf25
              refine wp_buildSlice 24 26 2 _ rfl #[.int .u8 3, .int .i64 0, .string ⟨#[97]⟩, .slice none 0 0, .int .u8 (opR k : Int), .int .i64 0, .string ⟨#[]⟩, .slice (some ⟨W.heap.size, 0, none⟩) 2 2] ie z25 Tryd.underlying24 hie hz (by rw [hsz]; decide) (by rw [hsz]; decide) (by rw [hsz]; simp only [List.map_toArray, List.map_cons, List.map_nil]; exact fill2R _ _ _ _ _ _ _ _) ?_
              clear hie hz hsz
              have R20 := hid (R18.out.pushAt #[.int .u8 3, .int .i64 0, .string ⟨#[97]⟩, .slice none 0 0, .int .u8 (opR k : Int), .int .i64 0, .string ⟨#[]⟩, .slice (some ⟨W.heap.size, 0, none⟩) 2 2] (b := v4.heap.size + 1) (by simp))
              refine hK.out _ _ ?_ (fun hHeld => ?_)
              · exact SA _ (R20.out.less (by simp))
              clear hK K
              simp only [Act.put, List.setIfInBounds_toArray, List.set_cons_zero, List.set_cons_succ]
              refine wpAnyH_ready (rs := [14]) (by kernel_rfl) (by simp) ?_
              refine AllReadyH.cons (o := { dst := some 61, op := Go.Op.call { callee := Go.Callee.value (Go.Operand.func 7), args := #[Go.Operand.tmp 50, Go.Operand.tmp 60], argTypes := #[23, 24] }, type := 26, pos := _, after := #[{ on := 3, ground := Go.Ground.data }, { on := 13, ground := Go.Ground.data }, { on := 12, ground := Go.Ground.chain }], guard := none }) rfl (fun K hK => ?_) AllReadyH.nil
              · go_simp
                refine (of_pl _ _ _ _ _).mono ?_
                rintro e v22 ⟨rfl, b22⟩
                have R22 := hid (R20.out.step b22)
                have s22 : v4.heap.size + 1 + 1 ≤ v22.heap.size := by have := b22.size; simpa using this
                go_wp2_with fail
                refine hK.out _ _ ?_ (fun hHeld => ?_)
                · exact SA _ (R22.out.less (by simp))
                clear hK K
                refine wpAnyH_ready (rs := [16]) (by kernel_rfl) (by simp) ?_
                refine AllReadyH.cons (o := { dst := none, op := Go.Op.store 26 (Go.Operand.tmp 14) (Go.Operand.tmp 61), type := 0, pos := _, after := #[{ on := 15, ground := Go.Ground.data }, { on := 14, ground := Go.Ground.data }, { on := 14, ground := Go.Ground.chain }, { on := 0, ground := Go.Ground.phase }, { on := 1, ground := Go.Ground.phase }, { on := 2, ground := Go.Ground.phase }, { on := 3, ground := Go.Ground.phase }, { on := 4, ground := Go.Ground.phase }, { on := 5, ground := Go.Ground.phase }, { on := 6, ground := Go.Ground.phase }, { on := 7, ground := Go.Ground.phase }, { on := 8, ground := Go.Ground.phase }, { on := 9, ground := Go.Ground.phase }, { on := 10, ground := Go.Ground.phase }, { on := 11, ground := Go.Ground.phase }, { on := 12, ground := Go.Ground.phase }, { on := 13, ground := Go.Ground.phase }, { on := 14, ground := Go.Ground.phase }, { on := 15, ground := Go.Ground.phase }], guard := none }) rfl (fun K hK => ?_) AllReadyH.nil
                · refine if_take (by rfl) ?_
                  refine wp_store_row 26 _ _ rfl (v4.heap.size) #[.int .u8 (opR i : Int), .int .i64 0, .string ⟨#[]⟩, .slice (some ⟨v4.heap.size + 1, 0, none⟩) 2 2] rfl rfl 26 _ (R22.out.av.row (v4.heap.size) c25 (by simp)) info25 rfl (by simp [Value.oneCell']) ?_
                  have RZ := hid (R22.out.setRow (kl := v4.heap.size) (c0 := c25) (L' := [(v4.heap.size + 1, #[.int .u8 3, .int .i64 0, .string ⟨#[97]⟩, .slice none 0 0, .int .u8 (opR k : Int), .int .i64 0, .string ⟨#[]⟩, .slice (some ⟨W.heap.size, 0, none⟩) 2 2]), (W.heap.size, #[.int .u8 3, .int .i64 0, .string ⟨#[98]⟩, .slice none 0 0, .int .u8 3, .int .i64 0, .string ⟨#[99]⟩, .slice none 0 0]), (kl, #[.int .u8 (opR k : Int), .int .i64 0, .string ⟨#[]⟩, .slice (some ⟨g2, 0, none⟩) 2 2]), (g2, #[.int .u8 (opR i : Int), .int .i64 0, .string ⟨#[]⟩, .slice (some ⟨g1, 0, none⟩) 2 2, .int .u8 3, .int .i64 0, .string ⟨#[99]⟩, .slice none 0 0]), (g1, #[.int .u8 3, .int .i64 0, .string ⟨#[97]⟩, .slice none 0 0, .int .u8 3, .int .i64 0, .string ⟨#[98]⟩, .slice none 0 0]), (w3.heap.size, #[.int .u8 3, .int .i64 0, .string ⟨#[99]⟩, .slice none 0 0]), (w2.heap.size, #[.int .u8 3, .int .i64 0, .string ⟨#[98]⟩, .slice none 0 0]), (w1.heap.size, #[.int .u8 3, .int .i64 0, .string ⟨#[97]⟩, .slice none 0 0])]) (by simp) #[.int .u8 (opR i : Int), .int .i64 0, .string ⟨#[]⟩, .slice (some ⟨v4.heap.size + 1, 0, none⟩) 2 2] (fun p hp => by simp only [List.mem_cons, List.not_mem_nil, or_false] at hp; rcases hp with rfl | rfl | rfl | rfl | rfl | rfl | rfl | rfl <;> exact ⟨by simp, by dsimp only; omega⟩) (by omega))
                  refine hK.out _ _ ?_ (fun hHeld => ?_)
                  · exact SA _ (RZ.out.less (by simp))
                  clear hK K
                  refine wpAnyH_done (by kernel_rfl) ?_ _
                  exact ⟨v4.heap.size, W.heap.size, v4.heap.size + 1, RZ.out, _, _, _, _, _, _, _, _, _, _, _, _, _, _, _, _, _, _, _, _, _, _, _, _, _, _, _, _, _, _, _, _, _, _, _, _, _, _, _, _, _, _, _, _, _, _, rfl⟩
        · go_simp
          have R25 := hid (R2.out.pushAt c25 (b := W.heap.size + 1) (by simp))
          refine hK.out _ _ ?_ (fun hHeld => ?_)
          · exact SA _ (R25.out.less (by simp))
          clear hK K
          refine wpAnyH_ready (rs := [12]) (by kernel_rfl) (by simp) ?_
          refine AllReadyH.cons (o := { dst := some 59, op := Go.Op.call { callee := Go.Callee.value (Go.Operand.func 7), args := #[Go.Operand.tmp 55, Go.Operand.tmp 58], argTypes := #[23, 24] }, type := 26, pos := _, after := #[{ on := 8, ground := Go.Ground.data }, { on := 11, ground := Go.Ground.data }], guard := none }) rfl (fun K hK => ?_) AllReadyH.nil
          · go_simp
            refine (of_pl _ _ _ _ _).mono ?_
            rintro e v27 ⟨rfl, b27⟩
            have R27 := hid (R25.out.step b27)
            have s27 : W.heap.size + 1 + 1 ≤ v27.heap.size := by have := b27.size; simpa using this
            go_wp2_with fail
            refine hK.out _ _ ?_ (fun hHeld => ?_)
            · exact SA _ (R27.out.less (by simp))
            clear hK K
            refine wpAnyH_ready (rs := [13]) (by kernel_rfl) (by simp) ?_
            refine AllReadyH.cons (o := { dst := some 60, op := Go.Op.buildSlice 24 2 #[(0, Go.Operand.tmp 51), (1, Go.Operand.tmp 59)], type := 24, pos := _, after := #[{ on := 4, ground := Go.Ground.data }, { on := 12, ground := Go.Ground.data }], guard := none }) rfl (fun K hK => ?_) AllReadyH.nil
            · refine if_take (by rfl) ?_
              obtain ⟨ie, hie, hz, hsz⟩ := inf25
              refine wp_buildSlice 24 26 2 _ rfl #[.int .u8 3, .int .i64 0, .string ⟨#[97]⟩, .slice none 0 0, .int .u8 (opR k : Int), .int .i64 0, .string ⟨#[]⟩, .slice (some ⟨W.heap.size, 0, none⟩) 2 2] ie z25 Tryd.underlying24 hie hz (by rw [hsz]; decide) (by rw [hsz]; decide) (by rw [hsz]; simp only [List.map_toArray, List.map_cons, List.map_nil]; exact fill2R _ _ _ _ _ _ _ _) ?_
              clear hie hz hsz
              have R29 := hid (R27.out.pushAt #[.int .u8 3, .int .i64 0, .string ⟨#[97]⟩, .slice none 0 0, .int .u8 (opR k : Int), .int .i64 0, .string ⟨#[]⟩, .slice (some ⟨W.heap.size, 0, none⟩) 2 2] (b := v27.heap.size) (by simp))
              refine hK.out _ _ ?_ (fun hHeld => ?_)
              · exact SA _ (R29.out.less (by simp))
              clear hK K
              simp only [Act.put, List.setIfInBounds_toArray, List.set_cons_zero, List.set_cons_succ]
              refine wpAnyH_ready (rs := [14]) (by kernel_rfl) (by simp) ?_
              refine AllReadyH.cons (o := { dst := some 61, op := Go.Op.call { callee := Go.Callee.value (Go.Operand.func 7), args := #[Go.Operand.tmp 50, Go.Operand.tmp 60], argTypes := #[23, 24] }, type := 26, pos := _, after := #[{ on := 3, ground := Go.Ground.data }, { on := 13, ground := Go.Ground.data }, { on := 12, ground := Go.Ground.chain }], guard := none }) rfl (fun K hK => ?_) AllReadyH.nil
              · go_simp
                refine (of_pl _ _ _ _ _).mono ?_
                rintro e v31 ⟨rfl, b31⟩
                have R31 := hid (R29.out.step b31)
                have s31 : v27.heap.size + 1 ≤ v31.heap.size := by have := b31.size; simpa using this
                go_wp2_with fail
                refine hK.out _ _ ?_ (fun hHeld => ?_)
                · exact SA _ (R31.out.less (by simp))
                clear hK K
                refine wpAnyH_ready (rs := [16]) (by kernel_rfl) (by simp) ?_
                refine AllReadyH.cons (o := { dst := none, op := Go.Op.store 26 (Go.Operand.tmp 14) (Go.Operand.tmp 61), type := 0, pos := _, after := #[{ on := 15, ground := Go.Ground.data }, { on := 14, ground := Go.Ground.data }, { on := 14, ground := Go.Ground.chain }, { on := 0, ground := Go.Ground.phase }, { on := 1, ground := Go.Ground.phase }, { on := 2, ground := Go.Ground.phase }, { on := 3, ground := Go.Ground.phase }, { on := 4, ground := Go.Ground.phase }, { on := 5, ground := Go.Ground.phase }, { on := 6, ground := Go.Ground.phase }, { on := 7, ground := Go.Ground.phase }, { on := 8, ground := Go.Ground.phase }, { on := 9, ground := Go.Ground.phase }, { on := 10, ground := Go.Ground.phase }, { on := 11, ground := Go.Ground.phase }, { on := 12, ground := Go.Ground.phase }, { on := 13, ground := Go.Ground.phase }, { on := 14, ground := Go.Ground.phase }, { on := 15, ground := Go.Ground.phase }], guard := none }) rfl (fun K hK => ?_) AllReadyH.nil
                · refine if_take (by rfl) ?_
                  refine wp_store_row 26 _ _ rfl (W.heap.size + 1) #[.int .u8 (opR i : Int), .int .i64 0, .string ⟨#[]⟩, .slice (some ⟨v27.heap.size, 0, none⟩) 2 2] rfl rfl 26 _ (R31.out.av.row (W.heap.size + 1) c25 (by simp)) info25 rfl (by simp [Value.oneCell']) ?_
                  have RZ := hid (R31.out.setRow (kl := W.heap.size + 1) (c0 := c25) (L' := [(v27.heap.size, #[.int .u8 3, .int .i64 0, .string ⟨#[97]⟩, .slice none 0 0, .int .u8 (opR k : Int), .int .i64 0, .string ⟨#[]⟩, .slice (some ⟨W.heap.size, 0, none⟩) 2 2]), (W.heap.size, #[.int .u8 3, .int .i64 0, .string ⟨#[98]⟩, .slice none 0 0, .int .u8 3, .int .i64 0, .string ⟨#[99]⟩, .slice none 0 0]), (kl, #[.int .u8 (opR k : Int), .int .i64 0, .string ⟨#[]⟩, .slice (some ⟨g2, 0, none⟩) 2 2]), (g2, #[.int .u8 (opR i : Int), .int .i64 0, .string ⟨#[]⟩, .slice (some ⟨g1, 0, none⟩) 2 2, .int .u8 3, .int .i64 0, .string ⟨#[99]⟩, .slice none 0 0]), (g1, #[.int .u8 3, .int .i64 0, .string ⟨#[97]⟩, .slice none 0 0, .int .u8 3, .int .i64 0, .string ⟨#[98]⟩, .slice none 0 0]), (w3.heap.size, #[.int .u8 3, .int .i64 0, .string ⟨#[99]⟩, .slice none 0 0]), (w2.heap.size, #[.int .u8 3, .int .i64 0, .string ⟨#[98]⟩, .slice none 0 0]), (w1.heap.size, #[.int .u8 3, .int .i64 0, .string ⟨#[97]⟩, .slice none 0 0])]) (by simp) #[.int .u8 (opR i : Int), .int .i64 0, .string ⟨#[]⟩, .slice (some ⟨v27.heap.size, 0, none⟩) 2 2] (fun p hp => by simp only [List.mem_cons, List.not_mem_nil, or_false] at hp; rcases hp with rfl | rfl | rfl | rfl | rfl | rfl | rfl | rfl <;> exact ⟨by simp, by dsimp only; omega⟩) (by omega))
                  refine hK.out _ _ ?_ (fun hHeld => ?_)
                  · exact SA _ (RZ.out.less (by simp))
                  clear hK K
                  refine wpAnyH_done (by kernel_rfl) ?_ _
                  exact ⟨W.heap.size + 1, W.heap.size, v27.heap.size, RZ.out, _, _, _, _, _, _, _, _, _, _, _, _, _, _, _, _, _, _, _, _, _, _, _, _, _, _, _, _, _, _, _, _, _, _, _, _, _, _, _, _, _, _, _, _, _, _, rfl⟩
      · go_simp
        have R34 := hid (R10d.out.pushAt c25 (b := W.heap.size) (by simp))
        refine hK.out _ _ ?_ (fun hHeld => ?_)
        · exact SA _ (R34.out.less (by simp))
        clear hK K
        refine wpAnyH_ready (rs := [11]) (by kernel_rfl) (by simp) ?_
        refine AllReadyH.cons (o := { dst := some 58, op := Go.Op.buildSlice 24 2 #[(0, Go.Operand.tmp 56), (1, Go.Operand.tmp 57)], type := 24, pos := _, after := #[{ on := 9, ground := Go.Ground.data }, { on := 10, ground := Go.Ground.data }], guard := none }) rfl (fun K hK => ?_) AllReadyH.nil
        · refine if_take (by rfl) ?_
          obtain ⟨ie, hie, hz, hsz⟩ := inf25
          refine wp_buildSlice 24 26 2 _ rfl #[.int .u8 3, .int .i64 0, .string ⟨#[98]⟩, .slice none 0 0, .int .u8 3, .int .i64 0, .string ⟨#[99]⟩, .slice none 0 0] ie z25 Tryd.underlying24 hie hz (by rw [hsz]; decide) (by rw [hsz]; decide) (by rw [hsz]; simp only [List.map_toArray, List.map_cons, List.map_nil]; exact fill2R _ _ _ _ _ _ _ _) ?_
          clear hie hz hsz
          have R36 := hid (R34.out.pushAt #[.int .u8 3, .int .i64 0, .string ⟨#[98]⟩, .slice none 0 0, .int .u8 3, .int .i64 0, .string ⟨#[99]⟩, .slice none 0 0] (b := W.heap.size + 1) (by simp))
          refine hK.out _ _ ?_ (fun hHeld => ?_)
          · exact SA _ (R36.out.less (by simp))
          clear hK K
          simp only [Act.put, List.setIfInBounds_toArray, List.set_cons_zero, List.set_cons_succ]
          refine wpAnyH_ready (rs := [12]) (by kernel_rfl) (by simp) ?_
          refine AllReadyH.cons (o := { dst := some 59, op := Go.Op.call { callee := Go.Callee.value (Go.Operand.func 7), args := #[Go.Operand.tmp 55, Go.Operand.tmp 58], argTypes := #[23, 24] }, type := 26, pos := _, after := #[{ on := 8, ground := Go.Ground.data }, { on := 11, ground := Go.Ground.data }], guard := none }) rfl (fun K hK => ?_) AllReadyH.nil
          · go_simp
            refine (of_pl _ _ _ _ _).mono ?_
            rintro e v38 ⟨rfl, b38⟩
            have R38 := hid (R36.out.step b38)
            have s38 : W.heap.size + 1 + 1 ≤ v38.heap.size := by have := b38.size; simpa using this
            go_wp2_with fail
            refine hK.out _ _ ?_ (fun hHeld => ?_)
            · exact SA _ (R38.out.less (by simp))
            clear hK K
            refine wpAnyH_ready (rs := [13]) (by kernel_rfl) (by simp) ?_
            refine AllReadyH.cons (o := { dst := some 60, op := Go.Op.buildSlice 24 2 #[(0, Go.Operand.tmp 51), (1, Go.Operand.tmp 59)], type := 24, pos := _, after := #[{ on := 4, ground := Go.Ground.data }, { on := 12, ground := Go.Ground.data }], guard := none }) rfl (fun K hK => ?_) AllReadyH.nil
            · refine if_take (by rfl) ?_
              obtain ⟨ie, hie, hz, hsz⟩ := inf25
              refine wp_buildSlice 24 26 2 _ rfl #[.int .u8 3, .int .i64 0, .string ⟨#[97]⟩, .slice none 0 0, .int .u8 (opR k : Int), .int .i64 0, .string ⟨#[]⟩, .slice (some ⟨W.heap.size + 1, 0, none⟩) 2 2] ie z25 Tryd.underlying24 hie hz (by rw [hsz]; decide) (by rw [hsz]; decide) (by rw [hsz]; simp only [List.map_toArray, List.map_cons, List.map_nil]; exact fill2R _ _ _ _ _ _ _ _) ?_
              clear hie hz hsz
              have R40 := hid (R38.out.pushAt #[.int .u8 3, .int .i64 0, .string ⟨#[97]⟩, .slice none 0 0, .int .u8 (opR k : Int), .int .i64 0, .string ⟨#[]⟩, .slice (some ⟨W.heap.size + 1, 0, none⟩) 2 2] (b := v38.heap.size) (by simp))
              refine hK.out _ _ ?_ (fun hHeld => ?_)
              · exact SA _ (R40.out.less (by simp))
              clear hK K
              simp only [Act.put, List.setIfInBounds_toArray, List.set_cons_zero, List.set_cons_succ]
              refine wpAnyH_ready (rs := [14]) (by kernel_rfl) (by simp) ?_
              refine AllReadyH.cons (o := { dst := some 61, op := Go.Op.call { callee := Go.Callee.value (Go.Operand.func 7), args := #[Go.Operand.tmp 50, Go.Operand.tmp 60], argTypes := #[23, 24] }, type := 26, pos := _, after := #[{ on := 3, ground := Go.Ground.data }, { on := 13, ground := Go.Ground.data }, { on := 12, ground := Go.Ground.chain }], guard := none }) rfl (fun K hK => ?_) AllReadyH.nil
              · go_simp
                refine (of_pl _ _ _ _ _).mono ?_
                rintro e v42 ⟨rfl, b42⟩
                have R42 := hid (R40.out.step b42)
                have s42 : v38.heap.size + 1 ≤ v42.heap.size := by have := b42.size; simpa using this
                go_wp2_with fail
                refine hK.out _ _ ?_ (fun hHeld => ?_)
                · exact SA _ (R42.out.less (by simp))
                clear hK K
                refine wpAnyH_ready (rs := [16]) (by kernel_rfl) (by simp) ?_
                refine AllReadyH.cons (o := { dst := none, op := Go.Op.store 26 (Go.Operand.tmp 14) (Go.Operand.tmp 61), type := 0, pos := _, after := #[{ on := 15, ground := Go.Ground.data }, { on := 14, ground := Go.Ground.data }, { on := 14, ground := Go.Ground.chain }, { on := 0, ground := Go.Ground.phase }, { on := 1, ground := Go.Ground.phase }, { on := 2, ground := Go.Ground.phase }, { on := 3, ground := Go.Ground.phase }, { on := 4, ground := Go.Ground.phase }, { on := 5, ground := Go.Ground.phase }, { on := 6, ground := Go.Ground.phase }, { on := 7, ground := Go.Ground.phase }, { on := 8, ground := Go.Ground.phase }, { on := 9, ground := Go.Ground.phase }, { on := 10, ground := Go.Ground.phase }, { on := 11, ground := Go.Ground.phase }, { on := 12, ground := Go.Ground.phase }, { on := 13, ground := Go.Ground.phase }, { on := 14, ground := Go.Ground.phase }, { on := 15, ground := Go.Ground.phase }], guard := none }) rfl (fun K hK => ?_) AllReadyH.nil
                · refine if_take (by rfl) ?_
                  refine wp_store_row 26 _ _ rfl (W.heap.size) #[.int .u8 (opR i : Int), .int .i64 0, .string ⟨#[]⟩, .slice (some ⟨v38.heap.size, 0, none⟩) 2 2] rfl rfl 26 _ (R42.out.av.row (W.heap.size) c25 (by simp)) info25 rfl (by simp [Value.oneCell']) ?_
                  have RZ := hid (R42.out.setRow (kl := W.heap.size) (c0 := c25) (L' := [(v38.heap.size, #[.int .u8 3, .int .i64 0, .string ⟨#[97]⟩, .slice none 0 0, .int .u8 (opR k : Int), .int .i64 0, .string ⟨#[]⟩, .slice (some ⟨W.heap.size + 1, 0, none⟩) 2 2]), (W.heap.size + 1, #[.int .u8 3, .int .i64 0, .string ⟨#[98]⟩, .slice none 0 0, .int .u8 3, .int .i64 0, .string ⟨#[99]⟩, .slice none 0 0]), (kl, #[.int .u8 (opR k : Int), .int .i64 0, .string ⟨#[]⟩, .slice (some ⟨g2, 0, none⟩) 2 2]), (g2, #[.int .u8 (opR i : Int), .int .i64 0, .string ⟨#[]⟩, .slice (some ⟨g1, 0, none⟩) 2 2, .int .u8 3, .int .i64 0, .string ⟨#[99]⟩, .slice none 0 0]), (g1, #[.int .u8 3, .int .i64 0, .string ⟨#[97]⟩, .slice none 0 0, .int .u8 3, .int .i64 0, .string ⟨#[98]⟩, .slice none 0 0]), (w3.heap.size, #[.int .u8 3, .int .i64 0, .string ⟨#[99]⟩, .slice none 0 0]), (w2.heap.size, #[.int .u8 3, .int .i64 0, .string ⟨#[98]⟩, .slice none 0 0]), (w1.heap.size, #[.int .u8 3, .int .i64 0, .string ⟨#[97]⟩, .slice none 0 0])]) (by simp) #[.int .u8 (opR i : Int), .int .i64 0, .string ⟨#[]⟩, .slice (some ⟨v38.heap.size, 0, none⟩) 2 2] (fun p hp => by simp only [List.mem_cons, List.not_mem_nil, or_false] at hp; rcases hp with rfl | rfl | rfl | rfl | rfl | rfl | rfl | rfl <;> exact ⟨by simp, by dsimp only; omega⟩) (by omega))
                  refine hK.out _ _ ?_ (fun hHeld => ?_)
                  · exact SA _ (RZ.out.less (by simp))
                  clear hK K
                  refine wpAnyH_done (by kernel_rfl) ?_ _
                  exact ⟨W.heap.size, W.heap.size + 1, v38.heap.size, RZ.out, _, _, _, _, _, _, _, _, _, _, _, _, _, _, _, _, _, _, _, _, _, _, _, _, _, _, _, _, _, _, _, _, _, _, _, _, _, _, _, _, _, _, _, _, _, _, rfl⟩
    case go =>
      rintro e a W2 h
      obtain rfl : e = .normal := by cases e <;> first | rfl | exact h.elim
      obtain ⟨kr, h1, h2, hR, u0, u1, u2, u3, u20, u21, u22, u23, u24, u25, u26, u27, u28, u29, u30, u31, u32, u33, u34, u35, u36, u37, u38, u39, u40, u41, u42, u43, u44, u45, u46, u47, u48, u49, u50, u51, u52, u53, u54, u55, u56, u57, u58, u59, u60, u61, rfl⟩ := h
      have R11 := hid hR
      clear hR R10 R10d l0 l1 l2 l3 l4 l5 l6 SA
      have hri : opR i < 256 := opR_lt i hi
      have hrk : opR k < 256 := opR_lt k hk
      have SL := hid (fun (V : World) (h : RV w [(kr, #[.int .u8 (opR i : Int), .int .i64 0, .string ⟨#[]⟩, .slice (some ⟨h2, 0, none⟩) 2 2]), (h2, #[.int .u8 3, .int .i64 0, .string ⟨#[97]⟩, .slice none 0 0, .int .u8 (opR k : Int), .int .i64 0, .string ⟨#[]⟩, .slice (some ⟨h1, 0, none⟩) 2 2]), (h1, #[.int .u8 3, .int .i64 0, .string ⟨#[98]⟩, .slice none 0 0, .int .u8 3, .int .i64 0, .string ⟨#[99]⟩, .slice none 0 0]), (kl, #[.int .u8 (opR k : Int), .int .i64 0, .string ⟨#[]⟩, .slice (some ⟨g2, 0, none⟩) 2 2]), (g2, #[.int .u8 (opR i : Int), .int .i64 0, .string ⟨#[]⟩, .slice (some ⟨g1, 0, none⟩) 2 2, .int .u8 3, .int .i64 0, .string ⟨#[99]⟩, .slice none 0 0]), (g1, #[.int .u8 3, .int .i64 0, .string ⟨#[97]⟩, .slice none 0 0, .int .u8 3, .int .i64 0, .string ⟨#[98]⟩, .slice none 0 0]), (w3.heap.size, #[.int .u8 3, .int .i64 0, .string ⟨#[99]⟩, .slice none 0 0]), (w2.heap.size, #[.int .u8 3, .int .i64 0, .string ⟨#[98]⟩, .slice none 0 0]), (w1.heap.size, #[.int .u8 3, .int .i64 0, .string ⟨#[97]⟩, .slice none 0 0])] V) => (StP.twoL (ok := TT) (W := V) (x := opE (opR i) [exA, exB]) (y := exC) (s := sl2 g1) (t := N0) (opR k) hrk g2 trivial (StP.twoL (ok := TT) (x := exA) (y := exB) (s := N0) (t := N0) (opR i) hri g1 trivial (leafN _ 97) (leafN _ 98) (h.av.rows (g1, #[.int .u8 3, .int .i64 0, .string ⟨#[97]⟩, .slice none 0 0, .int .u8 3, .int .i64 0, .string ⟨#[98]⟩, .slice none 0 0]) (by simp))) (leafN _ 99) (h.av.rows (g2, #[.int .u8 (opR i : Int), .int .i64 0, .string ⟨#[]⟩, .slice (some ⟨g1, 0, none⟩) 2 2, .int .u8 3, .int .i64 0, .string ⟨#[99]⟩, .slice none 0 0]) (by simp))).st)
      have SR := hid (fun (V : World) (h : RV w [(kr, #[.int .u8 (opR i : Int), .int .i64 0, .string ⟨#[]⟩, .slice (some ⟨h2, 0, none⟩) 2 2]), (h2, #[.int .u8 3, .int .i64 0, .string ⟨#[97]⟩, .slice none 0 0, .int .u8 (opR k : Int), .int .i64 0, .string ⟨#[]⟩, .slice (some ⟨h1, 0, none⟩) 2 2]), (h1, #[.int .u8 3, .int .i64 0, .string ⟨#[98]⟩, .slice none 0 0, .int .u8 3, .int .i64 0, .string ⟨#[99]⟩, .slice none 0 0]), (kl, #[.int .u8 (opR k : Int), .int .i64 0, .string ⟨#[]⟩, .slice (some ⟨g2, 0, none⟩) 2 2]), (g2, #[.int .u8 (opR i : Int), .int .i64 0, .string ⟨#[]⟩, .slice (some ⟨g1, 0, none⟩) 2 2, .int .u8 3, .int .i64 0, .string ⟨#[99]⟩, .slice none 0 0]), (g1, #[.int .u8 3, .int .i64 0, .string ⟨#[97]⟩, .slice none 0 0, .int .u8 3, .int .i64 0, .string ⟨#[98]⟩, .slice none 0 0]), (w3.heap.size, #[.int .u8 3, .int .i64 0, .string ⟨#[99]⟩, .slice none 0 0]), (w2.heap.size, #[.int .u8 3, .int .i64 0, .string ⟨#[98]⟩, .slice none 0 0]), (w1.heap.size, #[.int .u8 3, .int .i64 0, .string ⟨#[97]⟩, .slice none 0 0])] V) => (StP.twoL (ok := TT) (W := V) (x := exA) (y := opE (opR k) [exB, exC]) (s := N0) (t := sl2 h1) (opR i) hri h2 trivial (leafN _ 97) (StP.twoL (ok := TT) (x := exB) (y := exC) (s := N0) (t := N0) (opR k) hrk h1 trivial (leafN _ 98) (leafN _ 99) (h.av.rows (h1, #[.int .u8 3, .int .i64 0, .string ⟨#[98]⟩, .slice none 0 0, .int .u8 3, .int .i64 0, .string ⟨#[99]⟩, .slice none 0 0]) (by simp))) (h.av.rows (h2, #[.int .u8 3, .int .i64 0, .string ⟨#[97]⟩, .slice none 0 0, .int .u8 (opR k : Int), .int .i64 0, .string ⟨#[]⟩, .slice (some ⟨h1, 0, none⟩) 2 2]) (by simp))).st)
      have c0 := R11.out.sg hi
      have c1 := R11.out.sg hk
      have d0 := R11.out.rk hi
      have d1 := R11.out.rk hk
      have zi : (⟨(sgR i).toArray⟩ : ByteArray).size ≤ 3 := sgR_len i hi
      have zk : (⟨(sgR k).toArray⟩ : ByteArray).size ≤ 3 := sgR_len k hk
      have e1 : (⟨(sgR i).toArray⟩ : ByteArray).data.toList = sgR i := rfl
      have e2 : (⟨(sgR k).toArray⟩ : ByteArray).data.toList = sgR k := rfl
      have E1 := hid e1
      have E2 := hid e2
      clear e1 e2
      generalize (⟨(sgR i).toArray⟩ : ByteArray) = si at *
      generalize (⟨(sgR k).toArray⟩ : ByteArray) = sk at *
      go_wp2_with (fail)
      go_region
      go_wp2_with (fail)
      go_region
      go_wp2_with (fail)
      go_region
      have hpl : (plS si sk).data.toList = plainR i k := by unfold plS plainR; simp only [app_bytes]; rw [E1.out, E2.out]
      have hfi : (fiS si sk).data.toList = firstR i k := by unfold fiS firstR; simp only [app_bytes]; rw [E1.out, E2.out]
      have hse : (seS si sk).data.toList = secondR i k := by unfold seS secondR; simp only [app_bytes]; rw [E1.out, E2.out]
      have zpl : (plS si sk).size ≤ 65536 := by unfold plS; simp only [ByteArray.size_append]; rw [show (⟨#[97, 32]⟩ : ByteArray).size = 2 from rfl, show (⟨#[32, 98, 32]⟩ : ByteArray).size = 3 from rfl, show (⟨#[32, 99]⟩ : ByteArray).size = 2 from rfl]; omega
      have zfi : (fiS si sk).size ≤ 65536 := by unfold fiS; simp only [ByteArray.size_append]; rw [show (⟨#[40, 97, 32]⟩ : ByteArray).size = 3 from rfl, show (⟨#[32, 98, 41, 32]⟩ : ByteArray).size = 4 from rfl, show (⟨#[32, 99]⟩ : ByteArray).size = 2 from rfl]; omega
      have zse : (seS si sk).size ≤ 65536 := by unfold seS; simp only [ByteArray.size_append]; rw [show (⟨#[97, 32]⟩ : ByteArray).size = 2 from rfl, show (⟨#[32, 40, 98, 32]⟩ : ByteArray).size = 4 from rfl, show (⟨#[32, 99, 41]⟩ : ByteArray).size = 3 from rfl]; omega
      have HW := hid (wrR hi hk)
      have HCH := hid (chkR hi hk)
      have HNO := hid (fun h => no_plainR hi hk h)
      have HPL := hid hpl
      have HFI := hid hfi
      have HSE := hid hse
      have R12 := hid R11.out.drew.drew.drew
      have cL := hid (show ∀ V, RV w [(kr, #[.int .u8 (opR i : Int), .int .i64 0, .string ⟨#[]⟩, .slice (some ⟨h2, 0, none⟩) 2 2]), (h2, #[.int .u8 3, .int .i64 0, .string ⟨#[97]⟩, .slice none 0 0, .int .u8 (opR k : Int), .int .i64 0, .string ⟨#[]⟩, .slice (some ⟨h1, 0, none⟩) 2 2]), (h1, #[.int .u8 3, .int .i64 0, .string ⟨#[98]⟩, .slice none 0 0, .int .u8 3, .int .i64 0, .string ⟨#[99]⟩, .slice none 0 0]), (kl, #[.int .u8 (opR k : Int), .int .i64 0, .string ⟨#[]⟩, .slice (some ⟨g2, 0, none⟩) 2 2]), (g2, #[.int .u8 (opR i : Int), .int .i64 0, .string ⟨#[]⟩, .slice (some ⟨g1, 0, none⟩) 2 2, .int .u8 3, .int .i64 0, .string ⟨#[99]⟩, .slice none 0 0]), (g1, #[.int .u8 3, .int .i64 0, .string ⟨#[97]⟩, .slice none 0 0, .int .u8 3, .int .i64 0, .string ⟨#[98]⟩, .slice none 0 0]), (w3.heap.size, #[.int .u8 3, .int .i64 0, .string ⟨#[99]⟩, .slice none 0 0]), (w2.heap.size, #[.int .u8 3, .int .i64 0, .string ⟨#[98]⟩, .slice none 0 0]), (w1.heap.size, #[.int .u8 3, .int .i64 0, .string ⟨#[97]⟩, .slice none 0 0])] V → ∀ s : ByteArray, s.size ≤ 65536 → wr (leftR i k) = s.data.toList → Calls Tryd.prog 16 #[.string s, .agg #[.int .u8 (opR k : Int), .int .i64 0, .string ⟨#[]⟩, .slice (some ⟨g2, 0, none⟩) 2 2]] V (fun e w' => e = .returned (.bool true) ∧ Below V.heap.size V w') from fun V h s hs hw => is2 s (leftR i k) (some ⟨g2, 0, none⟩) 2 V hs (HA.out.below h.av.below) HCH.out.1 hw (SL.out V h))
      have cR := hid (show ∀ V, RV w [(kr, #[.int .u8 (opR i : Int), .int .i64 0, .string ⟨#[]⟩, .slice (some ⟨h2, 0, none⟩) 2 2]), (h2, #[.int .u8 3, .int .i64 0, .string ⟨#[97]⟩, .slice none 0 0, .int .u8 (opR k : Int), .int .i64 0, .string ⟨#[]⟩, .slice (some ⟨h1, 0, none⟩) 2 2]), (h1, #[.int .u8 3, .int .i64 0, .string ⟨#[98]⟩, .slice none 0 0, .int .u8 3, .int .i64 0, .string ⟨#[99]⟩, .slice none 0 0]), (kl, #[.int .u8 (opR k : Int), .int .i64 0, .string ⟨#[]⟩, .slice (some ⟨g2, 0, none⟩) 2 2]), (g2, #[.int .u8 (opR i : Int), .int .i64 0, .string ⟨#[]⟩, .slice (some ⟨g1, 0, none⟩) 2 2, .int .u8 3, .int .i64 0, .string ⟨#[99]⟩, .slice none 0 0]), (g1, #[.int .u8 3, .int .i64 0, .string ⟨#[97]⟩, .slice none 0 0, .int .u8 3, .int .i64 0, .string ⟨#[98]⟩, .slice none 0 0]), (w3.heap.size, #[.int .u8 3, .int .i64 0, .string ⟨#[99]⟩, .slice none 0 0]), (w2.heap.size, #[.int .u8 3, .int .i64 0, .string ⟨#[98]⟩, .slice none 0 0]), (w1.heap.size, #[.int .u8 3, .int .i64 0, .string ⟨#[97]⟩, .slice none 0 0])] V → ∀ s : ByteArray, s.size ≤ 65536 → wr (rightR i k) = s.data.toList → Calls Tryd.prog 16 #[.string s, .agg #[.int .u8 (opR i : Int), .int .i64 0, .string ⟨#[]⟩, .slice (some ⟨h2, 0, none⟩) 2 2]] V (fun e w' => e = .returned (.bool true) ∧ Below V.heap.size V w') from fun V h s hs hw => is2 s (rightR i k) (some ⟨h2, 0, none⟩) 2 V hs (HA.out.below h.av.below) HCH.out.2 hw (SR.out V h))
      have hP1 : (⟨#[97, 32]⟩ : ByteArray) ++ si ++ ⟨#[32, 98, 32]⟩ ++ sk ++ ⟨#[32, 99]⟩ = plS si sk := rfl
      have hP2 : (⟨#[40, 97, 32]⟩ : ByteArray) ++ si ++ ⟨#[32, 98, 41, 32]⟩ ++ sk ++ ⟨#[32, 99]⟩ = fiS si sk := rfl
      have hP3 : (⟨#[97, 32]⟩ : ByteArray) ++ si ++ ⟨#[32, 40, 98, 32]⟩ ++ sk ++ ⟨#[32, 99, 41]⟩ = seS si sk := rfl
      rw [hP1, hP2, hP3]
      clear hP1 hP2 hP3 hpl hfi hse E1 E2 zi zk c0 c1 d0 d1 R11 SL SR
      generalize plS si sk = pl at *
      generalize fiS si sk = fi at *
      generalize seS si sk = se at *
      generalize W2.drew.drew.drew = W5 at *
      have d0 := R12.out.rk hi
      have d1 := R12.out.rk hk
      by_cases h3 : rkR i = 3 ∧ rkR k = 3
      · have hx : ((rkR i : Int) == 3) = true := by rw [beq_iff_eq]; omega
        have hy : ((rkR k : Int) == 3) = true := by rw [beq_iff_eq]; omega
        have w1' := hid (HW.out.1 h3)
        have hno : readX pl.data.toList = none := by rw [HPL.out]; exact HNO.out h3
        have cE := readE pl W5 zpl (HA.out.below R12.out.av.below)
        rw [hno] at cE
        clear h3 hno
        generalize rkR i = ri at *
        generalize rkR k = rk at *
        go_wp2_with (fail)
        refine cE.mono ?_
        rintro e w5 ⟨b5, x5, ao5, cap5, rfl, _, _⟩
        have R13 := hid ((R12.out.step b5).push (ex4 x5 (.slice ao5 x5.args.length cap5)))
        have R13' := hid (R13.out.less (L2 := [(kr, #[.int .u8 (opR i : Int), .int .i64 0, .string ⟨#[]⟩, .slice (some ⟨h2, 0, none⟩) 2 2]), (h2, #[.int .u8 3, .int .i64 0, .string ⟨#[97]⟩, .slice none 0 0, .int .u8 (opR k : Int), .int .i64 0, .string ⟨#[]⟩, .slice (some ⟨h1, 0, none⟩) 2 2]), (h1, #[.int .u8 3, .int .i64 0, .string ⟨#[98]⟩, .slice none 0 0, .int .u8 3, .int .i64 0, .string ⟨#[99]⟩, .slice none 0 0]), (kl, #[.int .u8 (opR k : Int), .int .i64 0, .string ⟨#[]⟩, .slice (some ⟨g2, 0, none⟩) 2 2]), (g2, #[.int .u8 (opR i : Int), .int .i64 0, .string ⟨#[]⟩, .slice (some ⟨g1, 0, none⟩) 2 2, .int .u8 3, .int .i64 0, .string ⟨#[99]⟩, .slice none 0 0]), (g1, #[.int .u8 3, .int .i64 0, .string ⟨#[97]⟩, .slice none 0 0, .int .u8 3, .int .i64 0, .string ⟨#[98]⟩, .slice none 0 0]), (w3.heap.size, #[.int .u8 3, .int .i64 0, .string ⟨#[99]⟩, .slice none 0 0]), (w2.heap.size, #[.int .u8 3, .int .i64 0, .string ⟨#[98]⟩, .slice none 0 0]), (w1.heap.size, #[.int .u8 3, .int .i64 0, .string ⟨#[97]⟩, .slice none 0 0])]) (by simp))
        clear b5 R13 cE
        go_wp2_with (fail)
        refine (alive _ (HA.out.below R13'.out.av.below)).mono ?_
        rintro e w6 ⟨rfl, b6⟩
        have R14 := hid (R13'.out.step b6)
        obtain ⟨y0, y1, y2, y3⟩ := R14.out.row4 kl (.int .u8 (opR k : Int)) (.int .i64 0) (.string ⟨#[]⟩) (.slice (some ⟨g2, 0, none⟩) 2 2) (by simp)
        clear b6 R13'
        go_wp2_with (fail)
        refine (cL.out _ R14.out fi zfi (by rw [HFI.out]; exact w1'.out.1)).mono ?_
        rintro e w7 ⟨rfl, b7⟩
        have R15 := hid (R14.out.step b7)
        clear b7 R14 y0 y1 y2 y3
        obtain ⟨y0, y1, y2, y3⟩ := R15.out.row4 kr (.int .u8 (opR i : Int)) (.int .i64 0) (.string ⟨#[]⟩) (.slice (some ⟨h2, 0, none⟩) 2 2) (by simp)
        go_wp2_with (fail)
        refine (cR.out _ R15.out se zse (by rw [HSE.out]; exact w1'.out.2)).mono ?_
        rintro e w8 ⟨rfl, b8⟩
        have hB := (R15.out.step b8).av.below
        go_wp2_with (fail)
        go_ret
        exact ⟨rfl, hB⟩
      · by_cases hg : rkR k < rkR i ∨ rkR i = rkR k ∧ 0 < rkR i
        · have w1' := hid (HW.out.2.1 h3 hg)
          by_cases hx3 : rkR i = 3
          · by_cases hl : rkR k < rkR i
            · have hx : ((rkR i : Int) == 3) = true := by rw [beq_iff_eq]; omega
              have hy : ((rkR k : Int) == 3) = false := by rw [beq_eq_false_iff_ne]; omega
              clear hx3
              have hl' : (rkR k : Int) < (rkR i : Int) := by omega
              clear hl h3 hg
              generalize rkR i = ri at *
              generalize rkR k = rk at *
              go_wp2_with (fail)
              refine wp_region_held_drew (S := fun V => V.cell? ⟨w.heap.size + 1 + 1, i, none⟩ = some (.int .i64 (ri : Int)) ∧ V.cell? ⟨w.heap.size + 1 + 1, k, none⟩ = some (.int .i64 (rk : Int))) (by kernel_rfl) ?_ (fun hHeld => ?_)
              · exact ⟨d0, d1⟩
              refine wpAnyH_take (i := 0) (oi := { dst := some 130, op := Go.Op.move (Go.Operand.tmp 7), type := 45, pos := _, after := #[], guard := none }) (v := ?_) rfl (by kernel_rfl) (by kernel_rfl) (by kernel_rfl) (fun _ _ _ h => h) (Or.inl ⟨by rfl, ?_⟩) (by assumption) ?_
              rotate_left
              · intro w hSw; (try dsimp only at hSw); go_simp <;> first | with_reducible rfl | (rw [if_neg (by first | omega | (simp only [ByteArray.size_append] at *; omega))])
              simp only [Act.put, List.setIfInBounds_toArray, List.set_cons_zero, List.set_cons_succ]
              refine wpAnyH_take (i := 1) (oi := { dst := some 131, op := Go.Op.move (Go.Operand.tmp 8), type := 3, pos := _, after := #[], guard := none }) (v := ?_) rfl (by kernel_rfl) (by kernel_rfl) (by kernel_rfl) (fun _ _ _ h => h) (Or.inl ⟨by rfl, ?_⟩) (by assumption) ?_
              rotate_left
              · intro w hSw; (try dsimp only at hSw); go_simp <;> first | with_reducible rfl | (rw [if_neg (by first | omega | (simp only [ByteArray.size_append] at *; omega))])
              simp only [Act.put, List.setIfInBounds_toArray, List.set_cons_zero, List.set_cons_succ]
              refine wpAnyH_take (i := 2) (oi := { dst := some 132, op := Go.Op.indexAddr 45 (Go.Operand.tmp 130) (Go.Operand.tmp 131), type := 0, pos := _, after := #[{ on := 0, ground := Go.Ground.data }, { on := 1, ground := Go.Ground.data }], guard := none }) (v := ?_) rfl (by kernel_rfl) (by kernel_rfl) (by kernel_rfl) (fun _ _ _ h => h) (Or.inl ⟨by rfl, ?_⟩) (by assumption) ?_
              rotate_left
              · intro w hSw; (try dsimp only at hSw); go_simp <;> first | with_reducible rfl | (rw [if_neg (by first | omega | (simp only [ByteArray.size_append] at *; omega))])
              simp only [Act.put, List.setIfInBounds_toArray, List.set_cons_zero, List.set_cons_succ]
              refine wpAnyH_take (i := 3) (oi := { dst := some 133, op := Go.Op.load 3 (Go.Operand.tmp 132), type := 3, pos := _, after := #[{ on := 2, ground := Go.Ground.data }], guard := none }) (v := ?_) rfl (by kernel_rfl) (by kernel_rfl) (by kernel_rfl) (fun _ _ _ h => h) (Or.inl ⟨by rfl, ?_⟩) (by assumption) ?_
              rotate_left
              · intro w hSw; (try dsimp only at hSw); go_simp <;> first | with_reducible rfl | (rw [if_neg (by first | omega | (simp only [ByteArray.size_append] at *; omega))])
              simp only [Act.put, List.setIfInBounds_toArray, List.set_cons_zero, List.set_cons_succ]
              refine wpAnyH_take (i := 4) (oi := { dst := some 134, op := Go.Op.move (Go.Operand.tmp 7), type := 45, pos := _, after := #[], guard := none }) (v := ?_) rfl (by kernel_rfl) (by kernel_rfl) (by kernel_rfl) (fun _ _ _ h => h) (Or.inl ⟨by rfl, ?_⟩) (by assumption) ?_
              rotate_left
              · intro w hSw; (try dsimp only at hSw); go_simp <;> first | with_reducible rfl | (rw [if_neg (by first | omega | (simp only [ByteArray.size_append] at *; omega))])
              simp only [Act.put, List.setIfInBounds_toArray, List.set_cons_zero, List.set_cons_succ]
              refine wpAnyH_take (i := 5) (oi := { dst := some 135, op := Go.Op.move (Go.Operand.tmp 9), type := 3, pos := _, after := #[], guard := none }) (v := ?_) rfl (by kernel_rfl) (by kernel_rfl) (by kernel_rfl) (fun _ _ _ h => h) (Or.inl ⟨by rfl, ?_⟩) (by assumption) ?_
              rotate_left
              · intro w hSw; (try dsimp only at hSw); go_simp <;> first | with_reducible rfl | (rw [if_neg (by first | omega | (simp only [ByteArray.size_append] at *; omega))])
              simp only [Act.put, List.setIfInBounds_toArray, List.set_cons_zero, List.set_cons_succ]
              refine wpAnyH_take (i := 6) (oi := { dst := some 136, op := Go.Op.indexAddr 45 (Go.Operand.tmp 134) (Go.Operand.tmp 135), type := 0, pos := _, after := #[{ on := 4, ground := Go.Ground.data }, { on := 5, ground := Go.Ground.data }], guard := none }) (v := ?_) rfl (by kernel_rfl) (by kernel_rfl) (by kernel_rfl) (fun _ _ _ h => h) (Or.inl ⟨by rfl, ?_⟩) (by assumption) ?_
              rotate_left
              · intro w hSw; (try dsimp only at hSw); go_simp <;> first | with_reducible rfl | (rw [if_neg (by first | omega | (simp only [ByteArray.size_append] at *; omega))])
              simp only [Act.put, List.setIfInBounds_toArray, List.set_cons_zero, List.set_cons_succ]
              refine wpAnyH_take (i := 7) (oi := { dst := some 137, op := Go.Op.load 3 (Go.Operand.tmp 136), type := 3, pos := _, after := #[{ on := 6, ground := Go.Ground.data }], guard := none }) (v := ?_) rfl (by kernel_rfl) (by kernel_rfl) (by kernel_rfl) (fun _ _ _ h => h) (Or.inl ⟨by rfl, ?_⟩) (by assumption) ?_
              rotate_left
              · intro w hSw; (try dsimp only at hSw); go_simp <;> first | with_reducible rfl | (rw [if_neg (by first | omega | (simp only [ByteArray.size_append] at *; omega))])
              simp only [Act.put, List.setIfInBounds_toArray, List.set_cons_zero, List.set_cons_succ]
              refine wpAnyH_take (i := 8) (oi := { dst := some 138, op := Go.Op.binOp Go.BinOp.gtr 3 (Go.Operand.tmp 133) (Go.Operand.tmp 137) 3, type := 4, pos := _, after := #[{ on := 3, ground := Go.Ground.data }, { on := 7, ground := Go.Ground.data }], guard := none }) (v := ?_) rfl (by kernel_rfl) (by kernel_rfl) (by kernel_rfl) (fun _ _ _ h => h) (Or.inl ⟨by rfl, ?_⟩) (by assumption) ?_
              rotate_left
              · intro w hSw; (try dsimp only at hSw); go_simp <;> first | with_reducible rfl | (rw [if_neg (by first | omega | (simp only [ByteArray.size_append] at *; omega))])
              simp only [Act.put, List.setIfInBounds_toArray, List.set_cons_zero, List.set_cons_succ]
              refine wpAnyH_take (i := 9) (oi := { dst := some 139, op := Go.Op.move (Go.Operand.tmp 138), type := 4, pos := _, after := #[{ on := 8, ground := Go.Ground.data }], guard := none }) (v := ?_) rfl (by kernel_rfl) (by kernel_rfl) (by kernel_rfl) (fun _ _ _ h => h) (Or.inl ⟨by rfl, ?_⟩) (by assumption) ?_
              rotate_left
              · intro w hSw; (try dsimp only at hSw); go_simp <;> first | with_reducible rfl | (rw [if_neg (by first | omega | (simp only [ByteArray.size_append] at *; omega))])
              simp only [Act.put, List.setIfInBounds_toArray, List.set_cons_zero, List.set_cons_succ]
              refine wpAnyH_take (i := 10) (oi := { dst := some 140, op := Go.Op.move (Go.Operand.tmp 7), type := 45, pos := _, after := #[{ on := 9, ground := Go.Ground.guard }], guard := some (9, false) }) (v := undef) rfl (by kernel_rfl) (by kernel_rfl) (by kernel_rfl) (fun _ _ _ h => h) (Or.inr ⟨by rfl, rfl⟩) (by assumption) ?_
              simp only [Act.put, List.setIfInBounds_toArray, List.set_cons_zero, List.set_cons_succ]
              refine wpAnyH_take (i := 11) (oi := { dst := some 141, op := Go.Op.move (Go.Operand.tmp 8), type := 3, pos := _, after := #[{ on := 9, ground := Go.Ground.guard }], guard := some (9, false) }) (v := undef) rfl (by kernel_rfl) (by kernel_rfl) (by kernel_rfl) (fun _ _ _ h => h) (Or.inr ⟨by rfl, rfl⟩) (by assumption) ?_
              simp only [Act.put, List.setIfInBounds_toArray, List.set_cons_zero, List.set_cons_succ]
              refine wpAnyH_take (i := 12) (oi := { dst := some 142, op := Go.Op.indexAddr 45 (Go.Operand.tmp 140) (Go.Operand.tmp 141), type := 0, pos := _, after := #[{ on := 10, ground := Go.Ground.data }, { on := 11, ground := Go.Ground.data }, { on := 9, ground := Go.Ground.guard }], guard := some (9, false) }) (v := undef) rfl (by kernel_rfl) (by kernel_rfl) (by kernel_rfl) (fun _ _ _ h => h) (Or.inr ⟨by rfl, rfl⟩) (by assumption) ?_
              simp only [Act.put, List.setIfInBounds_toArray, List.set_cons_zero, List.set_cons_succ]
              refine wpAnyH_take (i := 13) (oi := { dst := some 143, op := Go.Op.load 3 (Go.Operand.tmp 142), type := 3, pos := _, after := #[{ on := 12, ground := Go.Ground.data }, { on := 9, ground := Go.Ground.guard }], guard := some (9, false) }) (v := undef) rfl (by kernel_rfl) (by kernel_rfl) (by kernel_rfl) (fun _ _ _ h => h) (Or.inr ⟨by rfl, rfl⟩) (by assumption) ?_
              simp only [Act.put, List.setIfInBounds_toArray, List.set_cons_zero, List.set_cons_succ]
              refine wpAnyH_take (i := 14) (oi := { dst := some 144, op := Go.Op.move (Go.Operand.tmp 7), type := 45, pos := _, after := #[{ on := 9, ground := Go.Ground.guard }], guard := some (9, false) }) (v := undef) rfl (by kernel_rfl) (by kernel_rfl) (by kernel_rfl) (fun _ _ _ h => h) (Or.inr ⟨by rfl, rfl⟩) (by assumption) ?_
              simp only [Act.put, List.setIfInBounds_toArray, List.set_cons_zero, List.set_cons_succ]
              refine wpAnyH_take (i := 15) (oi := { dst := some 145, op := Go.Op.move (Go.Operand.tmp 9), type := 3, pos := _, after := #[{ on := 9, ground := Go.Ground.guard }], guard := some (9, false) }) (v := undef) rfl (by kernel_rfl) (by kernel_rfl) (by kernel_rfl) (fun _ _ _ h => h) (Or.inr ⟨by rfl, rfl⟩) (by assumption) ?_
              simp only [Act.put, List.setIfInBounds_toArray, List.set_cons_zero, List.set_cons_succ]
              refine wpAnyH_take (i := 16) (oi := { dst := some 146, op := Go.Op.indexAddr 45 (Go.Operand.tmp 144) (Go.Operand.tmp 145), type := 0, pos := _, after := #[{ on := 14, ground := Go.Ground.data }, { on := 15, ground := Go.Ground.data }, { on := 9, ground := Go.Ground.guard }], guard := some (9, false) }) (v := undef) rfl (by kernel_rfl) (by kernel_rfl) (by kernel_rfl) (fun _ _ _ h => h) (Or.inr ⟨by rfl, rfl⟩) (by assumption) ?_
              simp only [Act.put, List.setIfInBounds_toArray, List.set_cons_zero, List.set_cons_succ]
              refine wpAnyH_take (i := 17) (oi := { dst := some 147, op := Go.Op.load 3 (Go.Operand.tmp 146), type := 3, pos := _, after := #[{ on := 16, ground := Go.Ground.data }, { on := 9, ground := Go.Ground.guard }], guard := some (9, false) }) (v := undef) rfl (by kernel_rfl) (by kernel_rfl) (by kernel_rfl) (fun _ _ _ h => h) (Or.inr ⟨by rfl, rfl⟩) (by assumption) ?_
              simp only [Act.put, List.setIfInBounds_toArray, List.set_cons_zero, List.set_cons_succ]
              refine wpAnyH_take (i := 18) (oi := { dst := some 148, op := Go.Op.binOp Go.BinOp.eql 3 (Go.Operand.tmp 143) (Go.Operand.tmp 147) 3, type := 4, pos := _, after := #[{ on := 13, ground := Go.Ground.data }, { on := 17, ground := Go.Ground.data }, { on := 9, ground := Go.Ground.guard }], guard := some (9, false) }) (v := undef) rfl (by kernel_rfl) (by kernel_rfl) (by kernel_rfl) (fun _ _ _ h => h) (Or.inr ⟨by rfl, rfl⟩) (by assumption) ?_
              simp only [Act.put, List.setIfInBounds_toArray, List.set_cons_zero, List.set_cons_succ]
              refine wpAnyH_take (i := 19) (oi := { dst := some 149, op := Go.Op.move (Go.Operand.tmp 148), type := 4, pos := _, after := #[{ on := 18, ground := Go.Ground.data }, { on := 9, ground := Go.Ground.chain }, { on := 9, ground := Go.Ground.guard }], guard := some (9, false) }) (v := undef) rfl (by kernel_rfl) (by kernel_rfl) (by kernel_rfl) (fun _ _ _ h => h) (Or.inr ⟨by rfl, rfl⟩) (by assumption) ?_
              simp only [Act.put, List.setIfInBounds_toArray, List.set_cons_zero, List.set_cons_succ]
              refine wpAnyH_take (i := 20) (oi := { dst := some 150, op := Go.Op.move (Go.Operand.tmp 7), type := 45, pos := _, after := #[{ on := 19, ground := Go.Ground.guard }], guard := some (19, true) }) (v := undef) rfl (by kernel_rfl) (by kernel_rfl) (by kernel_rfl) (fun _ _ _ h => h) (Or.inr ⟨by rfl, rfl⟩) (by assumption) ?_
              simp only [Act.put, List.setIfInBounds_toArray, List.set_cons_zero, List.set_cons_succ]
              refine wpAnyH_take (i := 21) (oi := { dst := some 151, op := Go.Op.move (Go.Operand.tmp 8), type := 3, pos := _, after := #[{ on := 19, ground := Go.Ground.guard }], guard := some (19, true) }) (v := undef) rfl (by kernel_rfl) (by kernel_rfl) (by kernel_rfl) (fun _ _ _ h => h) (Or.inr ⟨by rfl, rfl⟩) (by assumption) ?_
              simp only [Act.put, List.setIfInBounds_toArray, List.set_cons_zero, List.set_cons_succ]
              refine wpAnyH_take (i := 22) (oi := { dst := some 152, op := Go.Op.indexAddr 45 (Go.Operand.tmp 150) (Go.Operand.tmp 151), type := 0, pos := _, after := #[{ on := 20, ground := Go.Ground.data }, { on := 21, ground := Go.Ground.data }, { on := 19, ground := Go.Ground.guard }], guard := some (19, true) }) (v := undef) rfl (by kernel_rfl) (by kernel_rfl) (by kernel_rfl) (fun _ _ _ h => h) (Or.inr ⟨by rfl, rfl⟩) (by assumption) ?_
              simp only [Act.put, List.setIfInBounds_toArray, List.set_cons_zero, List.set_cons_succ]
              refine wpAnyH_take (i := 23) (oi := { dst := some 153, op := Go.Op.load 3 (Go.Operand.tmp 152), type := 3, pos := _, after := #[{ on := 22, ground := Go.Ground.data }, { on := 19, ground := Go.Ground.guard }], guard := some (19, true) }) (v := undef) rfl (by kernel_rfl) (by kernel_rfl) (by kernel_rfl) (fun _ _ _ h => h) (Or.inr ⟨by rfl, rfl⟩) (by assumption) ?_
              simp only [Act.put, List.setIfInBounds_toArray, List.set_cons_zero, List.set_cons_succ]
              refine wpAnyH_take (i := 24) (oi := { dst := some 154, op := Go.Op.binOp Go.BinOp.gtr 3 (Go.Operand.tmp 153) (Go.Operand.const (Go.Value.int Go.IntKind.i64 0)) 3, type := 4, pos := _, after := #[{ on := 23, ground := Go.Ground.data }, { on := 19, ground := Go.Ground.guard }], guard := some (19, true) }) (v := undef) rfl (by kernel_rfl) (by kernel_rfl) (by kernel_rfl) (fun _ _ _ h => h) (Or.inr ⟨by rfl, rfl⟩) (by assumption) ?_
              simp only [Act.put, List.setIfInBounds_toArray, List.set_cons_zero, List.set_cons_succ]
              refine wpAnyH_take (i := 25) (oi := { dst := some 155, op := Go.Op.pick (Go.Operand.tmp 149) (Go.Operand.tmp 154) (Go.Operand.const (Go.Value.bool false)), type := 4, pos := _, after := #[{ on := 19, ground := Go.Ground.data }, { on := 24, ground := Go.Ground.data }, { on := 9, ground := Go.Ground.guard }], guard := some (9, false) }) (v := undef) rfl (by kernel_rfl) (by kernel_rfl) (by kernel_rfl) (fun _ _ _ h => h) (Or.inr ⟨by rfl, rfl⟩) (by assumption) ?_
              simp only [Act.put, List.setIfInBounds_toArray, List.set_cons_zero, List.set_cons_succ]
              refine wpAnyH_take (i := 26) (oi := { dst := some 156, op := Go.Op.pick (Go.Operand.tmp 139) (Go.Operand.const (Go.Value.bool true)) (Go.Operand.tmp 155), type := 4, pos := _, after := #[{ on := 9, ground := Go.Ground.data }, { on := 25, ground := Go.Ground.data }], guard := none }) (v := ?_) rfl (by kernel_rfl) (by kernel_rfl) (by kernel_rfl) (fun _ _ _ h => h) (Or.inl ⟨by rfl, ?_⟩) (by assumption) ?_
              rotate_left
              · intro w hSw; (try dsimp only at hSw); go_simp <;> first | with_reducible rfl | (rw [if_neg (by first | omega | (simp only [ByteArray.size_append] at *; omega))])
              simp only [Act.put, List.setIfInBounds_toArray, List.set_cons_zero, List.set_cons_succ]
              refine wpAnyH_done (by kernel_rfl) ?_ _
              go_wp2_with (fail)
              refine (alive _ ((HA.out.below R12.out.av.below).below (below_drewN (Below.refl _ _) 1))).mono ?_
              rintro e w6 ⟨rfl, b6⟩
              have R14 := hid (R12.out.drew.step b6)
              obtain ⟨y0, y1, y2, y3⟩ := R14.out.row4 kl (.int .u8 (opR k : Int)) (.int .i64 0) (.string ⟨#[]⟩) (.slice (some ⟨g2, 0, none⟩) 2 2) (by simp)
              clear b6 R12
              go_wp2_with (fail)
              refine (cL.out _ R14.out pl zpl (by rw [HPL.out]; exact w1'.out.1)).mono ?_
              rintro e w7 ⟨rfl, b7⟩
              have R15 := hid (R14.out.step b7)
              clear b7 R14 y0 y1 y2 y3
              obtain ⟨y0, y1, y2, y3⟩ := R15.out.row4 kr (.int .u8 (opR i : Int)) (.int .i64 0) (.string ⟨#[]⟩) (.slice (some ⟨h2, 0, none⟩) 2 2) (by simp)
              go_wp2_with (fail)
              refine (cR.out _ R15.out se zse (by rw [HSE.out]; exact w1'.out.2)).mono ?_
              rintro e w8 ⟨rfl, b8⟩
              have hB := (R15.out.step b8).av.below
              go_wp2_with (fail)
              go_ret
              exact ⟨rfl, hB⟩
            · have hx : ((rkR i : Int) == 3) = true := by rw [beq_iff_eq]; omega
              have hy : ((rkR k : Int) == 3) = false := by rw [beq_eq_false_iff_ne]; omega
              clear hx3
              have hl4 : decide (rkR k < rkR i) = false := by rw [decide_eq_false_iff_not]; omega
              have hl5 : decide ((rkR k : Int) < (rkR i : Int)) = false := by rw [decide_eq_false_iff_not]; omega
              have he' : ((rkR i : Int) == (rkR k : Int)) = true := by rw [beq_iff_eq]; omega
              have hp4 : decide ((0 : Int) < (rkR i : Int)) = true := by rw [decide_eq_true_eq]; omega
              have hp5 : decide (0 < rkR i) = true := by rw [decide_eq_true_eq]; omega
              clear hl h3 hg
              generalize rkR i = ri at *
              generalize rkR k = rk at *
              go_wp2_with (fail)
              refine wp_region_held_drew (S := fun V => V.cell? ⟨w.heap.size + 1 + 1, i, none⟩ = some (.int .i64 (ri : Int)) ∧ V.cell? ⟨w.heap.size + 1 + 1, k, none⟩ = some (.int .i64 (rk : Int))) (by kernel_rfl) ?_ (fun hHeld => ?_)
              · exact ⟨d0, d1⟩
              refine wpAnyH_take (i := 0) (oi := { dst := some 130, op := Go.Op.move (Go.Operand.tmp 7), type := 45, pos := _, after := #[], guard := none }) (v := ?_) rfl (by kernel_rfl) (by kernel_rfl) (by kernel_rfl) (fun _ _ _ h => h) (Or.inl ⟨by rfl, ?_⟩) (by assumption) ?_
              rotate_left
              · intro w hSw; (try dsimp only at hSw); go_simp <;> first | with_reducible rfl | (rw [if_neg (by first | omega | (simp only [ByteArray.size_append] at *; omega))])
              simp only [Act.put, List.setIfInBounds_toArray, List.set_cons_zero, List.set_cons_succ]
              refine wpAnyH_take (i := 1) (oi := { dst := some 131, op := Go.Op.move (Go.Operand.tmp 8), type := 3, pos := _, after := #[], guard := none }) (v := ?_) rfl (by kernel_rfl) (by kernel_rfl) (by kernel_rfl) (fun _ _ _ h => h) (Or.inl ⟨by rfl, ?_⟩) (by assumption) ?_
              rotate_left
              · intro w hSw; (try dsimp only at hSw); go_simp <;> first | with_reducible rfl | (rw [if_neg (by first | omega | (simp only [ByteArray.size_append] at *; omega))])
              simp only [Act.put, List.setIfInBounds_toArray, List.set_cons_zero, List.set_cons_succ]
              refine wpAnyH_take (i := 2) (oi := { dst := some 132, op := Go.Op.indexAddr 45 (Go.Operand.tmp 130) (Go.Operand.tmp 131), type := 0, pos := _, after := #[{ on := 0, ground := Go.Ground.data }, { on := 1, ground := Go.Ground.data }], guard := none }) (v := ?_) rfl (by kernel_rfl) (by kernel_rfl) (by kernel_rfl) (fun _ _ _ h => h) (Or.inl ⟨by rfl, ?_⟩) (by assumption) ?_
              rotate_left
              · intro w hSw; (try dsimp only at hSw); go_simp <;> first | with_reducible rfl | (rw [if_neg (by first | omega | (simp only [ByteArray.size_append] at *; omega))])
              simp only [Act.put, List.setIfInBounds_toArray, List.set_cons_zero, List.set_cons_succ]
              refine wpAnyH_take (i := 3) (oi := { dst := some 133, op := Go.Op.load 3 (Go.Operand.tmp 132), type := 3, pos := _, after := #[{ on := 2, ground := Go.Ground.data }], guard := none }) (v := ?_) rfl (by kernel_rfl) (by kernel_rfl) (by kernel_rfl) (fun _ _ _ h => h) (Or.inl ⟨by rfl, ?_⟩) (by assumption) ?_
              rotate_left
              · intro w hSw; (try dsimp only at hSw); go_simp <;> first | with_reducible rfl | (rw [if_neg (by first | omega | (simp only [ByteArray.size_append] at *; omega))])
              simp only [Act.put, List.setIfInBounds_toArray, List.set_cons_zero, List.set_cons_succ]
              refine wpAnyH_take (i := 4) (oi := { dst := some 134, op := Go.Op.move (Go.Operand.tmp 7), type := 45, pos := _, after := #[], guard := none }) (v := ?_) rfl (by kernel_rfl) (by kernel_rfl) (by kernel_rfl) (fun _ _ _ h => h) (Or.inl ⟨by rfl, ?_⟩) (by assumption) ?_
              rotate_left
              · intro w hSw; (try dsimp only at hSw); go_simp <;> first | with_reducible rfl | (rw [if_neg (by first | omega | (simp only [ByteArray.size_append] at *; omega))])
              simp only [Act.put, List.setIfInBounds_toArray, List.set_cons_zero, List.set_cons_succ]
              refine wpAnyH_take (i := 5) (oi := { dst := some 135, op := Go.Op.move (Go.Operand.tmp 9), type := 3, pos := _, after := #[], guard := none }) (v := ?_) rfl (by kernel_rfl) (by kernel_rfl) (by kernel_rfl) (fun _ _ _ h => h) (Or.inl ⟨by rfl, ?_⟩) (by assumption) ?_
              rotate_left
              · intro w hSw; (try dsimp only at hSw); go_simp <;> first | with_reducible rfl | (rw [if_neg (by first | omega | (simp only [ByteArray.size_append] at *; omega))])
              simp only [Act.put, List.setIfInBounds_toArray, List.set_cons_zero, List.set_cons_succ]
              refine wpAnyH_take (i := 6) (oi := { dst := some 136, op := Go.Op.indexAddr 45 (Go.Operand.tmp 134) (Go.Operand.tmp 135), type := 0, pos := _, after := #[{ on := 4, ground := Go.Ground.data }, { on := 5, ground := Go.Ground.data }], guard := none }) (v := ?_) rfl (by kernel_rfl) (by kernel_rfl) (by kernel_rfl) (fun _ _ _ h => h) (Or.inl ⟨by rfl, ?_⟩) (by assumption) ?_
              rotate_left
              · intro w hSw; (try dsimp only at hSw); go_simp <;> first | with_reducible rfl | (rw [if_neg (by first | omega | (simp only [ByteArray.size_append] at *; omega))])
              simp only [Act.put, List.setIfInBounds_toArray, List.set_cons_zero, List.set_cons_succ]
              refine wpAnyH_take (i := 7) (oi := { dst := some 137, op := Go.Op.load 3 (Go.Operand.tmp 136), type := 3, pos := _, after := #[{ on := 6, ground := Go.Ground.data }], guard := none }) (v := ?_) rfl (by kernel_rfl) (by kernel_rfl) (by kernel_rfl) (fun _ _ _ h => h) (Or.inl ⟨by rfl, ?_⟩) (by assumption) ?_
              rotate_left
              · intro w hSw; (try dsimp only at hSw); go_simp <;> first | with_reducible rfl | (rw [if_neg (by first | omega | (simp only [ByteArray.size_append] at *; omega))])
              simp only [Act.put, List.setIfInBounds_toArray, List.set_cons_zero, List.set_cons_succ]
              refine wpAnyH_take (i := 8) (oi := { dst := some 138, op := Go.Op.binOp Go.BinOp.gtr 3 (Go.Operand.tmp 133) (Go.Operand.tmp 137) 3, type := 4, pos := _, after := #[{ on := 3, ground := Go.Ground.data }, { on := 7, ground := Go.Ground.data }], guard := none }) (v := ?_) rfl (by kernel_rfl) (by kernel_rfl) (by kernel_rfl) (fun _ _ _ h => h) (Or.inl ⟨by rfl, ?_⟩) (by assumption) ?_
              rotate_left
              · intro w hSw; (try dsimp only at hSw); go_simp <;> first | with_reducible rfl | (rw [if_neg (by first | omega | (simp only [ByteArray.size_append] at *; omega))])
              simp only [Act.put, List.setIfInBounds_toArray, List.set_cons_zero, List.set_cons_succ]
              refine wpAnyH_take (i := 9) (oi := { dst := some 139, op := Go.Op.move (Go.Operand.tmp 138), type := 4, pos := _, after := #[{ on := 8, ground := Go.Ground.data }], guard := none }) (v := ?_) rfl (by kernel_rfl) (by kernel_rfl) (by kernel_rfl) (fun _ _ _ h => h) (Or.inl ⟨by rfl, ?_⟩) (by assumption) ?_
              rotate_left
              · intro w hSw; (try dsimp only at hSw); go_simp <;> first | with_reducible rfl | (rw [if_neg (by first | omega | (simp only [ByteArray.size_append] at *; omega))])
              simp only [Act.put, List.setIfInBounds_toArray, List.set_cons_zero, List.set_cons_succ]
              refine wpAnyH_take (i := 10) (oi := { dst := some 140, op := Go.Op.move (Go.Operand.tmp 7), type := 45, pos := _, after := #[{ on := 9, ground := Go.Ground.guard }], guard := some (9, false) }) (v := ?_) rfl (by kernel_rfl) (by kernel_rfl) (by kernel_rfl) (fun _ _ _ h => h) (Or.inl ⟨by rfl, ?_⟩) (by assumption) ?_
              rotate_left
              · intro w hSw; (try dsimp only at hSw); go_simp <;> first | with_reducible rfl | (rw [if_neg (by first | omega | (simp only [ByteArray.size_append] at *; omega))])
              simp only [Act.put, List.setIfInBounds_toArray, List.set_cons_zero, List.set_cons_succ]
              refine wpAnyH_take (i := 11) (oi := { dst := some 141, op := Go.Op.move (Go.Operand.tmp 8), type := 3, pos := _, after := #[{ on := 9, ground := Go.Ground.guard }], guard := some (9, false) }) (v := ?_) rfl (by kernel_rfl) (by kernel_rfl) (by kernel_rfl) (fun _ _ _ h => h) (Or.inl ⟨by rfl, ?_⟩) (by assumption) ?_
              rotate_left
              · intro w hSw; (try dsimp only at hSw); go_simp <;> first | with_reducible rfl | (rw [if_neg (by first | omega | (simp only [ByteArray.size_append] at *; omega))])
              simp only [Act.put, List.setIfInBounds_toArray, List.set_cons_zero, List.set_cons_succ]
              refine wpAnyH_take (i := 12) (oi := { dst := some 142, op := Go.Op.indexAddr 45 (Go.Operand.tmp 140) (Go.Operand.tmp 141), type := 0, pos := _, after := #[{ on := 10, ground := Go.Ground.data }, { on := 11, ground := Go.Ground.data }, { on := 9, ground := Go.Ground.guard }], guard := some (9, false) }) (v := ?_) rfl (by kernel_rfl) (by kernel_rfl) (by kernel_rfl) (fun _ _ _ h => h) (Or.inl ⟨by rfl, ?_⟩) (by assumption) ?_
              rotate_left
              · intro w hSw; (try dsimp only at hSw); go_simp <;> first | with_reducible rfl | (rw [if_neg (by first | omega | (simp only [ByteArray.size_append] at *; omega))])
              simp only [Act.put, List.setIfInBounds_toArray, List.set_cons_zero, List.set_cons_succ]
              refine wpAnyH_take (i := 13) (oi := { dst := some 143, op := Go.Op.load 3 (Go.Operand.tmp 142), type := 3, pos := _, after := #[{ on := 12, ground := Go.Ground.data }, { on := 9, ground := Go.Ground.guard }], guard := some (9, false) }) (v := ?_) rfl (by kernel_rfl) (by kernel_rfl) (by kernel_rfl) (fun _ _ _ h => h) (Or.inl ⟨by rfl, ?_⟩) (by assumption) ?_
              rotate_left
              · intro w hSw; (try dsimp only at hSw); go_simp <;> first | with_reducible rfl | (rw [if_neg (by first | omega | (simp only [ByteArray.size_append] at *; omega))])
              simp only [Act.put, List.setIfInBounds_toArray, List.set_cons_zero, List.set_cons_succ]
              refine wpAnyH_take (i := 14) (oi := { dst := some 144, op := Go.Op.move (Go.Operand.tmp 7), type := 45, pos := _, after := #[{ on := 9, ground := Go.Ground.guard }], guard := some (9, false) }) (v := ?_) rfl (by kernel_rfl) (by kernel_rfl) (by kernel_rfl) (fun _ _ _ h => h) (Or.inl ⟨by rfl, ?_⟩) (by assumption) ?_
              rotate_left
              · intro w hSw; (try dsimp only at hSw); go_simp <;> first | with_reducible rfl | (rw [if_neg (by first | omega | (simp only [ByteArray.size_append] at *; omega))])
              simp only [Act.put, List.setIfInBounds_toArray, List.set_cons_zero, List.set_cons_succ]
              refine wpAnyH_take (i := 15) (oi := { dst := some 145, op := Go.Op.move (Go.Operand.tmp 9), type := 3, pos := _, after := #[{ on := 9, ground := Go.Ground.guard }], guard := some (9, false) }) (v := ?_) rfl (by kernel_rfl) (by kernel_rfl) (by kernel_rfl) (fun _ _ _ h => h) (Or.inl ⟨by rfl, ?_⟩) (by assumption) ?_
              rotate_left
              · intro w hSw; (try dsimp only at hSw); go_simp <;> first | with_reducible rfl | (rw [if_neg (by first | omega | (simp only [ByteArray.size_append] at *; omega))])
              simp only [Act.put, List.setIfInBounds_toArray, List.set_cons_zero, List.set_cons_succ]
              refine wpAnyH_take (i := 16) (oi := { dst := some 146, op := Go.Op.indexAddr 45 (Go.Operand.tmp 144) (Go.Operand.tmp 145), type := 0, pos := _, after := #[{ on := 14, ground := Go.Ground.data }, { on := 15, ground := Go.Ground.data }, { on := 9, ground := Go.Ground.guard }], guard := some (9, false) }) (v := ?_) rfl (by kernel_rfl) (by kernel_rfl) (by kernel_rfl) (fun _ _ _ h => h) (Or.inl ⟨by rfl, ?_⟩) (by assumption) ?_
              rotate_left
              · intro w hSw; (try dsimp only at hSw); go_simp <;> first | with_reducible rfl | (rw [if_neg (by first | omega | (simp only [ByteArray.size_append] at *; omega))])
              simp only [Act.put, List.setIfInBounds_toArray, List.set_cons_zero, List.set_cons_succ]
              refine wpAnyH_take (i := 17) (oi := { dst := some 147, op := Go.Op.load 3 (Go.Operand.tmp 146), type := 3, pos := _, after := #[{ on := 16, ground := Go.Ground.data }, { on := 9, ground := Go.Ground.guard }], guard := some (9, false) }) (v := ?_) rfl (by kernel_rfl) (by kernel_rfl) (by kernel_rfl) (fun _ _ _ h => h) (Or.inl ⟨by rfl, ?_⟩) (by assumption) ?_
              rotate_left
              · intro w hSw; (try dsimp only at hSw); go_simp <;> first | with_reducible rfl | (rw [if_neg (by first | omega | (simp only [ByteArray.size_append] at *; omega))])
              simp only [Act.put, List.setIfInBounds_toArray, List.set_cons_zero, List.set_cons_succ]
              refine wpAnyH_take (i := 18) (oi := { dst := some 148, op := Go.Op.binOp Go.BinOp.eql 3 (Go.Operand.tmp 143) (Go.Operand.tmp 147) 3, type := 4, pos := _, after := #[{ on := 13, ground := Go.Ground.data }, { on := 17, ground := Go.Ground.data }, { on := 9, ground := Go.Ground.guard }], guard := some (9, false) }) (v := ?_) rfl (by kernel_rfl) (by kernel_rfl) (by kernel_rfl) (fun _ _ _ h => h) (Or.inl ⟨by rfl, ?_⟩) (by assumption) ?_
              rotate_left
              · intro w hSw; (try dsimp only at hSw); go_simp <;> first | with_reducible rfl | (rw [if_neg (by first | omega | (simp only [ByteArray.size_append] at *; omega))])
              simp only [Act.put, List.setIfInBounds_toArray, List.set_cons_zero, List.set_cons_succ]
              refine wpAnyH_take (i := 19) (oi := { dst := some 149, op := Go.Op.move (Go.Operand.tmp 148), type := 4, pos := _, after := #[{ on := 18, ground := Go.Ground.data }, { on := 9, ground := Go.Ground.chain }, { on := 9, ground := Go.Ground.guard }], guard := some (9, false) }) (v := ?_) rfl (by kernel_rfl) (by kernel_rfl) (by kernel_rfl) (fun _ _ _ h => h) (Or.inl ⟨by rfl, ?_⟩) (by assumption) ?_
              rotate_left
              · intro w hSw; (try dsimp only at hSw); go_simp <;> first | with_reducible rfl | (rw [if_neg (by first | omega | (simp only [ByteArray.size_append] at *; omega))])
              simp only [Act.put, List.setIfInBounds_toArray, List.set_cons_zero, List.set_cons_succ]
              refine wpAnyH_take (i := 20) (oi := { dst := some 150, op := Go.Op.move (Go.Operand.tmp 7), type := 45, pos := _, after := #[{ on := 19, ground := Go.Ground.guard }], guard := some (19, true) }) (v := ?_) rfl (by kernel_rfl) (by kernel_rfl) (by kernel_rfl) (fun _ _ _ h => h) (Or.inl ⟨by rfl, ?_⟩) (by assumption) ?_
              rotate_left
              · intro w hSw; (try dsimp only at hSw); go_simp <;> first | with_reducible rfl | (rw [if_neg (by first | omega | (simp only [ByteArray.size_append] at *; omega))])
              simp only [Act.put, List.setIfInBounds_toArray, List.set_cons_zero, List.set_cons_succ]
              refine wpAnyH_take (i := 21) (oi := { dst := some 151, op := Go.Op.move (Go.Operand.tmp 8), type := 3, pos := _, after := #[{ on := 19, ground := Go.Ground.guard }], guard := some (19, true) }) (v := ?_) rfl (by kernel_rfl) (by kernel_rfl) (by kernel_rfl) (fun _ _ _ h => h) (Or.inl ⟨by rfl, ?_⟩) (by assumption) ?_
              rotate_left
              · intro w hSw; (try dsimp only at hSw); go_simp <;> first | with_reducible rfl | (rw [if_neg (by first | omega | (simp only [ByteArray.size_append] at *; omega))])
              simp only [Act.put, List.setIfInBounds_toArray, List.set_cons_zero, List.set_cons_succ]
              refine wpAnyH_take (i := 22) (oi := { dst := some 152, op := Go.Op.indexAddr 45 (Go.Operand.tmp 150) (Go.Operand.tmp 151), type := 0, pos := _, after := #[{ on := 20, ground := Go.Ground.data }, { on := 21, ground := Go.Ground.data }, { on := 19, ground := Go.Ground.guard }], guard := some (19, true) }) (v := ?_) rfl (by kernel_rfl) (by kernel_rfl) (by kernel_rfl) (fun _ _ _ h => h) (Or.inl ⟨by rfl, ?_⟩) (by assumption) ?_
              rotate_left
              · intro w hSw; (try dsimp only at hSw); go_simp <;> first | with_reducible rfl | (rw [if_neg (by first | omega | (simp only [ByteArray.size_append] at *; omega))])
              simp only [Act.put, List.setIfInBounds_toArray, List.set_cons_zero, List.set_cons_succ]
              refine wpAnyH_take (i := 23) (oi := { dst := some 153, op := Go.Op.load 3 (Go.Operand.tmp 152), type := 3, pos := _, after := #[{ on := 22, ground := Go.Ground.data }, { on := 19, ground := Go.Ground.guard }], guard := some (19, true) }) (v := ?_) rfl (by kernel_rfl) (by kernel_rfl) (by kernel_rfl) (fun _ _ _ h => h) (Or.inl ⟨by rfl, ?_⟩) (by assumption) ?_
              rotate_left
              · intro w hSw; (try dsimp only at hSw); go_simp <;> first | with_reducible rfl | (rw [if_neg (by first | omega | (simp only [ByteArray.size_append] at *; omega))])
              simp only [Act.put, List.setIfInBounds_toArray, List.set_cons_zero, List.set_cons_succ]
              refine wpAnyH_take (i := 24) (oi := { dst := some 154, op := Go.Op.binOp Go.BinOp.gtr 3 (Go.Operand.tmp 153) (Go.Operand.const (Go.Value.int Go.IntKind.i64 0)) 3, type := 4, pos := _, after := #[{ on := 23, ground := Go.Ground.data }, { on := 19, ground := Go.Ground.guard }], guard := some (19, true) }) (v := ?_) rfl (by kernel_rfl) (by kernel_rfl) (by kernel_rfl) (fun _ _ _ h => h) (Or.inl ⟨by rfl, ?_⟩) (by assumption) ?_
              rotate_left
              · intro w hSw; (try dsimp only at hSw); go_simp <;> first | with_reducible rfl | (rw [if_neg (by first | omega | (simp only [ByteArray.size_append] at *; omega))])
              simp only [Act.put, List.setIfInBounds_toArray, List.set_cons_zero, List.set_cons_succ]
              refine wpAnyH_take (i := 25) (oi := { dst := some 155, op := Go.Op.pick (Go.Operand.tmp 149) (Go.Operand.tmp 154) (Go.Operand.const (Go.Value.bool false)), type := 4, pos := _, after := #[{ on := 19, ground := Go.Ground.data }, { on := 24, ground := Go.Ground.data }, { on := 9, ground := Go.Ground.guard }], guard := some (9, false) }) (v := ?_) rfl (by kernel_rfl) (by kernel_rfl) (by kernel_rfl) (fun _ _ _ h => h) (Or.inl ⟨by rfl, ?_⟩) (by assumption) ?_
              rotate_left
              · intro w hSw; (try dsimp only at hSw); go_simp <;> first | with_reducible rfl | (rw [if_neg (by first | omega | (simp only [ByteArray.size_append] at *; omega))])
              simp only [Act.put, List.setIfInBounds_toArray, List.set_cons_zero, List.set_cons_succ]
              refine wpAnyH_take (i := 26) (oi := { dst := some 156, op := Go.Op.pick (Go.Operand.tmp 139) (Go.Operand.const (Go.Value.bool true)) (Go.Operand.tmp 155), type := 4, pos := _, after := #[{ on := 9, ground := Go.Ground.data }, { on := 25, ground := Go.Ground.data }], guard := none }) (v := ?_) rfl (by kernel_rfl) (by kernel_rfl) (by kernel_rfl) (fun _ _ _ h => h) (Or.inl ⟨by rfl, ?_⟩) (by assumption) ?_
              rotate_left
              · intro w hSw; (try dsimp only at hSw); go_simp <;> first | with_reducible rfl | (rw [if_neg (by first | omega | (simp only [ByteArray.size_append] at *; omega))])
              simp only [Act.put, List.setIfInBounds_toArray, List.set_cons_zero, List.set_cons_succ]
              refine wpAnyH_done (by kernel_rfl) ?_ _
              go_wp2_with (fail)
              refine (alive _ ((HA.out.below R12.out.av.below).below (below_drewN (Below.refl _ _) 1))).mono ?_
              rintro e w6 ⟨rfl, b6⟩
              have R14 := hid (R12.out.drew.step b6)
              obtain ⟨y0, y1, y2, y3⟩ := R14.out.row4 kl (.int .u8 (opR k : Int)) (.int .i64 0) (.string ⟨#[]⟩) (.slice (some ⟨g2, 0, none⟩) 2 2) (by simp)
              clear b6 R12
              go_wp2_with (fail)
              refine (cL.out _ R14.out pl zpl (by rw [HPL.out]; exact w1'.out.1)).mono ?_
              rintro e w7 ⟨rfl, b7⟩
              have R15 := hid (R14.out.step b7)
              clear b7 R14 y0 y1 y2 y3
              obtain ⟨y0, y1, y2, y3⟩ := R15.out.row4 kr (.int .u8 (opR i : Int)) (.int .i64 0) (.string ⟨#[]⟩) (.slice (some ⟨h2, 0, none⟩) 2 2) (by simp)
              go_wp2_with (fail)
              refine (cR.out _ R15.out se zse (by rw [HSE.out]; exact w1'.out.2)).mono ?_
              rintro e w8 ⟨rfl, b8⟩
              have hB := (R15.out.step b8).av.below
              go_wp2_with (fail)
              go_ret
              exact ⟨rfl, hB⟩
          · by_cases hl : rkR k < rkR i
            · have hx : ((rkR i : Int) == 3) = false := by rw [beq_eq_false_iff_ne]; omega
              clear hx3
              have hl' : (rkR k : Int) < (rkR i : Int) := by omega
              clear hl h3 hg
              generalize rkR i = ri at *
              generalize rkR k = rk at *
              go_wp2_with (fail)
              refine wp_region_held_drew (S := fun V => V.cell? ⟨w.heap.size + 1 + 1, i, none⟩ = some (.int .i64 (ri : Int)) ∧ V.cell? ⟨w.heap.size + 1 + 1, k, none⟩ = some (.int .i64 (rk : Int))) (by kernel_rfl) ?_ (fun hHeld => ?_)
              · exact ⟨d0, d1⟩
              refine wpAnyH_take (i := 0) (oi := { dst := some 130, op := Go.Op.move (Go.Operand.tmp 7), type := 45, pos := _, after := #[], guard := none }) (v := ?_) rfl (by kernel_rfl) (by kernel_rfl) (by kernel_rfl) (fun _ _ _ h => h) (Or.inl ⟨by rfl, ?_⟩) (by assumption) ?_
              rotate_left
              · intro w hSw; (try dsimp only at hSw); go_simp <;> first | with_reducible rfl | (rw [if_neg (by first | omega | (simp only [ByteArray.size_append] at *; omega))])
              simp only [Act.put, List.setIfInBounds_toArray, List.set_cons_zero, List.set_cons_succ]
              refine wpAnyH_take (i := 1) (oi := { dst := some 131, op := Go.Op.move (Go.Operand.tmp 8), type := 3, pos := _, after := #[], guard := none }) (v := ?_) rfl (by kernel_rfl) (by kernel_rfl) (by kernel_rfl) (fun _ _ _ h => h) (Or.inl ⟨by rfl, ?_⟩) (by assumption) ?_
              rotate_left
              · intro w hSw; (try dsimp only at hSw); go_simp <;> first | with_reducible rfl | (rw [if_neg (by first | omega | (simp only [ByteArray.size_append] at *; omega))])
              simp only [Act.put, List.setIfInBounds_toArray, List.set_cons_zero, List.set_cons_succ]
              refine wpAnyH_take (i := 2) (oi := { dst := some 132, op := Go.Op.indexAddr 45 (Go.Operand.tmp 130) (Go.Operand.tmp 131), type := 0, pos := _, after := #[{ on := 0, ground := Go.Ground.data }, { on := 1, ground := Go.Ground.data }], guard := none }) (v := ?_) rfl (by kernel_rfl) (by kernel_rfl) (by kernel_rfl) (fun _ _ _ h => h) (Or.inl ⟨by rfl, ?_⟩) (by assumption) ?_
              rotate_left
              · intro w hSw; (try dsimp only at hSw); go_simp <;> first | with_reducible rfl | (rw [if_neg (by first | omega | (simp only [ByteArray.size_append] at *; omega))])
              simp only [Act.put, List.setIfInBounds_toArray, List.set_cons_zero, List.set_cons_succ]
              refine wpAnyH_take (i := 3) (oi := { dst := some 133, op := Go.Op.load 3 (Go.Operand.tmp 132), type := 3, pos := _, after := #[{ on := 2, ground := Go.Ground.data }], guard := none }) (v := ?_) rfl (by kernel_rfl) (by kernel_rfl) (by kernel_rfl) (fun _ _ _ h => h) (Or.inl ⟨by rfl, ?_⟩) (by assumption) ?_
              rotate_left
              · intro w hSw; (try dsimp only at hSw); go_simp <;> first | with_reducible rfl | (rw [if_neg (by first | omega | (simp only [ByteArray.size_append] at *; omega))])
              simp only [Act.put, List.setIfInBounds_toArray, List.set_cons_zero, List.set_cons_succ]
              refine wpAnyH_take (i := 4) (oi := { dst := some 134, op := Go.Op.move (Go.Operand.tmp 7), type := 45, pos := _, after := #[], guard := none }) (v := ?_) rfl (by kernel_rfl) (by kernel_rfl) (by kernel_rfl) (fun _ _ _ h => h) (Or.inl ⟨by rfl, ?_⟩) (by assumption) ?_
              rotate_left
              · intro w hSw; (try dsimp only at hSw); go_simp <;> first | with_reducible rfl | (rw [if_neg (by first | omega | (simp only [ByteArray.size_append] at *; omega))])
              simp only [Act.put, List.setIfInBounds_toArray, List.set_cons_zero, List.set_cons_succ]
              refine wpAnyH_take (i := 5) (oi := { dst := some 135, op := Go.Op.move (Go.Operand.tmp 9), type := 3, pos := _, after := #[], guard := none }) (v := ?_) rfl (by kernel_rfl) (by kernel_rfl) (by kernel_rfl) (fun _ _ _ h => h) (Or.inl ⟨by rfl, ?_⟩) (by assumption) ?_
              rotate_left
              · intro w hSw; (try dsimp only at hSw); go_simp <;> first | with_reducible rfl | (rw [if_neg (by first | omega | (simp only [ByteArray.size_append] at *; omega))])
              simp only [Act.put, List.setIfInBounds_toArray, List.set_cons_zero, List.set_cons_succ]
              refine wpAnyH_take (i := 6) (oi := { dst := some 136, op := Go.Op.indexAddr 45 (Go.Operand.tmp 134) (Go.Operand.tmp 135), type := 0, pos := _, after := #[{ on := 4, ground := Go.Ground.data }, { on := 5, ground := Go.Ground.data }], guard := none }) (v := ?_) rfl (by kernel_rfl) (by kernel_rfl) (by kernel_rfl) (fun _ _ _ h => h) (Or.inl ⟨by rfl, ?_⟩) (by assumption) ?_
              rotate_left
              · intro w hSw; (try dsimp only at hSw); go_simp <;> first | with_reducible rfl | (rw [if_neg (by first | omega | (simp only [ByteArray.size_append] at *; omega))])
              simp only [Act.put, List.setIfInBounds_toArray, List.set_cons_zero, List.set_cons_succ]
              refine wpAnyH_take (i := 7) (oi := { dst := some 137, op := Go.Op.load 3 (Go.Operand.tmp 136), type := 3, pos := _, after := #[{ on := 6, ground := Go.Ground.data }], guard := none }) (v := ?_) rfl (by kernel_rfl) (by kernel_rfl) (by kernel_rfl) (fun _ _ _ h => h) (Or.inl ⟨by rfl, ?_⟩) (by assumption) ?_
              rotate_left
              · intro w hSw; (try dsimp only at hSw); go_simp <;> first | with_reducible rfl | (rw [if_neg (by first | omega | (simp only [ByteArray.size_append] at *; omega))])
              simp only [Act.put, List.setIfInBounds_toArray, List.set_cons_zero, List.set_cons_succ]
              refine wpAnyH_take (i := 8) (oi := { dst := some 138, op := Go.Op.binOp Go.BinOp.gtr 3 (Go.Operand.tmp 133) (Go.Operand.tmp 137) 3, type := 4, pos := _, after := #[{ on := 3, ground := Go.Ground.data }, { on := 7, ground := Go.Ground.data }], guard := none }) (v := ?_) rfl (by kernel_rfl) (by kernel_rfl) (by kernel_rfl) (fun _ _ _ h => h) (Or.inl ⟨by rfl, ?_⟩) (by assumption) ?_
              rotate_left
              · intro w hSw; (try dsimp only at hSw); go_simp <;> first | with_reducible rfl | (rw [if_neg (by first | omega | (simp only [ByteArray.size_append] at *; omega))])
              simp only [Act.put, List.setIfInBounds_toArray, List.set_cons_zero, List.set_cons_succ]
              refine wpAnyH_take (i := 9) (oi := { dst := some 139, op := Go.Op.move (Go.Operand.tmp 138), type := 4, pos := _, after := #[{ on := 8, ground := Go.Ground.data }], guard := none }) (v := ?_) rfl (by kernel_rfl) (by kernel_rfl) (by kernel_rfl) (fun _ _ _ h => h) (Or.inl ⟨by rfl, ?_⟩) (by assumption) ?_
              rotate_left
              · intro w hSw; (try dsimp only at hSw); go_simp <;> first | with_reducible rfl | (rw [if_neg (by first | omega | (simp only [ByteArray.size_append] at *; omega))])
              simp only [Act.put, List.setIfInBounds_toArray, List.set_cons_zero, List.set_cons_succ]
              refine wpAnyH_take (i := 10) (oi := { dst := some 140, op := Go.Op.move (Go.Operand.tmp 7), type := 45, pos := _, after := #[{ on := 9, ground := Go.Ground.guard }], guard := some (9, false) }) (v := undef) rfl (by kernel_rfl) (by kernel_rfl) (by kernel_rfl) (fun _ _ _ h => h) (Or.inr ⟨by rfl, rfl⟩) (by assumption) ?_
              simp only [Act.put, List.setIfInBounds_toArray, List.set_cons_zero, List.set_cons_succ]
              refine wpAnyH_take (i := 11) (oi := { dst := some 141, op := Go.Op.move (Go.Operand.tmp 8), type := 3, pos := _, after := #[{ on := 9, ground := Go.Ground.guard }], guard := some (9, false) }) (v := undef) rfl (by kernel_rfl) (by kernel_rfl) (by kernel_rfl) (fun _ _ _ h => h) (Or.inr ⟨by rfl, rfl⟩) (by assumption) ?_
              simp only [Act.put, List.setIfInBounds_toArray, List.set_cons_zero, List.set_cons_succ]
              refine wpAnyH_take (i := 12) (oi := { dst := some 142, op := Go.Op.indexAddr 45 (Go.Operand.tmp 140) (Go.Operand.tmp 141), type := 0, pos := _, after := #[{ on := 10, ground := Go.Ground.data }, { on := 11, ground := Go.Ground.data }, { on := 9, ground := Go.Ground.guard }], guard := some (9, false) }) (v := undef) rfl (by kernel_rfl) (by kernel_rfl) (by kernel_rfl) (fun _ _ _ h => h) (Or.inr ⟨by rfl, rfl⟩) (by assumption) ?_
              simp only [Act.put, List.setIfInBounds_toArray, List.set_cons_zero, List.set_cons_succ]
              refine wpAnyH_take (i := 13) (oi := { dst := some 143, op := Go.Op.load 3 (Go.Operand.tmp 142), type := 3, pos := _, after := #[{ on := 12, ground := Go.Ground.data }, { on := 9, ground := Go.Ground.guard }], guard := some (9, false) }) (v := undef) rfl (by kernel_rfl) (by kernel_rfl) (by kernel_rfl) (fun _ _ _ h => h) (Or.inr ⟨by rfl, rfl⟩) (by assumption) ?_
              simp only [Act.put, List.setIfInBounds_toArray, List.set_cons_zero, List.set_cons_succ]
              refine wpAnyH_take (i := 14) (oi := { dst := some 144, op := Go.Op.move (Go.Operand.tmp 7), type := 45, pos := _, after := #[{ on := 9, ground := Go.Ground.guard }], guard := some (9, false) }) (v := undef) rfl (by kernel_rfl) (by kernel_rfl) (by kernel_rfl) (fun _ _ _ h => h) (Or.inr ⟨by rfl, rfl⟩) (by assumption) ?_
              simp only [Act.put, List.setIfInBounds_toArray, List.set_cons_zero, List.set_cons_succ]
              refine wpAnyH_take (i := 15) (oi := { dst := some 145, op := Go.Op.move (Go.Operand.tmp 9), type := 3, pos := _, after := #[{ on := 9, ground := Go.Ground.guard }], guard := some (9, false) }) (v := undef) rfl (by kernel_rfl) (by kernel_rfl) (by kernel_rfl) (fun _ _ _ h => h) (Or.inr ⟨by rfl, rfl⟩) (by assumption) ?_
              simp only [Act.put, List.setIfInBounds_toArray, List.set_cons_zero, List.set_cons_succ]
              refine wpAnyH_take (i := 16) (oi := { dst := some 146, op := Go.Op.indexAddr 45 (Go.Operand.tmp 144) (Go.Operand.tmp 145), type := 0, pos := _, after := #[{ on := 14, ground := Go.Ground.data }, { on := 15, ground := Go.Ground.data }, { on := 9, ground := Go.Ground.guard }], guard := some (9, false) }) (v := undef) rfl (by kernel_rfl) (by kernel_rfl) (by kernel_rfl) (fun _ _ _ h => h) (Or.inr ⟨by rfl, rfl⟩) (by assumption) ?_
              simp only [Act.put, List.setIfInBounds_toArray, List.set_cons_zero, List.set_cons_succ]
              refine wpAnyH_take (i := 17) (oi := { dst := some 147, op := Go.Op.load 3 (Go.Operand.tmp 146), type := 3, pos := _, after := #[{ on := 16, ground := Go.Ground.data }, { on := 9, ground := Go.Ground.guard }], guard := some (9, false) }) (v := undef) rfl (by kernel_rfl) (by kernel_rfl) (by kernel_rfl) (fun _ _ _ h => h) (Or.inr ⟨by rfl, rfl⟩) (by assumption) ?_
              simp only [Act.put, List.setIfInBounds_toArray, List.set_cons_zero, List.set_cons_succ]
              refine wpAnyH_take (i := 18) (oi := { dst := some 148, op := Go.Op.binOp Go.BinOp.eql 3 (Go.Operand.tmp 143) (Go.Operand.tmp 147) 3, type := 4, pos := _, after := #[{ on := 13, ground := Go.Ground.data }, { on := 17, ground := Go.Ground.data }, { on := 9, ground := Go.Ground.guard }], guard := some (9, false) }) (v := undef) rfl (by kernel_rfl) (by kernel_rfl) (by kernel_rfl) (fun _ _ _ h => h) (Or.inr ⟨by rfl, rfl⟩) (by assumption) ?_
              simp only [Act.put, List.setIfInBounds_toArray, List.set_cons_zero, List.set_cons_succ]
              refine wpAnyH_take (i := 19) (oi := { dst := some 149, op := Go.Op.move (Go.Operand.tmp 148), type := 4, pos := _, after := #[{ on := 18, ground := Go.Ground.data }, { on := 9, ground := Go.Ground.chain }, { on := 9, ground := Go.Ground.guard }], guard := some (9, false) }) (v := undef) rfl (by kernel_rfl) (by kernel_rfl) (by kernel_rfl) (fun _ _ _ h => h) (Or.inr ⟨by rfl, rfl⟩) (by assumption) ?_
              simp only [Act.put, List.setIfInBounds_toArray, List.set_cons_zero, List.set_cons_succ]
              refine wpAnyH_take (i := 20) (oi := { dst := some 150, op := Go.Op.move (Go.Operand.tmp 7), type := 45, pos := _, after := #[{ on := 19, ground := Go.Ground.guard }], guard := some (19, true) }) (v := undef) rfl (by kernel_rfl) (by kernel_rfl) (by kernel_rfl) (fun _ _ _ h => h) (Or.inr ⟨by rfl, rfl⟩) (by assumption) ?_
              simp only [Act.put, List.setIfInBounds_toArray, List.set_cons_zero, List.set_cons_succ]
              refine wpAnyH_take (i := 21) (oi := { dst := some 151, op := Go.Op.move (Go.Operand.tmp 8), type := 3, pos := _, after := #[{ on := 19, ground := Go.Ground.guard }], guard := some (19, true) }) (v := undef) rfl (by kernel_rfl) (by kernel_rfl) (by kernel_rfl) (fun _ _ _ h => h) (Or.inr ⟨by rfl, rfl⟩) (by assumption) ?_
              simp only [Act.put, List.setIfInBounds_toArray, List.set_cons_zero, List.set_cons_succ]
              refine wpAnyH_take (i := 22) (oi := { dst := some 152, op := Go.Op.indexAddr 45 (Go.Operand.tmp 150) (Go.Operand.tmp 151), type := 0, pos := _, after := #[{ on := 20, ground := Go.Ground.data }, { on := 21, ground := Go.Ground.data }, { on := 19, ground := Go.Ground.guard }], guard := some (19, true) }) (v := undef) rfl (by kernel_rfl) (by kernel_rfl) (by kernel_rfl) (fun _ _ _ h => h) (Or.inr ⟨by rfl, rfl⟩) (by assumption) ?_
              simp only [Act.put, List.setIfInBounds_toArray, List.set_cons_zero, List.set_cons_succ]
              refine wpAnyH_take (i := 23) (oi := { dst := some 153, op := Go.Op.load 3 (Go.Operand.tmp 152), type := 3, pos := _, after := #[{ on := 22, ground := Go.Ground.data }, { on := 19, ground := Go.Ground.guard }], guard := some (19, true) }) (v := undef) rfl (by kernel_rfl) (by kernel_rfl) (by kernel_rfl) (fun _ _ _ h => h) (Or.inr ⟨by rfl, rfl⟩) (by assumption) ?_
              simp only [Act.put, List.setIfInBounds_toArray, List.set_cons_zero, List.set_cons_succ]
              refine wpAnyH_take (i := 24) (oi := { dst := some 154, op := Go.Op.binOp Go.BinOp.gtr 3 (Go.Operand.tmp 153) (Go.Operand.const (Go.Value.int Go.IntKind.i64 0)) 3, type := 4, pos := _, after := #[{ on := 23, ground := Go.Ground.data }, { on := 19, ground := Go.Ground.guard }], guard := some (19, true) }) (v := undef) rfl (by kernel_rfl) (by kernel_rfl) (by kernel_rfl) (fun _ _ _ h => h) (Or.inr ⟨by rfl, rfl⟩) (by assumption) ?_
              simp only [Act.put, List.setIfInBounds_toArray, List.set_cons_zero, List.set_cons_succ]
              refine wpAnyH_take (i := 25) (oi := { dst := some 155, op := Go.Op.pick (Go.Operand.tmp 149) (Go.Operand.tmp 154) (Go.Operand.const (Go.Value.bool false)), type := 4, pos := _, after := #[{ on := 19, ground := Go.Ground.data }, { on := 24, ground := Go.Ground.data }, { on := 9, ground := Go.Ground.guard }], guard := some (9, false) }) (v := undef) rfl (by kernel_rfl) (by kernel_rfl) (by kernel_rfl) (fun _ _ _ h => h) (Or.inr ⟨by rfl, rfl⟩) (by assumption) ?_
              simp only [Act.put, List.setIfInBounds_toArray, List.set_cons_zero, List.set_cons_succ]
              refine wpAnyH_take (i := 26) (oi := { dst := some 156, op := Go.Op.pick (Go.Operand.tmp 139) (Go.Operand.const (Go.Value.bool true)) (Go.Operand.tmp 155), type := 4, pos := _, after := #[{ on := 9, ground := Go.Ground.data }, { on := 25, ground := Go.Ground.data }], guard := none }) (v := ?_) rfl (by kernel_rfl) (by kernel_rfl) (by kernel_rfl) (fun _ _ _ h => h) (Or.inl ⟨by rfl, ?_⟩) (by assumption) ?_
              rotate_left
              · intro w hSw; (try dsimp only at hSw); go_simp <;> first | with_reducible rfl | (rw [if_neg (by first | omega | (simp only [ByteArray.size_append] at *; omega))])
              simp only [Act.put, List.setIfInBounds_toArray, List.set_cons_zero, List.set_cons_succ]
              refine wpAnyH_done (by kernel_rfl) ?_ _
              go_wp2_with (fail)
              refine (alive _ ((HA.out.below R12.out.av.below).below (below_drewN (Below.refl _ _) 1))).mono ?_
              rintro e w6 ⟨rfl, b6⟩
              have R14 := hid (R12.out.drew.step b6)
              obtain ⟨y0, y1, y2, y3⟩ := R14.out.row4 kl (.int .u8 (opR k : Int)) (.int .i64 0) (.string ⟨#[]⟩) (.slice (some ⟨g2, 0, none⟩) 2 2) (by simp)
              clear b6 R12
              go_wp2_with (fail)
              refine (cL.out _ R14.out pl zpl (by rw [HPL.out]; exact w1'.out.1)).mono ?_
              rintro e w7 ⟨rfl, b7⟩
              have R15 := hid (R14.out.step b7)
              clear b7 R14 y0 y1 y2 y3
              obtain ⟨y0, y1, y2, y3⟩ := R15.out.row4 kr (.int .u8 (opR i : Int)) (.int .i64 0) (.string ⟨#[]⟩) (.slice (some ⟨h2, 0, none⟩) 2 2) (by simp)
              go_wp2_with (fail)
              refine (cR.out _ R15.out se zse (by rw [HSE.out]; exact w1'.out.2)).mono ?_
              rintro e w8 ⟨rfl, b8⟩
              have hB := (R15.out.step b8).av.below
              go_wp2_with (fail)
              go_ret
              exact ⟨rfl, hB⟩
            · have hx : ((rkR i : Int) == 3) = false := by rw [beq_eq_false_iff_ne]; omega
              clear hx3
              have hl4 : decide (rkR k < rkR i) = false := by rw [decide_eq_false_iff_not]; omega
              have hl5 : decide ((rkR k : Int) < (rkR i : Int)) = false := by rw [decide_eq_false_iff_not]; omega
              have he' : ((rkR i : Int) == (rkR k : Int)) = true := by rw [beq_iff_eq]; omega
              have hp4 : decide ((0 : Int) < (rkR i : Int)) = true := by rw [decide_eq_true_eq]; omega
              have hp5 : decide (0 < rkR i) = true := by rw [decide_eq_true_eq]; omega
              clear hl h3 hg
              generalize rkR i = ri at *
              generalize rkR k = rk at *
              go_wp2_with (fail)
              refine wp_region_held_drew (S := fun V => V.cell? ⟨w.heap.size + 1 + 1, i, none⟩ = some (.int .i64 (ri : Int)) ∧ V.cell? ⟨w.heap.size + 1 + 1, k, none⟩ = some (.int .i64 (rk : Int))) (by kernel_rfl) ?_ (fun hHeld => ?_)
              · exact ⟨d0, d1⟩
              refine wpAnyH_take (i := 0) (oi := { dst := some 130, op := Go.Op.move (Go.Operand.tmp 7), type := 45, pos := _, after := #[], guard := none }) (v := ?_) rfl (by kernel_rfl) (by kernel_rfl) (by kernel_rfl) (fun _ _ _ h => h) (Or.inl ⟨by rfl, ?_⟩) (by assumption) ?_
              rotate_left
              · intro w hSw; (try dsimp only at hSw); go_simp <;> first | with_reducible rfl | (rw [if_neg (by first | omega | (simp only [ByteArray.size_append] at *; omega))])
              simp only [Act.put, List.setIfInBounds_toArray, List.set_cons_zero, List.set_cons_succ]
              refine wpAnyH_take (i := 1) (oi := { dst := some 131, op := Go.Op.move (Go.Operand.tmp 8), type := 3, pos := _, after := #[], guard := none }) (v := ?_) rfl (by kernel_rfl) (by kernel_rfl) (by kernel_rfl) (fun _ _ _ h => h) (Or.inl ⟨by rfl, ?_⟩) (by assumption) ?_
              rotate_left
              · intro w hSw; (try dsimp only at hSw); go_simp <;> first | with_reducible rfl | (rw [if_neg (by first | omega | (simp only [ByteArray.size_append] at *; omega))])
              simp only [Act.put, List.setIfInBounds_toArray, List.set_cons_zero, List.set_cons_succ]
              refine wpAnyH_take (i := 2) (oi := { dst := some 132, op := Go.Op.indexAddr 45 (Go.Operand.tmp 130) (Go.Operand.tmp 131), type := 0, pos := _, after := #[{ on := 0, ground := Go.Ground.data }, { on := 1, ground := Go.Ground.data }], guard := none }) (v := ?_) rfl (by kernel_rfl) (by kernel_rfl) (by kernel_rfl) (fun _ _ _ h => h) (Or.inl ⟨by rfl, ?_⟩) (by assumption) ?_
              rotate_left
              · intro w hSw; (try dsimp only at hSw); go_simp <;> first | with_reducible rfl | (rw [if_neg (by first | omega | (simp only [ByteArray.size_append] at *; omega))])
              simp only [Act.put, List.setIfInBounds_toArray, List.set_cons_zero, List.set_cons_succ]
              refine wpAnyH_take (i := 3) (oi := { dst := some 133, op := Go.Op.load 3 (Go.Operand.tmp 132), type := 3, pos := _, after := #[{ on := 2, ground := Go.Ground.data }], guard := none }) (v := ?_) rfl (by kernel_rfl) (by kernel_rfl) (by kernel_rfl) (fun _ _ _ h => h) (Or.inl ⟨by rfl, ?_⟩) (by assumption) ?_
              rotate_left
              · intro w hSw; (try dsimp only at hSw); go_simp <;> first | with_reducible rfl | (rw [if_neg (by first | omega | (simp only [ByteArray.size_append] at *; omega))])
              simp only [Act.put, List.setIfInBounds_toArray, List.set_cons_zero, List.set_cons_succ]
              refine wpAnyH_take (i := 4) (oi := { dst := some 134, op := Go.Op.move (Go.Operand.tmp 7), type := 45, pos := _, after := #[], guard := none }) (v := ?_) rfl (by kernel_rfl) (by kernel_rfl) (by kernel_rfl) (fun _ _ _ h => h) (Or.inl ⟨by rfl, ?_⟩) (by assumption) ?_
              rotate_left
              · intro w hSw; (try dsimp only at hSw); go_simp <;> first | with_reducible rfl | (rw [if_neg (by first | omega | (simp only [ByteArray.size_append] at *; omega))])
              simp only [Act.put, List.setIfInBounds_toArray, List.set_cons_zero, List.set_cons_succ]
              refine wpAnyH_take (i := 5) (oi := { dst := some 135, op := Go.Op.move (Go.Operand.tmp 9), type := 3, pos := _, after := #[], guard := none }) (v := ?_) rfl (by kernel_rfl) (by kernel_rfl) (by kernel_rfl) (fun _ _ _ h => h) (Or.inl ⟨by rfl, ?_⟩) (by assumption) ?_
              rotate_left
              · intro w hSw; (try dsimp only at hSw); go_simp <;> first | with_reducible rfl | (rw [if_neg (by first | omega | (simp only [ByteArray.size_append] at *; omega))])
              simp only [Act.put, List.setIfInBounds_toArray, List.set_cons_zero, List.set_cons_succ]
              refine wpAnyH_take (i := 6) (oi := { dst := some 136, op := Go.Op.indexAddr 45 (Go.Operand.tmp 134) (Go.Operand.tmp 135), type := 0, pos := _, after := #[{ on := 4, ground := Go.Ground.data }, { on := 5, ground := Go.Ground.data }], guard := none }) (v := ?_) rfl (by kernel_rfl) (by kernel_rfl) (by kernel_rfl) (fun _ _ _ h => h) (Or.inl ⟨by rfl, ?_⟩) (by assumption) ?_
              rotate_left
              · intro w hSw; (try dsimp only at hSw); go_simp <;> first | with_reducible rfl | (rw [if_neg (by first | omega | (simp only [ByteArray.size_append] at *; omega))])
              simp only [Act.put, List.setIfInBounds_toArray, List.set_cons_zero, List.set_cons_succ]
              refine wpAnyH_take (i := 7) (oi := { dst := some 137, op := Go.Op.load 3 (Go.Operand.tmp 136), type := 3, pos := _, after := #[{ on := 6, ground := Go.Ground.data }], guard := none }) (v := ?_) rfl (by kernel_rfl) (by kernel_rfl) (by kernel_rfl) (fun _ _ _ h => h) (Or.inl ⟨by rfl, ?_⟩) (by assumption) ?_
              rotate_left
              · intro w hSw; (try dsimp only at hSw); go_simp <;> first | with_reducible rfl | (rw [if_neg (by first | omega | (simp only [ByteArray.size_append] at *; omega))])
              simp only [Act.put, List.setIfInBounds_toArray, List.set_cons_zero, List.set_cons_succ]
              refine wpAnyH_take (i := 8) (oi := { dst := some 138, op := Go.Op.binOp Go.BinOp.gtr 3 (Go.Operand.tmp 133) (Go.Operand.tmp 137) 3, type := 4, pos := _, after := #[{ on := 3, ground := Go.Ground.data }, { on := 7, ground := Go.Ground.data }], guard := none }) (v := ?_) rfl (by kernel_rfl) (by kernel_rfl) (by kernel_rfl) (fun _ _ _ h => h) (Or.inl ⟨by rfl, ?_⟩) (by assumption) ?_
              rotate_left
              · intro w hSw; (try dsimp only at hSw); go_simp <;> first | with_reducible rfl | (rw [if_neg (by first | omega | (simp only [ByteArray.size_append] at *; omega))])
              simp only [Act.put, List.setIfInBounds_toArray, List.set_cons_zero, List.set_cons_succ]
              refine wpAnyH_take (i := 9) (oi := { dst := some 139, op := Go.Op.move (Go.Operand.tmp 138), type := 4, pos := _, after := #[{ on := 8, ground := Go.Ground.data }], guard := none }) (v := ?_) rfl (by kernel_rfl) (by kernel_rfl) (by kernel_rfl) (fun _ _ _ h => h) (Or.inl ⟨by rfl, ?_⟩) (by assumption) ?_
              rotate_left
              · intro w hSw; (try dsimp only at hSw); go_simp <;> first | with_reducible rfl | (rw [if_neg (by first | omega | (simp only [ByteArray.size_append] at *; omega))])
              simp only [Act.put, List.setIfInBounds_toArray, List.set_cons_zero, List.set_cons_succ]
              refine wpAnyH_take (i := 10) (oi := { dst := some 140, op := Go.Op.move (Go.Operand.tmp 7), type := 45, pos := _, after := #[{ on := 9, ground := Go.Ground.guard }], guard := some (9, false) }) (v := ?_) rfl (by kernel_rfl) (by kernel_rfl) (by kernel_rfl) (fun _ _ _ h => h) (Or.inl ⟨by rfl, ?_⟩) (by assumption) ?_
              rotate_left
              · intro w hSw; (try dsimp only at hSw); go_simp <;> first | with_reducible rfl | (rw [if_neg (by first | omega | (simp only [ByteArray.size_append] at *; omega))])
              simp only [Act.put, List.setIfInBounds_toArray, List.set_cons_zero, List.set_cons_succ]
              refine wpAnyH_take (i := 11) (oi := { dst := some 141, op := Go.Op.move (Go.Operand.tmp 8), type := 3, pos := _, after := #[{ on := 9, ground := Go.Ground.guard }], guard := some (9, false) }) (v := ?_) rfl (by kernel_rfl) (by kernel_rfl) (by kernel_rfl) (fun _ _ _ h => h) (Or.inl ⟨by rfl, ?_⟩) (by assumption) ?_
              rotate_left
              · intro w hSw; (try dsimp only at hSw); go_simp <;> first | with_reducible rfl | (rw [if_neg (by first | omega | (simp only [ByteArray.size_append] at *; omega))])
              simp only [Act.put, List.setIfInBounds_toArray, List.set_cons_zero, List.set_cons_succ]
              refine wpAnyH_take (i := 12) (oi := { dst := some 142, op := Go.Op.indexAddr 45 (Go.Operand.tmp 140) (Go.Operand.tmp 141), type := 0, pos := _, after := #[{ on := 10, ground := Go.Ground.data }, { on := 11, ground := Go.Ground.data }, { on := 9, ground := Go.Ground.guard }], guard := some (9, false) }) (v := ?_) rfl (by kernel_rfl) (by kernel_rfl) (by kernel_rfl) (fun _ _ _ h => h) (Or.inl ⟨by rfl, ?_⟩) (by assumption) ?_
              rotate_left
              · intro w hSw; (try dsimp only at hSw); go_simp <;> first | with_reducible rfl | (rw [if_neg (by first | omega | (simp only [ByteArray.size_append] at *; omega))])
              simp only [Act.put, List.setIfInBounds_toArray, List.set_cons_zero, List.set_cons_succ]
              refine wpAnyH_take (i := 13) (oi := { dst := some 143, op := Go.Op.load 3 (Go.Operand.tmp 142), type := 3, pos := _, after := #[{ on := 12, ground := Go.Ground.data }, { on := 9, ground := Go.Ground.guard }], guard := some (9, false) }) (v := ?_) rfl (by kernel_rfl) (by kernel_rfl) (by kernel_rfl) (fun _ _ _ h => h) (Or.inl ⟨by rfl, ?_⟩) (by assumption) ?_
              rotate_left
              · intro w hSw; (try dsimp only at hSw); go_simp <;> first | with_reducible rfl | (rw [if_neg (by first | omega | (simp only [ByteArray.size_append] at *; omega))])
              simp only [Act.put, List.setIfInBounds_toArray, List.set_cons_zero, List.set_cons_succ]
              refine wpAnyH_take (i := 14) (oi := { dst := some 144, op := Go.Op.move (Go.Operand.tmp 7), type := 45, pos := _, after := #[{ on := 9, ground := Go.Ground.guard }], guard := some (9, false) }) (v := ?_) rfl (by kernel_rfl) (by kernel_rfl) (by kernel_rfl) (fun _ _ _ h => h) (Or.inl ⟨by rfl, ?_⟩) (by assumption) ?_
              rotate_left
              · intro w hSw; (try dsimp only at hSw); go_simp <;> first | with_reducible rfl | (rw [if_neg (by first | omega | (simp only [ByteArray.size_append] at *; omega))])
              simp only [Act.put, List.setIfInBounds_toArray, List.set_cons_zero, List.set_cons_succ]
              refine wpAnyH_take (i := 15) (oi := { dst := some 145, op := Go.Op.move (Go.Operand.tmp 9), type := 3, pos := _, after := #[{ on := 9, ground := Go.Ground.guard }], guard := some (9, false) }) (v := ?_) rfl (by kernel_rfl) (by kernel_rfl) (by kernel_rfl) (fun _ _ _ h => h) (Or.inl ⟨by rfl, ?_⟩) (by assumption) ?_
              rotate_left
              · intro w hSw; (try dsimp only at hSw); go_simp <;> first | with_reducible rfl | (rw [if_neg (by first | omega | (simp only [ByteArray.size_append] at *; omega))])
              simp only [Act.put, List.setIfInBounds_toArray, List.set_cons_zero, List.set_cons_succ]
              refine wpAnyH_take (i := 16) (oi := { dst := some 146, op := Go.Op.indexAddr 45 (Go.Operand.tmp 144) (Go.Operand.tmp 145), type := 0, pos := _, after := #[{ on := 14, ground := Go.Ground.data }, { on := 15, ground := Go.Ground.data }, { on := 9, ground := Go.Ground.guard }], guard := some (9, false) }) (v := ?_) rfl (by kernel_rfl) (by kernel_rfl) (by kernel_rfl) (fun _ _ _ h => h) (Or.inl ⟨by rfl, ?_⟩) (by assumption) ?_
              rotate_left
              · intro w hSw; (try dsimp only at hSw); go_simp <;> first | with_reducible rfl | (rw [if_neg (by first | omega | (simp only [ByteArray.size_append] at *; omega))])
              simp only [Act.put, List.setIfInBounds_toArray, List.set_cons_zero, List.set_cons_succ]
              refine wpAnyH_take (i := 17) (oi := { dst := some 147, op := Go.Op.load 3 (Go.Operand.tmp 146), type := 3, pos := _, after := #[{ on := 16, ground := Go.Ground.data }, { on := 9, ground := Go.Ground.guard }], guard := some (9, false) }) (v := ?_) rfl (by kernel_rfl) (by kernel_rfl) (by kernel_rfl) (fun _ _ _ h => h) (Or.inl ⟨by rfl, ?_⟩) (by assumption) ?_
              rotate_left
              · intro w hSw; (try dsimp only at hSw); go_simp <;> first | with_reducible rfl | (rw [if_neg (by first | omega | (simp only [ByteArray.size_append] at *; omega))])
              simp only [Act.put, List.setIfInBounds_toArray, List.set_cons_zero, List.set_cons_succ]
              refine wpAnyH_take (i := 18) (oi := { dst := some 148, op := Go.Op.binOp Go.BinOp.eql 3 (Go.Operand.tmp 143) (Go.Operand.tmp 147) 3, type := 4, pos := _, after := #[{ on := 13, ground := Go.Ground.data }, { on := 17, ground := Go.Ground.data }, { on := 9, ground := Go.Ground.guard }], guard := some (9, false) }) (v := ?_) rfl (by kernel_rfl) (by kernel_rfl) (by kernel_rfl) (fun _ _ _ h => h) (Or.inl ⟨by rfl, ?_⟩) (by assumption) ?_
              rotate_left
              · intro w hSw; (try dsimp only at hSw); go_simp <;> first | with_reducible rfl | (rw [if_neg (by first | omega | (simp only [ByteArray.size_append] at *; omega))])
              simp only [Act.put, List.setIfInBounds_toArray, List.set_cons_zero, List.set_cons_succ]
              refine wpAnyH_take (i := 19) (oi := { dst := some 149, op := Go.Op.move (Go.Operand.tmp 148), type := 4, pos := _, after := #[{ on := 18, ground := Go.Ground.data }, { on := 9, ground := Go.Ground.chain }, { on := 9, ground := Go.Ground.guard }], guard := some (9, false) }) (v := ?_) rfl (by kernel_rfl) (by kernel_rfl) (by kernel_rfl) (fun _ _ _ h => h) (Or.inl ⟨by rfl, ?_⟩) (by assumption) ?_
              rotate_left
              · intro w hSw; (try dsimp only at hSw); go_simp <;> first | with_reducible rfl | (rw [if_neg (by first | omega | (simp only [ByteArray.size_append] at *; omega))])
              simp only [Act.put, List.setIfInBounds_toArray, List.set_cons_zero, List.set_cons_succ]
              refine wpAnyH_take (i := 20) (oi := { dst := some 150, op := Go.Op.move (Go.Operand.tmp 7), type := 45, pos := _, after := #[{ on := 19, ground := Go.Ground.guard }], guard := some (19, true) }) (v := ?_) rfl (by kernel_rfl) (by kernel_rfl) (by kernel_rfl) (fun _ _ _ h => h) (Or.inl ⟨by rfl, ?_⟩) (by assumption) ?_
              rotate_left
              · intro w hSw; (try dsimp only at hSw); go_simp <;> first | with_reducible rfl | (rw [if_neg (by first | omega | (simp only [ByteArray.size_append] at *; omega))])
              simp only [Act.put, List.setIfInBounds_toArray, List.set_cons_zero, List.set_cons_succ]
              refine wpAnyH_take (i := 21) (oi := { dst := some 151, op := Go.Op.move (Go.Operand.tmp 8), type := 3, pos := _, after := #[{ on := 19, ground := Go.Ground.guard }], guard := some (19, true) }) (v := ?_) rfl (by kernel_rfl) (by kernel_rfl) (by kernel_rfl) (fun _ _ _ h => h) (Or.inl ⟨by rfl, ?_⟩) (by assumption) ?_
              rotate_left
              · intro w hSw; (try dsimp only at hSw); go_simp <;> first | with_reducible rfl | (rw [if_neg (by first | omega | (simp only [ByteArray.size_append] at *; omega))])
              simp only [Act.put, List.setIfInBounds_toArray, List.set_cons_zero, List.set_cons_succ]
              refine wpAnyH_take (i := 22) (oi := { dst := some 152, op := Go.Op.indexAddr 45 (Go.Operand.tmp 150) (Go.Operand.tmp 151), type := 0, pos := _, after := #[{ on := 20, ground := Go.Ground.data }, { on := 21, ground := Go.Ground.data }, { on := 19, ground := Go.Ground.guard }], guard := some (19, true) }) (v := ?_) rfl (by kernel_rfl) (by kernel_rfl) (by kernel_rfl) (fun _ _ _ h => h) (Or.inl ⟨by rfl, ?_⟩) (by assumption) ?_
              rotate_left
              · intro w hSw; (try dsimp only at hSw); go_simp <;> first | with_reducible rfl | (rw [if_neg (by first | omega | (simp only [ByteArray.size_append] at *; omega))])
              simp only [Act.put, List.setIfInBounds_toArray, List.set_cons_zero, List.set_cons_succ]
              refine wpAnyH_take (i := 23) (oi := { dst := some 153, op := Go.Op.load 3 (Go.Operand.tmp 152), type := 3, pos := _, after := #[{ on := 22, ground := Go.Ground.data }, { on := 19, ground := Go.Ground.guard }], guard := some (19, true) }) (v := ?_) rfl (by kernel_rfl) (by kernel_rfl) (by kernel_rfl) (fun _ _ _ h => h) (Or.inl ⟨by rfl, ?_⟩) (by assumption) ?_
              rotate_left
              · intro w hSw; (try dsimp only at hSw); go_simp <;> first | with_reducible rfl | (rw [if_neg (by first | omega | (simp only [ByteArray.size_append] at *; omega))])
              simp only [Act.put, List.setIfInBounds_toArray, List.set_cons_zero, List.set_cons_succ]
              refine wpAnyH_take (i := 24) (oi := { dst := some 154, op := Go.Op.binOp Go.BinOp.gtr 3 (Go.Operand.tmp 153) (Go.Operand.const (Go.Value.int Go.IntKind.i64 0)) 3, type := 4, pos := _, after := #[{ on := 23, ground := Go.Ground.data }, { on := 19, ground := Go.Ground.guard }], guard := some (19, true) }) (v := ?_) rfl (by kernel_rfl) (by kernel_rfl) (by kernel_rfl) (fun _ _ _ h => h) (Or.inl ⟨by rfl, ?_⟩) (by assumption) ?_
              rotate_left
              · intro w hSw; (try dsimp only at hSw); go_simp <;> first | with_reducible rfl | (rw [if_neg (by first | omega | (simp only [ByteArray.size_append] at *; omega))])
              simp only [Act.put, List.setIfInBounds_toArray, List.set_cons_zero, List.set_cons_succ]
              refine wpAnyH_take (i := 25) (oi := { dst := some 155, op := Go.Op.pick (Go.Operand.tmp 149) (Go.Operand.tmp 154) (Go.Operand.const (Go.Value.bool false)), type := 4, pos := _, after := #[{ on := 19, ground := Go.Ground.data }, { on := 24, ground := Go.Ground.data }, { on := 9, ground := Go.Ground.guard }], guard := some (9, false) }) (v := ?_) rfl (by kernel_rfl) (by kernel_rfl) (by kernel_rfl) (fun _ _ _ h => h) (Or.inl ⟨by rfl, ?_⟩) (by assumption) ?_
              rotate_left
              · intro w hSw; (try dsimp only at hSw); go_simp <;> first | with_reducible rfl | (rw [if_neg (by first | omega | (simp only [ByteArray.size_append] at *; omega))])
              simp only [Act.put, List.setIfInBounds_toArray, List.set_cons_zero, List.set_cons_succ]
              refine wpAnyH_take (i := 26) (oi := { dst := some 156, op := Go.Op.pick (Go.Operand.tmp 139) (Go.Operand.const (Go.Value.bool true)) (Go.Operand.tmp 155), type := 4, pos := _, after := #[{ on := 9, ground := Go.Ground.data }, { on := 25, ground := Go.Ground.data }], guard := none }) (v := ?_) rfl (by kernel_rfl) (by kernel_rfl) (by kernel_rfl) (fun _ _ _ h => h) (Or.inl ⟨by rfl, ?_⟩) (by assumption) ?_
              rotate_left
              · intro w hSw; (try dsimp only at hSw); go_simp <;> first | with_reducible rfl | (rw [if_neg (by first | omega | (simp only [ByteArray.size_append] at *; omega))])
              simp only [Act.put, List.setIfInBounds_toArray, List.set_cons_zero, List.set_cons_succ]
              refine wpAnyH_done (by kernel_rfl) ?_ _
              go_wp2_with (fail)
              refine (alive _ ((HA.out.below R12.out.av.below).below (below_drewN (Below.refl _ _) 1))).mono ?_
              rintro e w6 ⟨rfl, b6⟩
              have R14 := hid (R12.out.drew.step b6)
              obtain ⟨y0, y1, y2, y3⟩ := R14.out.row4 kl (.int .u8 (opR k : Int)) (.int .i64 0) (.string ⟨#[]⟩) (.slice (some ⟨g2, 0, none⟩) 2 2) (by simp)
              clear b6 R12
              go_wp2_with (fail)
              refine (cL.out _ R14.out pl zpl (by rw [HPL.out]; exact w1'.out.1)).mono ?_
              rintro e w7 ⟨rfl, b7⟩
              have R15 := hid (R14.out.step b7)
              clear b7 R14 y0 y1 y2 y3
              obtain ⟨y0, y1, y2, y3⟩ := R15.out.row4 kr (.int .u8 (opR i : Int)) (.int .i64 0) (.string ⟨#[]⟩) (.slice (some ⟨h2, 0, none⟩) 2 2) (by simp)
              go_wp2_with (fail)
              refine (cR.out _ R15.out se zse (by rw [HSE.out]; exact w1'.out.2)).mono ?_
              rintro e w8 ⟨rfl, b8⟩
              have hB := (R15.out.step b8).av.below
              go_wp2_with (fail)
              go_ret
              exact ⟨rfl, hB⟩
        · have w1' := hid (HW.out.2.2 h3 hg)
          by_cases hx3 : rkR i = 3
          · by_cases hl : rkR i = rkR k
            · have hx : ((rkR i : Int) == 3) = true := by rw [beq_iff_eq]; omega
              have hy : ((rkR k : Int) == 3) = false := by rw [beq_eq_false_iff_ne]; omega
              clear hx3
              have hl4 : decide (rkR k < rkR i) = false := by rw [decide_eq_false_iff_not]; omega
              have hl5 : decide ((rkR k : Int) < (rkR i : Int)) = false := by rw [decide_eq_false_iff_not]; omega
              have he' : ((rkR i : Int) == (rkR k : Int)) = true := by rw [beq_iff_eq]; omega
              have hp4 : decide ((0 : Int) < (rkR i : Int)) = false := by rw [decide_eq_false_iff_not]; omega
              have hp5 : decide (0 < rkR i) = false := by rw [decide_eq_false_iff_not]; omega
              clear hl h3 hg
              generalize rkR i = ri at *
              generalize rkR k = rk at *
              go_wp2_with (fail)
              refine wp_region_held_drew (S := fun V => V.cell? ⟨w.heap.size + 1 + 1, i, none⟩ = some (.int .i64 (ri : Int)) ∧ V.cell? ⟨w.heap.size + 1 + 1, k, none⟩ = some (.int .i64 (rk : Int))) (by kernel_rfl) ?_ (fun hHeld => ?_)
              · exact ⟨d0, d1⟩
              refine wpAnyH_take (i := 0) (oi := { dst := some 130, op := Go.Op.move (Go.Operand.tmp 7), type := 45, pos := _, after := #[], guard := none }) (v := ?_) rfl (by kernel_rfl) (by kernel_rfl) (by kernel_rfl) (fun _ _ _ h => h) (Or.inl ⟨by rfl, ?_⟩) (by assumption) ?_
              rotate_left
              · intro w hSw; (try dsimp only at hSw); go_simp <;> first | with_reducible rfl | (rw [if_neg (by first | omega | (simp only [ByteArray.size_append] at *; omega))])
              simp only [Act.put, List.setIfInBounds_toArray, List.set_cons_zero, List.set_cons_succ]
              refine wpAnyH_take (i := 1) (oi := { dst := some 131, op := Go.Op.move (Go.Operand.tmp 8), type := 3, pos := _, after := #[], guard := none }) (v := ?_) rfl (by kernel_rfl) (by kernel_rfl) (by kernel_rfl) (fun _ _ _ h => h) (Or.inl ⟨by rfl, ?_⟩) (by assumption) ?_
              rotate_left
              · intro w hSw; (try dsimp only at hSw); go_simp <;> first | with_reducible rfl | (rw [if_neg (by first | omega | (simp only [ByteArray.size_append] at *; omega))])
              simp only [Act.put, List.setIfInBounds_toArray, List.set_cons_zero, List.set_cons_succ]
              refine wpAnyH_take (i := 2) (oi := { dst := some 132, op := Go.Op.indexAddr 45 (Go.Operand.tmp 130) (Go.Operand.tmp 131), type := 0, pos := _, after := #[{ on := 0, ground := Go.Ground.data }, { on := 1, ground := Go.Ground.data }], guard := none }) (v := ?_) rfl (by kernel_rfl) (by kernel_rfl) (by kernel_rfl) (fun _ _ _ h => h) (Or.inl ⟨by rfl, ?_⟩) (by assumption) ?_
              rotate_left
              · intro w hSw; (try dsimp only at hSw); go_simp <;> first | with_reducible rfl | (rw [if_neg (by first | omega | (simp only [ByteArray.size_append] at *; omega))])
              simp only [Act.put, List.setIfInBounds_toArray, List.set_cons_zero, List.set_cons_succ]
              refine wpAnyH_take (i := 3) (oi := { dst := some 133, op := Go.Op.load 3 (Go.Operand.tmp 132), type := 3, pos := _, after := #[{ on := 2, ground := Go.Ground.data }], guard := none }) (v := ?_) rfl (by kernel_rfl) (by kernel_rfl) (by kernel_rfl) (fun _ _ _ h => h) (Or.inl ⟨by rfl, ?_⟩) (by assumption) ?_
              rotate_left
              · intro w hSw; (try dsimp only at hSw); go_simp <;> first | with_reducible rfl | (rw [if_neg (by first | omega | (simp only [ByteArray.size_append] at *; omega))])
              simp only [Act.put, List.setIfInBounds_toArray, List.set_cons_zero, List.set_cons_succ]
              refine wpAnyH_take (i := 4) (oi := { dst := some 134, op := Go.Op.move (Go.Operand.tmp 7), type := 45, pos := _, after := #[], guard := none }) (v := ?_) rfl (by kernel_rfl) (by kernel_rfl) (by kernel_rfl) (fun _ _ _ h => h) (Or.inl ⟨by rfl, ?_⟩) (by assumption) ?_
              rotate_left
              · intro w hSw; (try dsimp only at hSw); go_simp <;> first | with_reducible rfl | (rw [if_neg (by first | omega | (simp only [ByteArray.size_append] at *; omega))])
              simp only [Act.put, List.setIfInBounds_toArray, List.set_cons_zero, List.set_cons_succ]
              refine wpAnyH_take (i := 5) (oi := { dst := some 135, op := Go.Op.move (Go.Operand.tmp 9), type := 3, pos := _, after := #[], guard := none }) (v := ?_) rfl (by kernel_rfl) (by kernel_rfl) (by kernel_rfl) (fun _ _ _ h => h) (Or.inl ⟨by rfl, ?_⟩) (by assumption) ?_
              rotate_left
              · intro w hSw; (try dsimp only at hSw); go_simp <;> first | with_reducible rfl | (rw [if_neg (by first | omega | (simp only [ByteArray.size_append] at *; omega))])
              simp only [Act.put, List.setIfInBounds_toArray, List.set_cons_zero, List.set_cons_succ]
              refine wpAnyH_take (i := 6) (oi := { dst := some 136, op := Go.Op.indexAddr 45 (Go.Operand.tmp 134) (Go.Operand.tmp 135), type := 0, pos := _, after := #[{ on := 4, ground := Go.Ground.data }, { on := 5, ground := Go.Ground.data }], guard := none }) (v := ?_) rfl (by kernel_rfl) (by kernel_rfl) (by kernel_rfl) (fun _ _ _ h => h) (Or.inl ⟨by rfl, ?_⟩) (by assumption) ?_
              rotate_left
              · intro w hSw; (try dsimp only at hSw); go_simp <;> first | with_reducible rfl | (rw [if_neg (by first | omega | (simp only [ByteArray.size_append] at *; omega))])
              simp only [Act.put, List.setIfInBounds_toArray, List.set_cons_zero, List.set_cons_succ]
              refine wpAnyH_take (i := 7) (oi := { dst := some 137, op := Go.Op.load 3 (Go.Operand.tmp 136), type := 3, pos := _, after := #[{ on := 6, ground := Go.Ground.data }], guard := none }) (v := ?_) rfl (by kernel_rfl) (by kernel_rfl) (by kernel_rfl) (fun _ _ _ h => h) (Or.inl ⟨by rfl, ?_⟩) (by assumption) ?_
              rotate_left
              · intro w hSw; (try dsimp only at hSw); go_simp <;> first | with_reducible rfl | (rw [if_neg (by first | omega | (simp only [ByteArray.size_append] at *; omega))])
              simp only [Act.put, List.setIfInBounds_toArray, List.set_cons_zero, List.set_cons_succ]
              refine wpAnyH_take (i := 8) (oi := { dst := some 138, op := Go.Op.binOp Go.BinOp.gtr 3 (Go.Operand.tmp 133) (Go.Operand.tmp 137) 3, type := 4, pos := _, after := #[{ on := 3, ground := Go.Ground.data }, { on := 7, ground := Go.Ground.data }], guard := none }) (v := ?_) rfl (by kernel_rfl) (by kernel_rfl) (by kernel_rfl) (fun _ _ _ h => h) (Or.inl ⟨by rfl, ?_⟩) (by assumption) ?_
              rotate_left
              · intro w hSw; (try dsimp only at hSw); go_simp <;> first | with_reducible rfl | (rw [if_neg (by first | omega | (simp only [ByteArray.size_append] at *; omega))])
              simp only [Act.put, List.setIfInBounds_toArray, List.set_cons_zero, List.set_cons_succ]
              refine wpAnyH_take (i := 9) (oi := { dst := some 139, op := Go.Op.move (Go.Operand.tmp 138), type := 4, pos := _, after := #[{ on := 8, ground := Go.Ground.data }], guard := none }) (v := ?_) rfl (by kernel_rfl) (by kernel_rfl) (by kernel_rfl) (fun _ _ _ h => h) (Or.inl ⟨by rfl, ?_⟩) (by assumption) ?_
              rotate_left
              · intro w hSw; (try dsimp only at hSw); go_simp <;> first | with_reducible rfl | (rw [if_neg (by first | omega | (simp only [ByteArray.size_append] at *; omega))])
              simp only [Act.put, List.setIfInBounds_toArray, List.set_cons_zero, List.set_cons_succ]
              refine wpAnyH_take (i := 10) (oi := { dst := some 140, op := Go.Op.move (Go.Operand.tmp 7), type := 45, pos := _, after := #[{ on := 9, ground := Go.Ground.guard }], guard := some (9, false) }) (v := ?_) rfl (by kernel_rfl) (by kernel_rfl) (by kernel_rfl) (fun _ _ _ h => h) (Or.inl ⟨by rfl, ?_⟩) (by assumption) ?_
              rotate_left
              · intro w hSw; (try dsimp only at hSw); go_simp <;> first | with_reducible rfl | (rw [if_neg (by first | omega | (simp only [ByteArray.size_append] at *; omega))])
              simp only [Act.put, List.setIfInBounds_toArray, List.set_cons_zero, List.set_cons_succ]
              refine wpAnyH_take (i := 11) (oi := { dst := some 141, op := Go.Op.move (Go.Operand.tmp 8), type := 3, pos := _, after := #[{ on := 9, ground := Go.Ground.guard }], guard := some (9, false) }) (v := ?_) rfl (by kernel_rfl) (by kernel_rfl) (by kernel_rfl) (fun _ _ _ h => h) (Or.inl ⟨by rfl, ?_⟩) (by assumption) ?_
              rotate_left
              · intro w hSw; (try dsimp only at hSw); go_simp <;> first | with_reducible rfl | (rw [if_neg (by first | omega | (simp only [ByteArray.size_append] at *; omega))])
              simp only [Act.put, List.setIfInBounds_toArray, List.set_cons_zero, List.set_cons_succ]
              refine wpAnyH_take (i := 12) (oi := { dst := some 142, op := Go.Op.indexAddr 45 (Go.Operand.tmp 140) (Go.Operand.tmp 141), type := 0, pos := _, after := #[{ on := 10, ground := Go.Ground.data }, { on := 11, ground := Go.Ground.data }, { on := 9, ground := Go.Ground.guard }], guard := some (9, false) }) (v := ?_) rfl (by kernel_rfl) (by kernel_rfl) (by kernel_rfl) (fun _ _ _ h => h) (Or.inl ⟨by rfl, ?_⟩) (by assumption) ?_
              rotate_left
              · intro w hSw; (try dsimp only at hSw); go_simp <;> first | with_reducible rfl | (rw [if_neg (by first | omega | (simp only [ByteArray.size_append] at *; omega))])
              simp only [Act.put, List.setIfInBounds_toArray, List.set_cons_zero, List.set_cons_succ]
              refine wpAnyH_take (i := 13) (oi := { dst := some 143, op := Go.Op.load 3 (Go.Operand.tmp 142), type := 3, pos := _, after := #[{ on := 12, ground := Go.Ground.data }, { on := 9, ground := Go.Ground.guard }], guard := some (9, false) }) (v := ?_) rfl (by kernel_rfl) (by kernel_rfl) (by kernel_rfl) (fun _ _ _ h => h) (Or.inl ⟨by rfl, ?_⟩) (by assumption) ?_
              rotate_left
              · intro w hSw; (try dsimp only at hSw); go_simp <;> first | with_reducible rfl | (rw [if_neg (by first | omega | (simp only [ByteArray.size_append] at *; omega))])
              simp only [Act.put, List.setIfInBounds_toArray, List.set_cons_zero, List.set_cons_succ]
              refine wpAnyH_take (i := 14) (oi := { dst := some 144, op := Go.Op.move (Go.Operand.tmp 7), type := 45, pos := _, after := #[{ on := 9, ground := Go.Ground.guard }], guard := some (9, false) }) (v := ?_) rfl (by kernel_rfl) (by kernel_rfl) (by kernel_rfl) (fun _ _ _ h => h) (Or.inl ⟨by rfl, ?_⟩) (by assumption) ?_
              rotate_left
              · intro w hSw; (try dsimp only at hSw); go_simp <;> first | with_reducible rfl | (rw [if_neg (by first | omega | (simp only [ByteArray.size_append] at *; omega))])
              simp only [Act.put, List.setIfInBounds_toArray, List.set_cons_zero, List.set_cons_succ]
              refine wpAnyH_take (i := 15) (oi := { dst := some 145, op := Go.Op.move (Go.Operand.tmp 9), type := 3, pos := _, after := #[{ on := 9, ground := Go.Ground.guard }], guard := some (9, false) }) (v := ?_) rfl (by kernel_rfl) (by kernel_rfl) (by kernel_rfl) (fun _ _ _ h => h) (Or.inl ⟨by rfl, ?_⟩) (by assumption) ?_
              rotate_left
              · intro w hSw; (try dsimp only at hSw); go_simp <;> first | with_reducible rfl | (rw [if_neg (by first | omega | (simp only [ByteArray.size_append] at *; omega))])
              simp only [Act.put, List.setIfInBounds_toArray, List.set_cons_zero, List.set_cons_succ]
              refine wpAnyH_take (i := 16) (oi := { dst := some 146, op := Go.Op.indexAddr 45 (Go.Operand.tmp 144) (Go.Operand.tmp 145), type := 0, pos := _, after := #[{ on := 14, ground := Go.Ground.data }, { on := 15, ground := Go.Ground.data }, { on := 9, ground := Go.Ground.guard }], guard := some (9, false) }) (v := ?_) rfl (by kernel_rfl) (by kernel_rfl) (by kernel_rfl) (fun _ _ _ h => h) (Or.inl ⟨by rfl, ?_⟩) (by assumption) ?_
              rotate_left
              · intro w hSw; (try dsimp only at hSw); go_simp <;> first | with_reducible rfl | (rw [if_neg (by first | omega | (simp only [ByteArray.size_append] at *; omega))])
              simp only [Act.put, List.setIfInBounds_toArray, List.set_cons_zero, List.set_cons_succ]
              refine wpAnyH_take (i := 17) (oi := { dst := some 147, op := Go.Op.load 3 (Go.Operand.tmp 146), type := 3, pos := _, after := #[{ on := 16, ground := Go.Ground.data }, { on := 9, ground := Go.Ground.guard }], guard := some (9, false) }) (v := ?_) rfl (by kernel_rfl) (by kernel_rfl) (by kernel_rfl) (fun _ _ _ h => h) (Or.inl ⟨by rfl, ?_⟩) (by assumption) ?_
              rotate_left
              · intro w hSw; (try dsimp only at hSw); go_simp <;> first | with_reducible rfl | (rw [if_neg (by first | omega | (simp only [ByteArray.size_append] at *; omega))])
              simp only [Act.put, List.setIfInBounds_toArray, List.set_cons_zero, List.set_cons_succ]
              refine wpAnyH_take (i := 18) (oi := { dst := some 148, op := Go.Op.binOp Go.BinOp.eql 3 (Go.Operand.tmp 143) (Go.Operand.tmp 147) 3, type := 4, pos := _, after := #[{ on := 13, ground := Go.Ground.data }, { on := 17, ground := Go.Ground.data }, { on := 9, ground := Go.Ground.guard }], guard := some (9, false) }) (v := ?_) rfl (by kernel_rfl) (by kernel_rfl) (by kernel_rfl) (fun _ _ _ h => h) (Or.inl ⟨by rfl, ?_⟩) (by assumption) ?_
              rotate_left
              · intro w hSw; (try dsimp only at hSw); go_simp <;> first | with_reducible rfl | (rw [if_neg (by first | omega | (simp only [ByteArray.size_append] at *; omega))])
              simp only [Act.put, List.setIfInBounds_toArray, List.set_cons_zero, List.set_cons_succ]
              refine wpAnyH_take (i := 19) (oi := { dst := some 149, op := Go.Op.move (Go.Operand.tmp 148), type := 4, pos := _, after := #[{ on := 18, ground := Go.Ground.data }, { on := 9, ground := Go.Ground.chain }, { on := 9, ground := Go.Ground.guard }], guard := some (9, false) }) (v := ?_) rfl (by kernel_rfl) (by kernel_rfl) (by kernel_rfl) (fun _ _ _ h => h) (Or.inl ⟨by rfl, ?_⟩) (by assumption) ?_
              rotate_left
              · intro w hSw; (try dsimp only at hSw); go_simp <;> first | with_reducible rfl | (rw [if_neg (by first | omega | (simp only [ByteArray.size_append] at *; omega))])
              simp only [Act.put, List.setIfInBounds_toArray, List.set_cons_zero, List.set_cons_succ]
              refine wpAnyH_take (i := 20) (oi := { dst := some 150, op := Go.Op.move (Go.Operand.tmp 7), type := 45, pos := _, after := #[{ on := 19, ground := Go.Ground.guard }], guard := some (19, true) }) (v := ?_) rfl (by kernel_rfl) (by kernel_rfl) (by kernel_rfl) (fun _ _ _ h => h) (Or.inl ⟨by rfl, ?_⟩) (by assumption) ?_
              rotate_left
              · intro w hSw; (try dsimp only at hSw); go_simp <;> first | with_reducible rfl | (rw [if_neg (by first | omega | (simp only [ByteArray.size_append] at *; omega))])
              simp only [Act.put, List.setIfInBounds_toArray, List.set_cons_zero, List.set_cons_succ]
              refine wpAnyH_take (i := 21) (oi := { dst := some 151, op := Go.Op.move (Go.Operand.tmp 8), type := 3, pos := _, after := #[{ on := 19, ground := Go.Ground.guard }], guard := some (19, true) }) (v := ?_) rfl (by kernel_rfl) (by kernel_rfl) (by kernel_rfl) (fun _ _ _ h => h) (Or.inl ⟨by rfl, ?_⟩) (by assumption) ?_
              rotate_left
              · intro w hSw; (try dsimp only at hSw); go_simp <;> first | with_reducible rfl | (rw [if_neg (by first | omega | (simp only [ByteArray.size_append] at *; omega))])
              simp only [Act.put, List.setIfInBounds_toArray, List.set_cons_zero, List.set_cons_succ]
              refine wpAnyH_take (i := 22) (oi := { dst := some 152, op := Go.Op.indexAddr 45 (Go.Operand.tmp 150) (Go.Operand.tmp 151), type := 0, pos := _, after := #[{ on := 20, ground := Go.Ground.data }, { on := 21, ground := Go.Ground.data }, { on := 19, ground := Go.Ground.guard }], guard := some (19, true) }) (v := ?_) rfl (by kernel_rfl) (by kernel_rfl) (by kernel_rfl) (fun _ _ _ h => h) (Or.inl ⟨by rfl, ?_⟩) (by assumption) ?_
              rotate_left
              · intro w hSw; (try dsimp only at hSw); go_simp <;> first | with_reducible rfl | (rw [if_neg (by first | omega | (simp only [ByteArray.size_append] at *; omega))])
              simp only [Act.put, List.setIfInBounds_toArray, List.set_cons_zero, List.set_cons_succ]
              refine wpAnyH_take (i := 23) (oi := { dst := some 153, op := Go.Op.load 3 (Go.Operand.tmp 152), type := 3, pos := _, after := #[{ on := 22, ground := Go.Ground.data }, { on := 19, ground := Go.Ground.guard }], guard := some (19, true) }) (v := ?_) rfl (by kernel_rfl) (by kernel_rfl) (by kernel_rfl) (fun _ _ _ h => h) (Or.inl ⟨by rfl, ?_⟩) (by assumption) ?_
              rotate_left
              · intro w hSw; (try dsimp only at hSw); go_simp <;> first | with_reducible rfl | (rw [if_neg (by first | omega | (simp only [ByteArray.size_append] at *; omega))])
              simp only [Act.put, List.setIfInBounds_toArray, List.set_cons_zero, List.set_cons_succ]
              refine wpAnyH_take (i := 24) (oi := { dst := some 154, op := Go.Op.binOp Go.BinOp.gtr 3 (Go.Operand.tmp 153) (Go.Operand.const (Go.Value.int Go.IntKind.i64 0)) 3, type := 4, pos := _, after := #[{ on := 23, ground := Go.Ground.data }, { on := 19, ground := Go.Ground.guard }], guard := some (19, true) }) (v := ?_) rfl (by kernel_rfl) (by kernel_rfl) (by kernel_rfl) (fun _ _ _ h => h) (Or.inl ⟨by rfl, ?_⟩) (by assumption) ?_
              rotate_left
              · intro w hSw; (try dsimp only at hSw); go_simp <;> first | with_reducible rfl | (rw [if_neg (by first | omega | (simp only [ByteArray.size_append] at *; omega))])
              simp only [Act.put, List.setIfInBounds_toArray, List.set_cons_zero, List.set_cons_succ]
              refine wpAnyH_take (i := 25) (oi := { dst := some 155, op := Go.Op.pick (Go.Operand.tmp 149) (Go.Operand.tmp 154) (Go.Operand.const (Go.Value.bool false)), type := 4, pos := _, after := #[{ on := 19, ground := Go.Ground.data }, { on := 24, ground := Go.Ground.data }, { on := 9, ground := Go.Ground.guard }], guard := some (9, false) }) (v := ?_) rfl (by kernel_rfl) (by kernel_rfl) (by kernel_rfl) (fun _ _ _ h => h) (Or.inl ⟨by rfl, ?_⟩) (by assumption) ?_
              rotate_left
              · intro w hSw; (try dsimp only at hSw); go_simp <;> first | with_reducible rfl | (rw [if_neg (by first | omega | (simp only [ByteArray.size_append] at *; omega))])
              simp only [Act.put, List.setIfInBounds_toArray, List.set_cons_zero, List.set_cons_succ]
              refine wpAnyH_take (i := 26) (oi := { dst := some 156, op := Go.Op.pick (Go.Operand.tmp 139) (Go.Operand.const (Go.Value.bool true)) (Go.Operand.tmp 155), type := 4, pos := _, after := #[{ on := 9, ground := Go.Ground.data }, { on := 25, ground := Go.Ground.data }], guard := none }) (v := ?_) rfl (by kernel_rfl) (by kernel_rfl) (by kernel_rfl) (fun _ _ _ h => h) (Or.inl ⟨by rfl, ?_⟩) (by assumption) ?_
              rotate_left
              · intro w hSw; (try dsimp only at hSw); go_simp <;> first | with_reducible rfl | (rw [if_neg (by first | omega | (simp only [ByteArray.size_append] at *; omega))])
              simp only [Act.put, List.setIfInBounds_toArray, List.set_cons_zero, List.set_cons_succ]
              refine wpAnyH_done (by kernel_rfl) ?_ _
              go_wp2_with (fail)
              refine (alive _ ((HA.out.below R12.out.av.below).below (below_drewN (Below.refl _ _) 1))).mono ?_
              rintro e w6 ⟨rfl, b6⟩
              have R14 := hid (R12.out.drew.step b6)
              obtain ⟨y0, y1, y2, y3⟩ := R14.out.row4 kr (.int .u8 (opR i : Int)) (.int .i64 0) (.string ⟨#[]⟩) (.slice (some ⟨h2, 0, none⟩) 2 2) (by simp)
              clear b6 R12
              go_wp2_with (fail)
              refine (cR.out _ R14.out pl zpl (by rw [HPL.out]; exact w1'.out.1)).mono ?_
              rintro e w7 ⟨rfl, b7⟩
              have R15 := hid (R14.out.step b7)
              clear b7 R14 y0 y1 y2 y3
              obtain ⟨y0, y1, y2, y3⟩ := R15.out.row4 kl (.int .u8 (opR k : Int)) (.int .i64 0) (.string ⟨#[]⟩) (.slice (some ⟨g2, 0, none⟩) 2 2) (by simp)
              go_wp2_with (fail)
              refine (cL.out _ R15.out fi zfi (by rw [HFI.out]; exact w1'.out.2)).mono ?_
              rintro e w8 ⟨rfl, b8⟩
              have hB := (R15.out.step b8).av.below
              go_wp2_with (fail)
              go_ret
              exact ⟨rfl, hB⟩
            · have hx : ((rkR i : Int) == 3) = true := by rw [beq_iff_eq]; omega
              have hy : ((rkR k : Int) == 3) = false := by rw [beq_eq_false_iff_ne]; omega
              clear hx3
              have hl4 : decide (rkR k < rkR i) = false := by rw [decide_eq_false_iff_not]; omega
              have hl5 : decide ((rkR k : Int) < (rkR i : Int)) = false := by rw [decide_eq_false_iff_not]; omega
              have he' : ((rkR i : Int) == (rkR k : Int)) = false := by rw [beq_eq_false_iff_ne]; omega
              clear hl h3 hg
              generalize rkR i = ri at *
              generalize rkR k = rk at *
              go_wp2_with (fail)
              refine wp_region_held_drew (S := fun V => V.cell? ⟨w.heap.size + 1 + 1, i, none⟩ = some (.int .i64 (ri : Int)) ∧ V.cell? ⟨w.heap.size + 1 + 1, k, none⟩ = some (.int .i64 (rk : Int))) (by kernel_rfl) ?_ (fun hHeld => ?_)
              · exact ⟨d0, d1⟩
              refine wpAnyH_take (i := 0) (oi := { dst := some 130, op := Go.Op.move (Go.Operand.tmp 7), type := 45, pos := _, after := #[], guard := none }) (v := ?_) rfl (by kernel_rfl) (by kernel_rfl) (by kernel_rfl) (fun _ _ _ h => h) (Or.inl ⟨by rfl, ?_⟩) (by assumption) ?_
              rotate_left
              · intro w hSw; (try dsimp only at hSw); go_simp <;> first | with_reducible rfl | (rw [if_neg (by first | omega | (simp only [ByteArray.size_append] at *; omega))])
              simp only [Act.put, List.setIfInBounds_toArray, List.set_cons_zero, List.set_cons_succ]
              refine wpAnyH_take (i := 1) (oi := { dst := some 131, op := Go.Op.move (Go.Operand.tmp 8), type := 3, pos := _, after := #[], guard := none }) (v := ?_) rfl (by kernel_rfl) (by kernel_rfl) (by kernel_rfl) (fun _ _ _ h => h) (Or.inl ⟨by rfl, ?_⟩) (by assumption) ?_
              rotate_left
              · intro w hSw; (try dsimp only at hSw); go_simp <;> first | with_reducible rfl | (rw [if_neg (by first | omega | (simp only [ByteArray.size_append] at *; omega))])
              simp only [Act.put, List.setIfInBounds_toArray, List.set_cons_zero, List.set_cons_succ]
              refine wpAnyH_take (i := 2) (oi := { dst := some 132, op := Go.Op.indexAddr 45 (Go.Operand.tmp 130) (Go.Operand.tmp 131), type := 0, pos := _, after := #[{ on := 0, ground := Go.Ground.data }, { on := 1, ground := Go.Ground.data }], guard := none }) (v := ?_) rfl (by kernel_rfl) (by kernel_rfl) (by kernel_rfl) (fun _ _ _ h => h) (Or.inl ⟨by rfl, ?_⟩) (by assumption) ?_
              rotate_left
              · intro w hSw; (try dsimp only at hSw); go_simp <;> first | with_reducible rfl | (rw [if_neg (by first | omega | (simp only [ByteArray.size_append] at *; omega))])
              simp only [Act.put, List.setIfInBounds_toArray, List.set_cons_zero, List.set_cons_succ]
              refine wpAnyH_take (i := 3) (oi := { dst := some 133, op := Go.Op.load 3 (Go.Operand.tmp 132), type := 3, pos := _, after := #[{ on := 2, ground := Go.Ground.data }], guard := none }) (v := ?_) rfl (by kernel_rfl) (by kernel_rfl) (by kernel_rfl) (fun _ _ _ h => h) (Or.inl ⟨by rfl, ?_⟩) (by assumption) ?_
              rotate_left
              · intro w hSw; (try dsimp only at hSw); go_simp <;> first | with_reducible rfl | (rw [if_neg (by first | omega | (simp only [ByteArray.size_append] at *; omega))])
              simp only [Act.put, List.setIfInBounds_toArray, List.set_cons_zero, List.set_cons_succ]
              refine wpAnyH_take (i := 4) (oi := { dst := some 134, op := Go.Op.move (Go.Operand.tmp 7), type := 45, pos := _, after := #[], guard := none }) (v := ?_) rfl (by kernel_rfl) (by kernel_rfl) (by kernel_rfl) (fun _ _ _ h => h) (Or.inl ⟨by rfl, ?_⟩) (by assumption) ?_
              rotate_left
              · intro w hSw; (try dsimp only at hSw); go_simp <;> first | with_reducible rfl | (rw [if_neg (by first | omega | (simp only [ByteArray.size_append] at *; omega))])
              simp only [Act.put, List.setIfInBounds_toArray, List.set_cons_zero, List.set_cons_succ]
              refine wpAnyH_take (i := 5) (oi := { dst := some 135, op := Go.Op.move (Go.Operand.tmp 9), type := 3, pos := _, after := #[], guard := none }) (v := ?_) rfl (by kernel_rfl) (by kernel_rfl) (by kernel_rfl) (fun _ _ _ h => h) (Or.inl ⟨by rfl, ?_⟩) (by assumption) ?_
              rotate_left
              · intro w hSw; (try dsimp only at hSw); go_simp <;> first | with_reducible rfl | (rw [if_neg (by first | omega | (simp only [ByteArray.size_append] at *; omega))])
              simp only [Act.put, List.setIfInBounds_toArray, List.set_cons_zero, List.set_cons_succ]
              refine wpAnyH_take (i := 6) (oi := { dst := some 136, op := Go.Op.indexAddr 45 (Go.Operand.tmp 134) (Go.Operand.tmp 135), type := 0, pos := _, after := #[{ on := 4, ground := Go.Ground.data }, { on := 5, ground := Go.Ground.data }], guard := none }) (v := ?_) rfl (by kernel_rfl) (by kernel_rfl) (by kernel_rfl) (fun _ _ _ h => h) (Or.inl ⟨by rfl, ?_⟩) (by assumption) ?_
              rotate_left
              · intro w hSw; (try dsimp only at hSw); go_simp <;> first | with_reducible rfl | (rw [if_neg (by first | omega | (simp only [ByteArray.size_append] at *; omega))])
              simp only [Act.put, List.setIfInBounds_toArray, List.set_cons_zero, List.set_cons_succ]
              refine wpAnyH_take (i := 7) (oi := { dst := some 137, op := Go.Op.load 3 (Go.Operand.tmp 136), type := 3, pos := _, after := #[{ on := 6, ground := Go.Ground.data }], guard := none }) (v := ?_) rfl (by kernel_rfl) (by kernel_rfl) (by kernel_rfl) (fun _ _ _ h => h) (Or.inl ⟨by rfl, ?_⟩) (by assumption) ?_
              rotate_left
              · intro w hSw; (try dsimp only at hSw); go_simp <;> first | with_reducible rfl | (rw [if_neg (by first | omega | (simp only [ByteArray.size_append] at *; omega))])
              simp only [Act.put, List.setIfInBounds_toArray, List.set_cons_zero, List.set_cons_succ]
              refine wpAnyH_take (i := 8) (oi := { dst := some 138, op := Go.Op.binOp Go.BinOp.gtr 3 (Go.Operand.tmp 133) (Go.Operand.tmp 137) 3, type := 4, pos := _, after := #[{ on := 3, ground := Go.Ground.data }, { on := 7, ground := Go.Ground.data }], guard := none }) (v := ?_) rfl (by kernel_rfl) (by kernel_rfl) (by kernel_rfl) (fun _ _ _ h => h) (Or.inl ⟨by rfl, ?_⟩) (by assumption) ?_
              rotate_left
              · intro w hSw; (try dsimp only at hSw); go_simp <;> first | with_reducible rfl | (rw [if_neg (by first | omega | (simp only [ByteArray.size_append] at *; omega))])
              simp only [Act.put, List.setIfInBounds_toArray, List.set_cons_zero, List.set_cons_succ]
              refine wpAnyH_take (i := 9) (oi := { dst := some 139, op := Go.Op.move (Go.Operand.tmp 138), type := 4, pos := _, after := #[{ on := 8, ground := Go.Ground.data }], guard := none }) (v := ?_) rfl (by kernel_rfl) (by kernel_rfl) (by kernel_rfl) (fun _ _ _ h => h) (Or.inl ⟨by rfl, ?_⟩) (by assumption) ?_
              rotate_left
              · intro w hSw; (try dsimp only at hSw); go_simp <;> first | with_reducible rfl | (rw [if_neg (by first | omega | (simp only [ByteArray.size_append] at *; omega))])
              simp only [Act.put, List.setIfInBounds_toArray, List.set_cons_zero, List.set_cons_succ]
              refine wpAnyH_take (i := 10) (oi := { dst := some 140, op := Go.Op.move (Go.Operand.tmp 7), type := 45, pos := _, after := #[{ on := 9, ground := Go.Ground.guard }], guard := some (9, false) }) (v := ?_) rfl (by kernel_rfl) (by kernel_rfl) (by kernel_rfl) (fun _ _ _ h => h) (Or.inl ⟨by rfl, ?_⟩) (by assumption) ?_
              rotate_left
              · intro w hSw; (try dsimp only at hSw); go_simp <;> first | with_reducible rfl | (rw [if_neg (by first | omega | (simp only [ByteArray.size_append] at *; omega))])
              simp only [Act.put, List.setIfInBounds_toArray, List.set_cons_zero, List.set_cons_succ]
              refine wpAnyH_take (i := 11) (oi := { dst := some 141, op := Go.Op.move (Go.Operand.tmp 8), type := 3, pos := _, after := #[{ on := 9, ground := Go.Ground.guard }], guard := some (9, false) }) (v := ?_) rfl (by kernel_rfl) (by kernel_rfl) (by kernel_rfl) (fun _ _ _ h => h) (Or.inl ⟨by rfl, ?_⟩) (by assumption) ?_
              rotate_left
              · intro w hSw; (try dsimp only at hSw); go_simp <;> first | with_reducible rfl | (rw [if_neg (by first | omega | (simp only [ByteArray.size_append] at *; omega))])
              simp only [Act.put, List.setIfInBounds_toArray, List.set_cons_zero, List.set_cons_succ]
              refine wpAnyH_take (i := 12) (oi := { dst := some 142, op := Go.Op.indexAddr 45 (Go.Operand.tmp 140) (Go.Operand.tmp 141), type := 0, pos := _, after := #[{ on := 10, ground := Go.Ground.data }, { on := 11, ground := Go.Ground.data }, { on := 9, ground := Go.Ground.guard }], guard := some (9, false) }) (v := ?_) rfl (by kernel_rfl) (by kernel_rfl) (by kernel_rfl) (fun _ _ _ h => h) (Or.inl ⟨by rfl, ?_⟩) (by assumption) ?_
              rotate_left
              · intro w hSw; (try dsimp only at hSw); go_simp <;> first | with_reducible rfl | (rw [if_neg (by first | omega | (simp only [ByteArray.size_append] at *; omega))])
              simp only [Act.put, List.setIfInBounds_toArray, List.set_cons_zero, List.set_cons_succ]
              refine wpAnyH_take (i := 13) (oi := { dst := some 143, op := Go.Op.load 3 (Go.Operand.tmp 142), type := 3, pos := _, after := #[{ on := 12, ground := Go.Ground.data }, { on := 9, ground := Go.Ground.guard }], guard := some (9, false) }) (v := ?_) rfl (by kernel_rfl) (by kernel_rfl) (by kernel_rfl) (fun _ _ _ h => h) (Or.inl ⟨by rfl, ?_⟩) (by assumption) ?_
              rotate_left
              · intro w hSw; (try dsimp only at hSw); go_simp <;> first | with_reducible rfl | (rw [if_neg (by first | omega | (simp only [ByteArray.size_append] at *; omega))])
              simp only [Act.put, List.setIfInBounds_toArray, List.set_cons_zero, List.set_cons_succ]
              refine wpAnyH_take (i := 14) (oi := { dst := some 144, op := Go.Op.move (Go.Operand.tmp 7), type := 45, pos := _, after := #[{ on := 9, ground := Go.Ground.guard }], guard := some (9, false) }) (v := ?_) rfl (by kernel_rfl) (by kernel_rfl) (by kernel_rfl) (fun _ _ _ h => h) (Or.inl ⟨by rfl, ?_⟩) (by assumption) ?_
              rotate_left
              · intro w hSw; (try dsimp only at hSw); go_simp <;> first | with_reducible rfl | (rw [if_neg (by first | omega | (simp only [ByteArray.size_append] at *; omega))])
              simp only [Act.put, List.setIfInBounds_toArray, List.set_cons_zero, List.set_cons_succ]
              refine wpAnyH_take (i := 15) (oi := { dst := some 145, op := Go.Op.move (Go.Operand.tmp 9), type := 3, pos := _, after := #[{ on := 9, ground := Go.Ground.guard }], guard := some (9, false) }) (v := ?_) rfl (by kernel_rfl) (by kernel_rfl) (by kernel_rfl) (fun _ _ _ h => h) (Or.inl ⟨by rfl, ?_⟩) (by assumption) ?_
              rotate_left
              · intro w hSw; (try dsimp only at hSw); go_simp <;> first | with_reducible rfl | (rw [if_neg (by first | omega | (simp only [ByteArray.size_append] at *; omega))])
              simp only [Act.put, List.setIfInBounds_toArray, List.set_cons_zero, List.set_cons_succ]
              refine wpAnyH_take (i := 16) (oi := { dst := some 146, op := Go.Op.indexAddr 45 (Go.Operand.tmp 144) (Go.Operand.tmp 145), type := 0, pos := _, after := #[{ on := 14, ground := Go.Ground.data }, { on := 15, ground := Go.Ground.data }, { on := 9, ground := Go.Ground.guard }], guard := some (9, false) }) (v := ?_) rfl (by kernel_rfl) (by kernel_rfl) (by kernel_rfl) (fun _ _ _ h => h) (Or.inl ⟨by rfl, ?_⟩) (by assumption) ?_
              rotate_left
              · intro w hSw; (try dsimp only at hSw); go_simp <;> first | with_reducible rfl | (rw [if_neg (by first | omega | (simp only [ByteArray.size_append] at *; omega))])
              simp only [Act.put, List.setIfInBounds_toArray, List.set_cons_zero, List.set_cons_succ]
              refine wpAnyH_take (i := 17) (oi := { dst := some 147, op := Go.Op.load 3 (Go.Operand.tmp 146), type := 3, pos := _, after := #[{ on := 16, ground := Go.Ground.data }, { on := 9, ground := Go.Ground.guard }], guard := some (9, false) }) (v := ?_) rfl (by kernel_rfl) (by kernel_rfl) (by kernel_rfl) (fun _ _ _ h => h) (Or.inl ⟨by rfl, ?_⟩) (by assumption) ?_
              rotate_left
              · intro w hSw; (try dsimp only at hSw); go_simp <;> first | with_reducible rfl | (rw [if_neg (by first | omega | (simp only [ByteArray.size_append] at *; omega))])
              simp only [Act.put, List.setIfInBounds_toArray, List.set_cons_zero, List.set_cons_succ]
              refine wpAnyH_take (i := 18) (oi := { dst := some 148, op := Go.Op.binOp Go.BinOp.eql 3 (Go.Operand.tmp 143) (Go.Operand.tmp 147) 3, type := 4, pos := _, after := #[{ on := 13, ground := Go.Ground.data }, { on := 17, ground := Go.Ground.data }, { on := 9, ground := Go.Ground.guard }], guard := some (9, false) }) (v := ?_) rfl (by kernel_rfl) (by kernel_rfl) (by kernel_rfl) (fun _ _ _ h => h) (Or.inl ⟨by rfl, ?_⟩) (by assumption) ?_
              rotate_left
              · intro w hSw; (try dsimp only at hSw); go_simp <;> first | with_reducible rfl | (rw [if_neg (by first | omega | (simp only [ByteArray.size_append] at *; omega))])
              simp only [Act.put, List.setIfInBounds_toArray, List.set_cons_zero, List.set_cons_succ]
              refine wpAnyH_take (i := 19) (oi := { dst := some 149, op := Go.Op.move (Go.Operand.tmp 148), type := 4, pos := _, after := #[{ on := 18, ground := Go.Ground.data }, { on := 9, ground := Go.Ground.chain }, { on := 9, ground := Go.Ground.guard }], guard := some (9, false) }) (v := ?_) rfl (by kernel_rfl) (by kernel_rfl) (by kernel_rfl) (fun _ _ _ h => h) (Or.inl ⟨by rfl, ?_⟩) (by assumption) ?_
              rotate_left
              · intro w hSw; (try dsimp only at hSw); go_simp <;> first | with_reducible rfl | (rw [if_neg (by first | omega | (simp only [ByteArray.size_append] at *; omega))])
              simp only [Act.put, List.setIfInBounds_toArray, List.set_cons_zero, List.set_cons_succ]
              refine wpAnyH_take (i := 20) (oi := { dst := some 150, op := Go.Op.move (Go.Operand.tmp 7), type := 45, pos := _, after := #[{ on := 19, ground := Go.Ground.guard }], guard := some (19, true) }) (v := undef) rfl (by kernel_rfl) (by kernel_rfl) (by kernel_rfl) (fun _ _ _ h => h) (Or.inr ⟨by rfl, rfl⟩) (by assumption) ?_
              simp only [Act.put, List.setIfInBounds_toArray, List.set_cons_zero, List.set_cons_succ]
              refine wpAnyH_take (i := 21) (oi := { dst := some 151, op := Go.Op.move (Go.Operand.tmp 8), type := 3, pos := _, after := #[{ on := 19, ground := Go.Ground.guard }], guard := some (19, true) }) (v := undef) rfl (by kernel_rfl) (by kernel_rfl) (by kernel_rfl) (fun _ _ _ h => h) (Or.inr ⟨by rfl, rfl⟩) (by assumption) ?_
              simp only [Act.put, List.setIfInBounds_toArray, List.set_cons_zero, List.set_cons_succ]
              refine wpAnyH_take (i := 22) (oi := { dst := some 152, op := Go.Op.indexAddr 45 (Go.Operand.tmp 150) (Go.Operand.tmp 151), type := 0, pos := _, after := #[{ on := 20, ground := Go.Ground.data }, { on := 21, ground := Go.Ground.data }, { on := 19, ground := Go.Ground.guard }], guard := some (19, true) }) (v := undef) rfl (by kernel_rfl) (by kernel_rfl) (by kernel_rfl) (fun _ _ _ h => h) (Or.inr ⟨by rfl, rfl⟩) (by assumption) ?_
              simp only [Act.put, List.setIfInBounds_toArray, List.set_cons_zero, List.set_cons_succ]
              refine wpAnyH_take (i := 23) (oi := { dst := some 153, op := Go.Op.load 3 (Go.Operand.tmp 152), type := 3, pos := _, after := #[{ on := 22, ground := Go.Ground.data }, { on := 19, ground := Go.Ground.guard }], guard := some (19, true) }) (v := undef) rfl (by kernel_rfl) (by kernel_rfl) (by kernel_rfl) (fun _ _ _ h => h) (Or.inr ⟨by rfl, rfl⟩) (by assumption) ?_
              simp only [Act.put, List.setIfInBounds_toArray, List.set_cons_zero, List.set_cons_succ]
              refine wpAnyH_take (i := 24) (oi := { dst := some 154, op := Go.Op.binOp Go.BinOp.gtr 3 (Go.Operand.tmp 153) (Go.Operand.const (Go.Value.int Go.IntKind.i64 0)) 3, type := 4, pos := _, after := #[{ on := 23, ground := Go.Ground.data }, { on := 19, ground := Go.Ground.guard }], guard := some (19, true) }) (v := undef) rfl (by kernel_rfl) (by kernel_rfl) (by kernel_rfl) (fun _ _ _ h => h) (Or.inr ⟨by rfl, rfl⟩) (by assumption) ?_
              simp only [Act.put, List.setIfInBounds_toArray, List.set_cons_zero, List.set_cons_succ]
              refine wpAnyH_take (i := 25) (oi := { dst := some 155, op := Go.Op.pick (Go.Operand.tmp 149) (Go.Operand.tmp 154) (Go.Operand.const (Go.Value.bool false)), type := 4, pos := _, after := #[{ on := 19, ground := Go.Ground.data }, { on := 24, ground := Go.Ground.data }, { on := 9, ground := Go.Ground.guard }], guard := some (9, false) }) (v := ?_) rfl (by kernel_rfl) (by kernel_rfl) (by kernel_rfl) (fun _ _ _ h => h) (Or.inl ⟨by rfl, ?_⟩) (by assumption) ?_
              rotate_left
              · intro w hSw; (try dsimp only at hSw); go_simp <;> first | with_reducible rfl | (rw [if_neg (by first | omega | (simp only [ByteArray.size_append] at *; omega))])
              simp only [Act.put, List.setIfInBounds_toArray, List.set_cons_zero, List.set_cons_succ]
              refine wpAnyH_take (i := 26) (oi := { dst := some 156, op := Go.Op.pick (Go.Operand.tmp 139) (Go.Operand.const (Go.Value.bool true)) (Go.Operand.tmp 155), type := 4, pos := _, after := #[{ on := 9, ground := Go.Ground.data }, { on := 25, ground := Go.Ground.data }], guard := none }) (v := ?_) rfl (by kernel_rfl) (by kernel_rfl) (by kernel_rfl) (fun _ _ _ h => h) (Or.inl ⟨by rfl, ?_⟩) (by assumption) ?_
              rotate_left
              · intro w hSw; (try dsimp only at hSw); go_simp <;> first | with_reducible rfl | (rw [if_neg (by first | omega | (simp only [ByteArray.size_append] at *; omega))])
              simp only [Act.put, List.setIfInBounds_toArray, List.set_cons_zero, List.set_cons_succ]
              refine wpAnyH_done (by kernel_rfl) ?_ _
              go_wp2_with (fail)
              refine (alive _ ((HA.out.below R12.out.av.below).below (below_drewN (Below.refl _ _) 1))).mono ?_
              rintro e w6 ⟨rfl, b6⟩
              have R14 := hid (R12.out.drew.step b6)
              obtain ⟨y0, y1, y2, y3⟩ := R14.out.row4 kr (.int .u8 (opR i : Int)) (.int .i64 0) (.string ⟨#[]⟩) (.slice (some ⟨h2, 0, none⟩) 2 2) (by simp)
              clear b6 R12
              go_wp2_with (fail)
              refine (cR.out _ R14.out pl zpl (by rw [HPL.out]; exact w1'.out.1)).mono ?_
              rintro e w7 ⟨rfl, b7⟩
              have R15 := hid (R14.out.step b7)
              clear b7 R14 y0 y1 y2 y3
              obtain ⟨y0, y1, y2, y3⟩ := R15.out.row4 kl (.int .u8 (opR k : Int)) (.int .i64 0) (.string ⟨#[]⟩) (.slice (some ⟨g2, 0, none⟩) 2 2) (by simp)
              go_wp2_with (fail)
              refine (cL.out _ R15.out fi zfi (by rw [HFI.out]; exact w1'.out.2)).mono ?_
              rintro e w8 ⟨rfl, b8⟩
              have hB := (R15.out.step b8).av.below
              go_wp2_with (fail)
              go_ret
              exact ⟨rfl, hB⟩
          · by_cases hl : rkR i = rkR k
            · have hx : ((rkR i : Int) == 3) = false := by rw [beq_eq_false_iff_ne]; omega
              clear hx3
              have hl4 : decide (rkR k < rkR i) = false := by rw [decide_eq_false_iff_not]; omega
              have hl5 : decide ((rkR k : Int) < (rkR i : Int)) = false := by rw [decide_eq_false_iff_not]; omega
              have he' : ((rkR i : Int) == (rkR k : Int)) = true := by rw [beq_iff_eq]; omega
              have hp4 : decide ((0 : Int) < (rkR i : Int)) = false := by rw [decide_eq_false_iff_not]; omega
              have hp5 : decide (0 < rkR i) = false := by rw [decide_eq_false_iff_not]; omega
              clear hl h3 hg
              generalize rkR i = ri at *
              generalize rkR k = rk at *
              go_wp2_with (fail)
              refine wp_region_held_drew (S := fun V => V.cell? ⟨w.heap.size + 1 + 1, i, none⟩ = some (.int .i64 (ri : Int)) ∧ V.cell? ⟨w.heap.size + 1 + 1, k, none⟩ = some (.int .i64 (rk : Int))) (by kernel_rfl) ?_ (fun hHeld => ?_)
              · exact ⟨d0, d1⟩
              refine wpAnyH_take (i := 0) (oi := { dst := some 130, op := Go.Op.move (Go.Operand.tmp 7), type := 45, pos := _, after := #[], guard := none }) (v := ?_) rfl (by kernel_rfl) (by kernel_rfl) (by kernel_rfl) (fun _ _ _ h => h) (Or.inl ⟨by rfl, ?_⟩) (by assumption) ?_
              rotate_left
              · intro w hSw; (try dsimp only at hSw); go_simp <;> first | with_reducible rfl | (rw [if_neg (by first | omega | (simp only [ByteArray.size_append] at *; omega))])
              simp only [Act.put, List.setIfInBounds_toArray, List.set_cons_zero, List.set_cons_succ]
              refine wpAnyH_take (i := 1) (oi := { dst := some 131, op := Go.Op.move (Go.Operand.tmp 8), type := 3, pos := _, after := #[], guard := none }) (v := ?_) rfl (by kernel_rfl) (by kernel_rfl) (by kernel_rfl) (fun _ _ _ h => h) (Or.inl ⟨by rfl, ?_⟩) (by assumption) ?_
              rotate_left
              · intro w hSw; (try dsimp only at hSw); go_simp <;> first | with_reducible rfl | (rw [if_neg (by first | omega | (simp only [ByteArray.size_append] at *; omega))])
              simp only [Act.put, List.setIfInBounds_toArray, List.set_cons_zero, List.set_cons_succ]
              refine wpAnyH_take (i := 2) (oi := { dst := some 132, op := Go.Op.indexAddr 45 (Go.Operand.tmp 130) (Go.Operand.tmp 131), type := 0, pos := _, after := #[{ on := 0, ground := Go.Ground.data }, { on := 1, ground := Go.Ground.data }], guard := none }) (v := ?_) rfl (by kernel_rfl) (by kernel_rfl) (by kernel_rfl) (fun _ _ _ h => h) (Or.inl ⟨by rfl, ?_⟩) (by assumption) ?_
              rotate_left
              · intro w hSw; (try dsimp only at hSw); go_simp <;> first | with_reducible rfl | (rw [if_neg (by first | omega | (simp only [ByteArray.size_append] at *; omega))])
              simp only [Act.put, List.setIfInBounds_toArray, List.set_cons_zero, List.set_cons_succ]
              refine wpAnyH_take (i := 3) (oi := { dst := some 133, op := Go.Op.load 3 (Go.Operand.tmp 132), type := 3, pos := _, after := #[{ on := 2, ground := Go.Ground.data }], guard := none }) (v := ?_) rfl (by kernel_rfl) (by kernel_rfl) (by kernel_rfl) (fun _ _ _ h => h) (Or.inl ⟨by rfl, ?_⟩) (by assumption) ?_
              rotate_left
              · intro w hSw; (try dsimp only at hSw); go_simp <;> first | with_reducible rfl | (rw [if_neg (by first | omega | (simp only [ByteArray.size_append] at *; omega))])
              simp only [Act.put, List.setIfInBounds_toArray, List.set_cons_zero, List.set_cons_succ]
              refine wpAnyH_take (i := 4) (oi := { dst := some 134, op := Go.Op.move (Go.Operand.tmp 7), type := 45, pos := _, after := #[], guard := none }) (v := ?_) rfl (by kernel_rfl) (by kernel_rfl) (by kernel_rfl) (fun _ _ _ h => h) (Or.inl ⟨by rfl, ?_⟩) (by assumption) ?_
              rotate_left
              · intro w hSw; (try dsimp only at hSw); go_simp <;> first | with_reducible rfl | (rw [if_neg (by first | omega | (simp only [ByteArray.size_append] at *; omega))])
              simp only [Act.put, List.setIfInBounds_toArray, List.set_cons_zero, List.set_cons_succ]
              refine wpAnyH_take (i := 5) (oi := { dst := some 135, op := Go.Op.move (Go.Operand.tmp 9), type := 3, pos := _, after := #[], guard := none }) (v := ?_) rfl (by kernel_rfl) (by kernel_rfl) (by kernel_rfl) (fun _ _ _ h => h) (Or.inl ⟨by rfl, ?_⟩) (by assumption) ?_
              rotate_left
              · intro w hSw; (try dsimp only at hSw); go_simp <;> first | with_reducible rfl | (rw [if_neg (by first | omega | (simp only [ByteArray.size_append] at *; omega))])
              simp only [Act.put, List.setIfInBounds_toArray, List.set_cons_zero, List.set_cons_succ]
              refine wpAnyH_take (i := 6) (oi := { dst := some 136, op := Go.Op.indexAddr 45 (Go.Operand.tmp 134) (Go.Operand.tmp 135), type := 0, pos := _, after := #[{ on := 4, ground := Go.Ground.data }, { on := 5, ground := Go.Ground.data }], guard := none }) (v := ?_) rfl (by kernel_rfl) (by kernel_rfl) (by kernel_rfl) (fun _ _ _ h => h) (Or.inl ⟨by rfl, ?_⟩) (by assumption) ?_
              rotate_left
              · intro w hSw; (try dsimp only at hSw); go_simp <;> first | with_reducible rfl | (rw [if_neg (by first | omega | (simp only [ByteArray.size_append] at *; omega))])
              simp only [Act.put, List.setIfInBounds_toArray, List.set_cons_zero, List.set_cons_succ]
              refine wpAnyH_take (i := 7) (oi := { dst := some 137, op := Go.Op.load 3 (Go.Operand.tmp 136), type := 3, pos := _, after := #[{ on := 6, ground := Go.Ground.data }], guard := none }) (v := ?_) rfl (by kernel_rfl) (by kernel_rfl) (by kernel_rfl) (fun _ _ _ h => h) (Or.inl ⟨by rfl, ?_⟩) (by assumption) ?_
              rotate_left
              · intro w hSw; (try dsimp only at hSw); go_simp <;> first | with_reducible rfl | (rw [if_neg (by first | omega | (simp only [ByteArray.size_append] at *; omega))])
              simp only [Act.put, List.setIfInBounds_toArray, List.set_cons_zero, List.set_cons_succ]
              refine wpAnyH_take (i := 8) (oi := { dst := some 138, op := Go.Op.binOp Go.BinOp.gtr 3 (Go.Operand.tmp 133) (Go.Operand.tmp 137) 3, type := 4, pos := _, after := #[{ on := 3, ground := Go.Ground.data }, { on := 7, ground := Go.Ground.data }], guard := none }) (v := ?_) rfl (by kernel_rfl) (by kernel_rfl) (by kernel_rfl) (fun _ _ _ h => h) (Or.inl ⟨by rfl, ?_⟩) (by assumption) ?_
              rotate_left
              · intro w hSw; (try dsimp only at hSw); go_simp <;> first | with_reducible rfl | (rw [if_neg (by first | omega | (simp only [ByteArray.size_append] at *; omega))])
              simp only [Act.put, List.setIfInBounds_toArray, List.set_cons_zero, List.set_cons_succ]
              refine wpAnyH_take (i := 9) (oi := { dst := some 139, op := Go.Op.move (Go.Operand.tmp 138), type := 4, pos := _, after := #[{ on := 8, ground := Go.Ground.data }], guard := none }) (v := ?_) rfl (by kernel_rfl) (by kernel_rfl) (by kernel_rfl) (fun _ _ _ h => h) (Or.inl ⟨by rfl, ?_⟩) (by assumption) ?_
              rotate_left
              · intro w hSw; (try dsimp only at hSw); go_simp <;> first | with_reducible rfl | (rw [if_neg (by first | omega | (simp only [ByteArray.size_append] at *; omega))])
              simp only [Act.put, List.setIfInBounds_toArray, List.set_cons_zero, List.set_cons_succ]
              refine wpAnyH_take (i := 10) (oi := { dst := some 140, op := Go.Op.move (Go.Operand.tmp 7), type := 45, pos := _, after := #[{ on := 9, ground := Go.Ground.guard }], guard := some (9, false) }) (v := ?_) rfl (by kernel_rfl) (by kernel_rfl) (by kernel_rfl) (fun _ _ _ h => h) (Or.inl ⟨by rfl, ?_⟩) (by assumption) ?_
              rotate_left
              · intro w hSw; (try dsimp only at hSw); go_simp <;> first | with_reducible rfl | (rw [if_neg (by first | omega | (simp only [ByteArray.size_append] at *; omega))])
              simp only [Act.put, List.setIfInBounds_toArray, List.set_cons_zero, List.set_cons_succ]
              refine wpAnyH_take (i := 11) (oi := { dst := some 141, op := Go.Op.move (Go.Operand.tmp 8), type := 3, pos := _, after := #[{ on := 9, ground := Go.Ground.guard }], guard := some (9, false) }) (v := ?_) rfl (by kernel_rfl) (by kernel_rfl) (by kernel_rfl) (fun _ _ _ h => h) (Or.inl ⟨by rfl, ?_⟩) (by assumption) ?_
              rotate_left
              · intro w hSw; (try dsimp only at hSw); go_simp <;> first | with_reducible rfl | (rw [if_neg (by first | omega | (simp only [ByteArray.size_append] at *; omega))])
              simp only [Act.put, List.setIfInBounds_toArray, List.set_cons_zero, List.set_cons_succ]
              refine wpAnyH_take (i := 12) (oi := { dst := some 142, op := Go.Op.indexAddr 45 (Go.Operand.tmp 140) (Go.Operand.tmp 141), type := 0, pos := _, after := #[{ on := 10, ground := Go.Ground.data }, { on := 11, ground := Go.Ground.data }, { on := 9, ground := Go.Ground.guard }], guard := some (9, false) }) (v := ?_) rfl (by kernel_rfl) (by kernel_rfl) (by kernel_rfl) (fun _ _ _ h => h) (Or.inl ⟨by rfl, ?_⟩) (by assumption) ?_
              rotate_left
              · intro w hSw; (try dsimp only at hSw); go_simp <;> first | with_reducible rfl | (rw [if_neg (by first | omega | (simp only [ByteArray.size_append] at *; omega))])
              simp only [Act.put, List.setIfInBounds_toArray, List.set_cons_zero, List.set_cons_succ]
              refine wpAnyH_take (i := 13) (oi := { dst := some 143, op := Go.Op.load 3 (Go.Operand.tmp 142), type := 3, pos := _, after := #[{ on := 12, ground := Go.Ground.data }, { on := 9, ground := Go.Ground.guard }], guard := some (9, false) }) (v := ?_) rfl (by kernel_rfl) (by kernel_rfl) (by kernel_rfl) (fun _ _ _ h => h) (Or.inl ⟨by rfl, ?_⟩) (by assumption) ?_
              rotate_left
              · intro w hSw; (try dsimp only at hSw); go_simp <;> first | with_reducible rfl | (rw [if_neg (by first | omega | (simp only [ByteArray.size_append] at *; omega))])
              simp only [Act.put, List.setIfInBounds_toArray, List.set_cons_zero, List.set_cons_succ]
              refine wpAnyH_take (i := 14) (oi := { dst := some 144, op := Go.Op.move (Go.Operand.tmp 7), type := 45, pos := _, after := #[{ on := 9, ground := Go.Ground.guard }], guard := some (9, false) }) (v := ?_) rfl (by kernel_rfl) (by kernel_rfl) (by kernel_rfl) (fun _ _ _ h => h) (Or.inl ⟨by rfl, ?_⟩) (by assumption) ?_
              rotate_left
              · intro w hSw; (try dsimp only at hSw); go_simp <;> first | with_reducible rfl | (rw [if_neg (by first | omega | (simp only [ByteArray.size_append] at *; omega))])
              simp only [Act.put, List.setIfInBounds_toArray, List.set_cons_zero, List.set_cons_succ]
              refine wpAnyH_take (i := 15) (oi := { dst := some 145, op := Go.Op.move (Go.Operand.tmp 9), type := 3, pos := _, after := #[{ on := 9, ground := Go.Ground.guard }], guard := some (9, false) }) (v := ?_) rfl (by kernel_rfl) (by kernel_rfl) (by kernel_rfl) (fun _ _ _ h => h) (Or.inl ⟨by rfl, ?_⟩) (by assumption) ?_
              rotate_left
              · intro w hSw; (try dsimp only at hSw); go_simp <;> first | with_reducible rfl | (rw [if_neg (by first | omega | (simp only [ByteArray.size_append] at *; omega))])
              simp only [Act.put, List.setIfInBounds_toArray, List.set_cons_zero, List.set_cons_succ]
              refine wpAnyH_take (i := 16) (oi := { dst := some 146, op := Go.Op.indexAddr 45 (Go.Operand.tmp 144) (Go.Operand.tmp 145), type := 0, pos := _, after := #[{ on := 14, ground := Go.Ground.data }, { on := 15, ground := Go.Ground.data }, { on := 9, ground := Go.Ground.guard }], guard := some (9, false) }) (v := ?_) rfl (by kernel_rfl) (by kernel_rfl) (by kernel_rfl) (fun _ _ _ h => h) (Or.inl ⟨by rfl, ?_⟩) (by assumption) ?_
              rotate_left
              · intro w hSw; (try dsimp only at hSw); go_simp <;> first | with_reducible rfl | (rw [if_neg (by first | omega | (simp only [ByteArray.size_append] at *; omega))])
              simp only [Act.put, List.setIfInBounds_toArray, List.set_cons_zero, List.set_cons_succ]
              refine wpAnyH_take (i := 17) (oi := { dst := some 147, op := Go.Op.load 3 (Go.Operand.tmp 146), type := 3, pos := _, after := #[{ on := 16, ground := Go.Ground.data }, { on := 9, ground := Go.Ground.guard }], guard := some (9, false) }) (v := ?_) rfl (by kernel_rfl) (by kernel_rfl) (by kernel_rfl) (fun _ _ _ h => h) (Or.inl ⟨by rfl, ?_⟩) (by assumption) ?_
              rotate_left
              · intro w hSw; (try dsimp only at hSw); go_simp <;> first | with_reducible rfl | (rw [if_neg (by first | omega | (simp only [ByteArray.size_append] at *; omega))])
              simp only [Act.put, List.setIfInBounds_toArray, List.set_cons_zero, List.set_cons_succ]
              refine wpAnyH_take (i := 18) (oi := { dst := some 148, op := Go.Op.binOp Go.BinOp.eql 3 (Go.Operand.tmp 143) (Go.Operand.tmp 147) 3, type := 4, pos := _, after := #[{ on := 13, ground := Go.Ground.data }, { on := 17, ground := Go.Ground.data }, { on := 9, ground := Go.Ground.guard }], guard := some (9, false) }) (v := ?_) rfl (by kernel_rfl) (by kernel_rfl) (by kernel_rfl) (fun _ _ _ h => h) (Or.inl ⟨by rfl, ?_⟩) (by assumption) ?_
              rotate_left
              · intro w hSw; (try dsimp only at hSw); go_simp <;> first | with_reducible rfl | (rw [if_neg (by first | omega | (simp only [ByteArray.size_append] at *; omega))])
              simp only [Act.put, List.setIfInBounds_toArray, List.set_cons_zero, List.set_cons_succ]
              refine wpAnyH_take (i := 19) (oi := { dst := some 149, op := Go.Op.move (Go.Operand.tmp 148), type := 4, pos := _, after := #[{ on := 18, ground := Go.Ground.data }, { on := 9, ground := Go.Ground.chain }, { on := 9, ground := Go.Ground.guard }], guard := some (9, false) }) (v := ?_) rfl (by kernel_rfl) (by kernel_rfl) (by kernel_rfl) (fun _ _ _ h => h) (Or.inl ⟨by rfl, ?_⟩) (by assumption) ?_
              rotate_left
              · intro w hSw; (try dsimp only at hSw); go_simp <;> first | with_reducible rfl | (rw [if_neg (by first | omega | (simp only [ByteArray.size_append] at *; omega))])
              simp only [Act.put, List.setIfInBounds_toArray, List.set_cons_zero, List.set_cons_succ]
              refine wpAnyH_take (i := 20) (oi := { dst := some 150, op := Go.Op.move (Go.Operand.tmp 7), type := 45, pos := _, after := #[{ on := 19, ground := Go.Ground.guard }], guard := some (19, true) }) (v := ?_) rfl (by kernel_rfl) (by kernel_rfl) (by kernel_rfl) (fun _ _ _ h => h) (Or.inl ⟨by rfl, ?_⟩) (by assumption) ?_
              rotate_left
              · intro w hSw; (try dsimp only at hSw); go_simp <;> first | with_reducible rfl | (rw [if_neg (by first | omega | (simp only [ByteArray.size_append] at *; omega))])
              simp only [Act.put, List.setIfInBounds_toArray, List.set_cons_zero, List.set_cons_succ]
              refine wpAnyH_take (i := 21) (oi := { dst := some 151, op := Go.Op.move (Go.Operand.tmp 8), type := 3, pos := _, after := #[{ on := 19, ground := Go.Ground.guard }], guard := some (19, true) }) (v := ?_) rfl (by kernel_rfl) (by kernel_rfl) (by kernel_rfl) (fun _ _ _ h => h) (Or.inl ⟨by rfl, ?_⟩) (by assumption) ?_
              rotate_left
              · intro w hSw; (try dsimp only at hSw); go_simp <;> first | with_reducible rfl | (rw [if_neg (by first | omega | (simp only [ByteArray.size_append] at *; omega))])
              simp only [Act.put, List.setIfInBounds_toArray, List.set_cons_zero, List.set_cons_succ]
              refine wpAnyH_take (i := 22) (oi := { dst := some 152, op := Go.Op.indexAddr 45 (Go.Operand.tmp 150) (Go.Operand.tmp 151), type := 0, pos := _, after := #[{ on := 20, ground := Go.Ground.data }, { on := 21, ground := Go.Ground.data }, { on := 19, ground := Go.Ground.guard }], guard := some (19, true) }) (v := ?_) rfl (by kernel_rfl) (by kernel_rfl) (by kernel_rfl) (fun _ _ _ h => h) (Or.inl ⟨by rfl, ?_⟩) (by assumption) ?_
              rotate_left
              · intro w hSw; (try dsimp only at hSw); go_simp <;> first | with_reducible rfl | (rw [if_neg (by first | omega | (simp only [ByteArray.size_append] at *; omega))])
              simp only [Act.put, List.setIfInBounds_toArray, List.set_cons_zero, List.set_cons_succ]
              refine wpAnyH_take (i := 23) (oi := { dst := some 153, op := Go.Op.load 3 (Go.Operand.tmp 152), type := 3, pos := _, after := #[{ on := 22, ground := Go.Ground.data }, { on := 19, ground := Go.Ground.guard }], guard := some (19, true) }) (v := ?_) rfl (by kernel_rfl) (by kernel_rfl) (by kernel_rfl) (fun _ _ _ h => h) (Or.inl ⟨by rfl, ?_⟩) (by assumption) ?_
              rotate_left
              · intro w hSw; (try dsimp only at hSw); go_simp <;> first | with_reducible rfl | (rw [if_neg (by first | omega | (simp only [ByteArray.size_append] at *; omega))])
              simp only [Act.put, List.setIfInBounds_toArray, List.set_cons_zero, List.set_cons_succ]
              refine wpAnyH_take (i := 24) (oi := { dst := some 154, op := Go.Op.binOp Go.BinOp.gtr 3 (Go.Operand.tmp 153) (Go.Operand.const (Go.Value.int Go.IntKind.i64 0)) 3, type := 4, pos := _, after := #[{ on := 23, ground := Go.Ground.data }, { on := 19, ground := Go.Ground.guard }], guard := some (19, true) }) (v := ?_) rfl (by kernel_rfl) (by kernel_rfl) (by kernel_rfl) (fun _ _ _ h => h) (Or.inl ⟨by rfl, ?_⟩) (by assumption) ?_
              rotate_left
              · intro w hSw; (try dsimp only at hSw); go_simp <;> first | with_reducible rfl | (rw [if_neg (by first | omega | (simp only [ByteArray.size_append] at *; omega))])
              simp only [Act.put, List.setIfInBounds_toArray, List.set_cons_zero, List.set_cons_succ]
              refine wpAnyH_take (i := 25) (oi := { dst := some 155, op := Go.Op.pick (Go.Operand.tmp 149) (Go.Operand.tmp 154) (Go.Operand.const (Go.Value.bool false)), type := 4, pos := _, after := #[{ on := 19, ground := Go.Ground.data }, { on := 24, ground := Go.Ground.data }, { on := 9, ground := Go.Ground.guard }], guard := some (9, false) }) (v := ?_) rfl (by kernel_rfl) (by kernel_rfl) (by kernel_rfl) (fun _ _ _ h => h) (Or.inl ⟨by rfl, ?_⟩) (by assumption) ?_
              rotate_left
              · intro w hSw; (try dsimp only at hSw); go_simp <;> first | with_reducible rfl | (rw [if_neg (by first | omega | (simp only [ByteArray.size_append] at *; omega))])
              simp only [Act.put, List.setIfInBounds_toArray, List.set_cons_zero, List.set_cons_succ]
              refine wpAnyH_take (i := 26) (oi := { dst := some 156, op := Go.Op.pick (Go.Operand.tmp 139) (Go.Operand.const (Go.Value.bool true)) (Go.Operand.tmp 155), type := 4, pos := _, after := #[{ on := 9, ground := Go.Ground.data }, { on := 25, ground := Go.Ground.data }], guard := none }) (v := ?_) rfl (by kernel_rfl) (by kernel_rfl) (by kernel_rfl) (fun _ _ _ h => h) (Or.inl ⟨by rfl, ?_⟩) (by assumption) ?_
              rotate_left
              · intro w hSw; (try dsimp only at hSw); go_simp <;> first | with_reducible rfl | (rw [if_neg (by first | omega | (simp only [ByteArray.size_append] at *; omega))])
              simp only [Act.put, List.setIfInBounds_toArray, List.set_cons_zero, List.set_cons_succ]
              refine wpAnyH_done (by kernel_rfl) ?_ _
              go_wp2_with (fail)
              refine (alive _ ((HA.out.below R12.out.av.below).below (below_drewN (Below.refl _ _) 1))).mono ?_
              rintro e w6 ⟨rfl, b6⟩
              have R14 := hid (R12.out.drew.step b6)
              obtain ⟨y0, y1, y2, y3⟩ := R14.out.row4 kr (.int .u8 (opR i : Int)) (.int .i64 0) (.string ⟨#[]⟩) (.slice (some ⟨h2, 0, none⟩) 2 2) (by simp)
              clear b6 R12
              go_wp2_with (fail)
              refine (cR.out _ R14.out pl zpl (by rw [HPL.out]; exact w1'.out.1)).mono ?_
              rintro e w7 ⟨rfl, b7⟩
              have R15 := hid (R14.out.step b7)
              clear b7 R14 y0 y1 y2 y3
              obtain ⟨y0, y1, y2, y3⟩ := R15.out.row4 kl (.int .u8 (opR k : Int)) (.int .i64 0) (.string ⟨#[]⟩) (.slice (some ⟨g2, 0, none⟩) 2 2) (by simp)
              go_wp2_with (fail)
              refine (cL.out _ R15.out fi zfi (by rw [HFI.out]; exact w1'.out.2)).mono ?_
              rintro e w8 ⟨rfl, b8⟩
              have hB := (R15.out.step b8).av.below
              go_wp2_with (fail)
              go_ret
              exact ⟨rfl, hB⟩
            · have hx : ((rkR i : Int) == 3) = false := by rw [beq_eq_false_iff_ne]; omega
              clear hx3
              have hl4 : decide (rkR k < rkR i) = false := by rw [decide_eq_false_iff_not]; omega
              have hl5 : decide ((rkR k : Int) < (rkR i : Int)) = false := by rw [decide_eq_false_iff_not]; omega
              have he' : ((rkR i : Int) == (rkR k : Int)) = false := by rw [beq_eq_false_iff_ne]; omega
              clear hl h3 hg
              generalize rkR i = ri at *
              generalize rkR k = rk at *
              go_wp2_with (fail)
              refine wp_region_held_drew (S := fun V => V.cell? ⟨w.heap.size + 1 + 1, i, none⟩ = some (.int .i64 (ri : Int)) ∧ V.cell? ⟨w.heap.size + 1 + 1, k, none⟩ = some (.int .i64 (rk : Int))) (by kernel_rfl) ?_ (fun hHeld => ?_)
              · exact ⟨d0, d1⟩
              refine wpAnyH_take (i := 0) (oi := { dst := some 130, op := Go.Op.move (Go.Operand.tmp 7), type := 45, pos := _, after := #[], guard := none }) (v := ?_) rfl (by kernel_rfl) (by kernel_rfl) (by kernel_rfl) (fun _ _ _ h => h) (Or.inl ⟨by rfl, ?_⟩) (by assumption) ?_
              rotate_left
              · intro w hSw; (try dsimp only at hSw); go_simp <;> first | with_reducible rfl | (rw [if_neg (by first | omega | (simp only [ByteArray.size_append] at *; omega))])
              simp only [Act.put, List.setIfInBounds_toArray, List.set_cons_zero, List.set_cons_succ]
              refine wpAnyH_take (i := 1) (oi := { dst := some 131, op := Go.Op.move (Go.Operand.tmp 8), type := 3, pos := _, after := #[], guard := none }) (v := ?_) rfl (by kernel_rfl) (by kernel_rfl) (by kernel_rfl) (fun _ _ _ h => h) (Or.inl ⟨by rfl, ?_⟩) (by assumption) ?_
              rotate_left
              · intro w hSw; (try dsimp only at hSw); go_simp <;> first | with_reducible rfl | (rw [if_neg (by first | omega | (simp only [ByteArray.size_append] at *; omega))])
              simp only [Act.put, List.setIfInBounds_toArray, List.set_cons_zero, List.set_cons_succ]
              refine wpAnyH_take (i := 2) (oi := { dst := some 132, op := Go.Op.indexAddr 45 (Go.Operand.tmp 130) (Go.Operand.tmp 131), type := 0, pos := _, after := #[{ on := 0, ground := Go.Ground.data }, { on := 1, ground := Go.Ground.data }], guard := none }) (v := ?_) rfl (by kernel_rfl) (by kernel_rfl) (by kernel_rfl) (fun _ _ _ h => h) (Or.inl ⟨by rfl, ?_⟩) (by assumption) ?_
              rotate_left
              · intro w hSw; (try dsimp only at hSw); go_simp <;> first | with_reducible rfl | (rw [if_neg (by first | omega | (simp only [ByteArray.size_append] at *; omega))])
              simp only [Act.put, List.setIfInBounds_toArray, List.set_cons_zero, List.set_cons_succ]
              refine wpAnyH_take (i := 3) (oi := { dst := some 133, op := Go.Op.load 3 (Go.Operand.tmp 132), type := 3, pos := _, after := #[{ on := 2, ground := Go.Ground.data }], guard := none }) (v := ?_) rfl (by kernel_rfl) (by kernel_rfl) (by kernel_rfl) (fun _ _ _ h => h) (Or.inl ⟨by rfl, ?_⟩) (by assumption) ?_
              rotate_left
              · intro w hSw; (try dsimp only at hSw); go_simp <;> first | with_reducible rfl | (rw [if_neg (by first | omega | (simp only [ByteArray.size_append] at *; omega))])
              simp only [Act.put, List.setIfInBounds_toArray, List.set_cons_zero, List.set_cons_succ]
              refine wpAnyH_take (i := 4) (oi := { dst := some 134, op := Go.Op.move (Go.Operand.tmp 7), type := 45, pos := _, after := #[], guard := none }) (v := ?_) rfl (by kernel_rfl) (by kernel_rfl) (by kernel_rfl) (fun _ _ _ h => h) (Or.inl ⟨by rfl, ?_⟩) (by assumption) ?_
              rotate_left
              · intro w hSw; (try dsimp only at hSw); go_simp <;> first | with_reducible rfl | (rw [if_neg (by first | omega | (simp only [ByteArray.size_append] at *; omega))])
              simp only [Act.put, List.setIfInBounds_toArray, List.set_cons_zero, List.set_cons_succ]
              refine wpAnyH_take (i := 5) (oi := { dst := some 135, op := Go.Op.move (Go.Operand.tmp 9), type := 3, pos := _, after := #[], guard := none }) (v := ?_) rfl (by kernel_rfl) (by kernel_rfl) (by kernel_rfl) (fun _ _ _ h => h) (Or.inl ⟨by rfl, ?_⟩) (by assumption) ?_
              rotate_left
              · intro w hSw; (try dsimp only at hSw); go_simp <;> first | with_reducible rfl | (rw [if_neg (by first | omega | (simp only [ByteArray.size_append] at *; omega))])
              simp only [Act.put, List.setIfInBounds_toArray, List.set_cons_zero, List.set_cons_succ]
              refine wpAnyH_take (i := 6) (oi := { dst := some 136, op := Go.Op.indexAddr 45 (Go.Operand.tmp 134) (Go.Operand.tmp 135), type := 0, pos := _, after := #[{ on := 4, ground := Go.Ground.data }, { on := 5, ground := Go.Ground.data }], guard := none }) (v := ?_) rfl (by kernel_rfl) (by kernel_rfl) (by kernel_rfl) (fun _ _ _ h => h) (Or.inl ⟨by rfl, ?_⟩) (by assumption) ?_
              rotate_left
              · intro w hSw; (try dsimp only at hSw); go_simp <;> first | with_reducible rfl | (rw [if_neg (by first | omega | (simp only [ByteArray.size_append] at *; omega))])
              simp only [Act.put, List.setIfInBounds_toArray, List.set_cons_zero, List.set_cons_succ]
              refine wpAnyH_take (i := 7) (oi := { dst := some 137, op := Go.Op.load 3 (Go.Operand.tmp 136), type := 3, pos := _, after := #[{ on := 6, ground := Go.Ground.data }], guard := none }) (v := ?_) rfl (by kernel_rfl) (by kernel_rfl) (by kernel_rfl) (fun _ _ _ h => h) (Or.inl ⟨by rfl, ?_⟩) (by assumption) ?_
              rotate_left
              · intro w hSw; (try dsimp only at hSw); go_simp <;> first | with_reducible rfl | (rw [if_neg (by first | omega | (simp only [ByteArray.size_append] at *; omega))])
              simp only [Act.put, List.setIfInBounds_toArray, List.set_cons_zero, List.set_cons_succ]
              refine wpAnyH_take (i := 8) (oi := { dst := some 138, op := Go.Op.binOp Go.BinOp.gtr 3 (Go.Operand.tmp 133) (Go.Operand.tmp 137) 3, type := 4, pos := _, after := #[{ on := 3, ground := Go.Ground.data }, { on := 7, ground := Go.Ground.data }], guard := none }) (v := ?_) rfl (by kernel_rfl) (by kernel_rfl) (by kernel_rfl) (fun _ _ _ h => h) (Or.inl ⟨by rfl, ?_⟩) (by assumption) ?_
              rotate_left
              · intro w hSw; (try dsimp only at hSw); go_simp <;> first | with_reducible rfl | (rw [if_neg (by first | omega | (simp only [ByteArray.size_append] at *; omega))])
              simp only [Act.put, List.setIfInBounds_toArray, List.set_cons_zero, List.set_cons_succ]
              refine wpAnyH_take (i := 9) (oi := { dst := some 139, op := Go.Op.move (Go.Operand.tmp 138), type := 4, pos := _, after := #[{ on := 8, ground := Go.Ground.data }], guard := none }) (v := ?_) rfl (by kernel_rfl) (by kernel_rfl) (by kernel_rfl) (fun _ _ _ h => h) (Or.inl ⟨by rfl, ?_⟩) (by assumption) ?_
              rotate_left
              · intro w hSw; (try dsimp only at hSw); go_simp <;> first | with_reducible rfl | (rw [if_neg (by first | omega | (simp only [ByteArray.size_append] at *; omega))])
              simp only [Act.put, List.setIfInBounds_toArray, List.set_cons_zero, List.set_cons_succ]
              refine wpAnyH_take (i := 10) (oi := { dst := some 140, op := Go.Op.move (Go.Operand.tmp 7), type := 45, pos := _, after := #[{ on := 9, ground := Go.Ground.guard }], guard := some (9, false) }) (v := ?_) rfl (by kernel_rfl) (by kernel_rfl) (by kernel_rfl) (fun _ _ _ h => h) (Or.inl ⟨by rfl, ?_⟩) (by assumption) ?_
              rotate_left
              · intro w hSw; (try dsimp only at hSw); go_simp <;> first | with_reducible rfl | (rw [if_neg (by first | omega | (simp only [ByteArray.size_append] at *; omega))])
              simp only [Act.put, List.setIfInBounds_toArray, List.set_cons_zero, List.set_cons_succ]
              refine wpAnyH_take (i := 11) (oi := { dst := some 141, op := Go.Op.move (Go.Operand.tmp 8), type := 3, pos := _, after := #[{ on := 9, ground := Go.Ground.guard }], guard := some (9, false) }) (v := ?_) rfl (by kernel_rfl) (by kernel_rfl) (by kernel_rfl) (fun _ _ _ h => h) (Or.inl ⟨by rfl, ?_⟩) (by assumption) ?_
              rotate_left
              · intro w hSw; (try dsimp only at hSw); go_simp <;> first | with_reducible rfl | (rw [if_neg (by first | omega | (simp only [ByteArray.size_append] at *; omega))])
              simp only [Act.put, List.setIfInBounds_toArray, List.set_cons_zero, List.set_cons_succ]
              refine wpAnyH_take (i := 12) (oi := { dst := some 142, op := Go.Op.indexAddr 45 (Go.Operand.tmp 140) (Go.Operand.tmp 141), type := 0, pos := _, after := #[{ on := 10, ground := Go.Ground.data }, { on := 11, ground := Go.Ground.data }, { on := 9, ground := Go.Ground.guard }], guard := some (9, false) }) (v := ?_) rfl (by kernel_rfl) (by kernel_rfl) (by kernel_rfl) (fun _ _ _ h => h) (Or.inl ⟨by rfl, ?_⟩) (by assumption) ?_
              rotate_left
              · intro w hSw; (try dsimp only at hSw); go_simp <;> first | with_reducible rfl | (rw [if_neg (by first | omega | (simp only [ByteArray.size_append] at *; omega))])
              simp only [Act.put, List.setIfInBounds_toArray, List.set_cons_zero, List.set_cons_succ]
              refine wpAnyH_take (i := 13) (oi := { dst := some 143, op := Go.Op.load 3 (Go.Operand.tmp 142), type := 3, pos := _, after := #[{ on := 12, ground := Go.Ground.data }, { on := 9, ground := Go.Ground.guard }], guard := some (9, false) }) (v := ?_) rfl (by kernel_rfl) (by kernel_rfl) (by kernel_rfl) (fun _ _ _ h => h) (Or.inl ⟨by rfl, ?_⟩) (by assumption) ?_
              rotate_left
              · intro w hSw; (try dsimp only at hSw); go_simp <;> first | with_reducible rfl | (rw [if_neg (by first | omega | (simp only [ByteArray.size_append] at *; omega))])
              simp only [Act.put, List.setIfInBounds_toArray, List.set_cons_zero, List.set_cons_succ]
              refine wpAnyH_take (i := 14) (oi := { dst := some 144, op := Go.Op.move (Go.Operand.tmp 7), type := 45, pos := _, after := #[{ on := 9, ground := Go.Ground.guard }], guard := some (9, false) }) (v := ?_) rfl (by kernel_rfl) (by kernel_rfl) (by kernel_rfl) (fun _ _ _ h => h) (Or.inl ⟨by rfl, ?_⟩) (by assumption) ?_
              rotate_left
              · intro w hSw; (try dsimp only at hSw); go_simp <;> first | with_reducible rfl | (rw [if_neg (by first | omega | (simp only [ByteArray.size_append] at *; omega))])
              simp only [Act.put, List.setIfInBounds_toArray, List.set_cons_zero, List.set_cons_succ]
              refine wpAnyH_take (i := 15) (oi := { dst := some 145, op := Go.Op.move (Go.Operand.tmp 9), type := 3, pos := _, after := #[{ on := 9, ground := Go.Ground.guard }], guard := some (9, false) }) (v := ?_) rfl (by kernel_rfl) (by kernel_rfl) (by kernel_rfl) (fun _ _ _ h => h) (Or.inl ⟨by rfl, ?_⟩) (by assumption) ?_
              rotate_left
              · intro w hSw; (try dsimp only at hSw); go_simp <;> first | with_reducible rfl | (rw [if_neg (by first | omega | (simp only [ByteArray.size_append] at *; omega))])
              simp only [Act.put, List.setIfInBounds_toArray, List.set_cons_zero, List.set_cons_succ]
              refine wpAnyH_take (i := 16) (oi := { dst := some 146, op := Go.Op.indexAddr 45 (Go.Operand.tmp 144) (Go.Operand.tmp 145), type := 0, pos := _, after := #[{ on := 14, ground := Go.Ground.data }, { on := 15, ground := Go.Ground.data }, { on := 9, ground := Go.Ground.guard }], guard := some (9, false) }) (v := ?_) rfl (by kernel_rfl) (by kernel_rfl) (by kernel_rfl) (fun _ _ _ h => h) (Or.inl ⟨by rfl, ?_⟩) (by assumption) ?_
              rotate_left
              · intro w hSw; (try dsimp only at hSw); go_simp <;> first | with_reducible rfl | (rw [if_neg (by first | omega | (simp only [ByteArray.size_append] at *; omega))])
              simp only [Act.put, List.setIfInBounds_toArray, List.set_cons_zero, List.set_cons_succ]
              refine wpAnyH_take (i := 17) (oi := { dst := some 147, op := Go.Op.load 3 (Go.Operand.tmp 146), type := 3, pos := _, after := #[{ on := 16, ground := Go.Ground.data }, { on := 9, ground := Go.Ground.guard }], guard := some (9, false) }) (v := ?_) rfl (by kernel_rfl) (by kernel_rfl) (by kernel_rfl) (fun _ _ _ h => h) (Or.inl ⟨by rfl, ?_⟩) (by assumption) ?_
              rotate_left
              · intro w hSw; (try dsimp only at hSw); go_simp <;> first | with_reducible rfl | (rw [if_neg (by first | omega | (simp only [ByteArray.size_append] at *; omega))])
              simp only [Act.put, List.setIfInBounds_toArray, List.set_cons_zero, List.set_cons_succ]
              refine wpAnyH_take (i := 18) (oi := { dst := some 148, op := Go.Op.binOp Go.BinOp.eql 3 (Go.Operand.tmp 143) (Go.Operand.tmp 147) 3, type := 4, pos := _, after := #[{ on := 13, ground := Go.Ground.data }, { on := 17, ground := Go.Ground.data }, { on := 9, ground := Go.Ground.guard }], guard := some (9, false) }) (v := ?_) rfl (by kernel_rfl) (by kernel_rfl) (by kernel_rfl) (fun _ _ _ h => h) (Or.inl ⟨by rfl, ?_⟩) (by assumption) ?_
              rotate_left
              · intro w hSw; (try dsimp only at hSw); go_simp <;> first | with_reducible rfl | (rw [if_neg (by first | omega | (simp only [ByteArray.size_append] at *; omega))])
              simp only [Act.put, List.setIfInBounds_toArray, List.set_cons_zero, List.set_cons_succ]
              refine wpAnyH_take (i := 19) (oi := { dst := some 149, op := Go.Op.move (Go.Operand.tmp 148), type := 4, pos := _, after := #[{ on := 18, ground := Go.Ground.data }, { on := 9, ground := Go.Ground.chain }, { on := 9, ground := Go.Ground.guard }], guard := some (9, false) }) (v := ?_) rfl (by kernel_rfl) (by kernel_rfl) (by kernel_rfl) (fun _ _ _ h => h) (Or.inl ⟨by rfl, ?_⟩) (by assumption) ?_
              rotate_left
              · intro w hSw; (try dsimp only at hSw); go_simp <;> first | with_reducible rfl | (rw [if_neg (by first | omega | (simp only [ByteArray.size_append] at *; omega))])
              simp only [Act.put, List.setIfInBounds_toArray, List.set_cons_zero, List.set_cons_succ]
              refine wpAnyH_take (i := 20) (oi := { dst := some 150, op := Go.Op.move (Go.Operand.tmp 7), type := 45, pos := _, after := #[{ on := 19, ground := Go.Ground.guard }], guard := some (19, true) }) (v := undef) rfl (by kernel_rfl) (by kernel_rfl) (by kernel_rfl) (fun _ _ _ h => h) (Or.inr ⟨by rfl, rfl⟩) (by assumption) ?_
              simp only [Act.put, List.setIfInBounds_toArray, List.set_cons_zero, List.set_cons_succ]
              refine wpAnyH_take (i := 21) (oi := { dst := some 151, op := Go.Op.move (Go.Operand.tmp 8), type := 3, pos := _, after := #[{ on := 19, ground := Go.Ground.guard }], guard := some (19, true) }) (v := undef) rfl (by kernel_rfl) (by kernel_rfl) (by kernel_rfl) (fun _ _ _ h => h) (Or.inr ⟨by rfl, rfl⟩) (by assumption) ?_
              simp only [Act.put, List.setIfInBounds_toArray, List.set_cons_zero, List.set_cons_succ]
              refine wpAnyH_take (i := 22) (oi := { dst := some 152, op := Go.Op.indexAddr 45 (Go.Operand.tmp 150) (Go.Operand.tmp 151), type := 0, pos := _, after := #[{ on := 20, ground := Go.Ground.data }, { on := 21, ground := Go.Ground.data }, { on := 19, ground := Go.Ground.guard }], guard := some (19, true) }) (v := undef) rfl (by kernel_rfl) (by kernel_rfl) (by kernel_rfl) (fun _ _ _ h => h) (Or.inr ⟨by rfl, rfl⟩) (by assumption) ?_
              simp only [Act.put, List.setIfInBounds_toArray, List.set_cons_zero, List.set_cons_succ]
              refine wpAnyH_take (i := 23) (oi := { dst := some 153, op := Go.Op.load 3 (Go.Operand.tmp 152), type := 3, pos := _, after := #[{ on := 22, ground := Go.Ground.data }, { on := 19, ground := Go.Ground.guard }], guard := some (19, true) }) (v := undef) rfl (by kernel_rfl) (by kernel_rfl) (by kernel_rfl) (fun _ _ _ h => h) (Or.inr ⟨by rfl, rfl⟩) (by assumption) ?_
              simp only [Act.put, List.setIfInBounds_toArray, List.set_cons_zero, List.set_cons_succ]
              refine wpAnyH_take (i := 24) (oi := { dst := some 154, op := Go.Op.binOp Go.BinOp.gtr 3 (Go.Operand.tmp 153) (Go.Operand.const (Go.Value.int Go.IntKind.i64 0)) 3, type := 4, pos := _, after := #[{ on := 23, ground := Go.Ground.data }, { on := 19, ground := Go.Ground.guard }], guard := some (19, true) }) (v := undef) rfl (by kernel_rfl) (by kernel_rfl) (by kernel_rfl) (fun _ _ _ h => h) (Or.inr ⟨by rfl, rfl⟩) (by assumption) ?_
              simp only [Act.put, List.setIfInBounds_toArray, List.set_cons_zero, List.set_cons_succ]
              refine wpAnyH_take (i := 25) (oi := { dst := some 155, op := Go.Op.pick (Go.Operand.tmp 149) (Go.Operand.tmp 154) (Go.Operand.const (Go.Value.bool false)), type := 4, pos := _, after := #[{ on := 19, ground := Go.Ground.data }, { on := 24, ground := Go.Ground.data }, { on := 9, ground := Go.Ground.guard }], guard := some (9, false) }) (v := ?_) rfl (by kernel_rfl) (by kernel_rfl) (by kernel_rfl) (fun _ _ _ h => h) (Or.inl ⟨by rfl, ?_⟩) (by assumption) ?_
              rotate_left
              · intro w hSw; (try dsimp only at hSw); go_simp <;> first | with_reducible rfl | (rw [if_neg (by first | omega | (simp only [ByteArray.size_append] at *; omega))])
              simp only [Act.put, List.setIfInBounds_toArray, List.set_cons_zero, List.set_cons_succ]
              refine wpAnyH_take (i := 26) (oi := { dst := some 156, op := Go.Op.pick (Go.Operand.tmp 139) (Go.Operand.const (Go.Value.bool true)) (Go.Operand.tmp 155), type := 4, pos := _, after := #[{ on := 9, ground := Go.Ground.data }, { on := 25, ground := Go.Ground.data }], guard := none }) (v := ?_) rfl (by kernel_rfl) (by kernel_rfl) (by kernel_rfl) (fun _ _ _ h => h) (Or.inl ⟨by rfl, ?_⟩) (by assumption) ?_
              rotate_left
              · intro w hSw; (try dsimp only at hSw); go_simp <;> first | with_reducible rfl | (rw [if_neg (by first | omega | (simp only [ByteArray.size_append] at *; omega))])
              simp only [Act.put, List.setIfInBounds_toArray, List.set_cons_zero, List.set_cons_succ]
              refine wpAnyH_done (by kernel_rfl) ?_ _
              go_wp2_with (fail)
              refine (alive _ ((HA.out.below R12.out.av.below).below (below_drewN (Below.refl _ _) 1))).mono ?_
              rintro e w6 ⟨rfl, b6⟩
              have R14 := hid (R12.out.drew.step b6)
              obtain ⟨y0, y1, y2, y3⟩ := R14.out.row4 kr (.int .u8 (opR i : Int)) (.int .i64 0) (.string ⟨#[]⟩) (.slice (some ⟨h2, 0, none⟩) 2 2) (by simp)
              clear b6 R12
              go_wp2_with (fail)
              refine (cR.out _ R14.out pl zpl (by rw [HPL.out]; exact w1'.out.1)).mono ?_
              rintro e w7 ⟨rfl, b7⟩
              have R15 := hid (R14.out.step b7)
              clear b7 R14 y0 y1 y2 y3
              obtain ⟨y0, y1, y2, y3⟩ := R15.out.row4 kl (.int .u8 (opR k : Int)) (.int .i64 0) (.string ⟨#[]⟩) (.slice (some ⟨g2, 0, none⟩) 2 2) (by simp)
              go_wp2_with (fail)
              refine (cL.out _ R15.out fi zfi (by rw [HFI.out]; exact w1'.out.2)).mono ?_
              rintro e w8 ⟨rfl, b8⟩
              have hB := (R15.out.step b8).av.below
              go_wp2_with (fail)
              go_ret
              exact ⟨rfl, hB⟩
end Go.Proofs.YtkieljleopbhoabDoor.Lex
