/-
  Some answers that the document fixes: the contract of alive.
  The document's own: of how many parts an operator is, how great it is, whether it may be.
  The document's own size, and Check.
  The document's own size and Check, whatever it is.
  The contracts of TwinIns and TwinTexts.
-/
import Derived.Test.YtakjkhfglihggaaDoorG7
import Derived.Test.YtakjkhfglihggaaDoorG5
import Derived.Test.YtakjkhfglihggaaDoorG2
import Derived.BigQuiet
import Derived.Test.YtakjkhfglihggaaDoorG4
namespace Go.Proofs.YtakjkhfglihggaaDoor.Lex
open Go.ChangeShapes Go.WideShapes Go.ChangeAt Go.RowKit Go.Joins
abbrev exA : Ex := ⟨3, 0, ⟨#[97]⟩, []⟩
abbrev exB : Ex := ⟨3, 0, ⟨#[98]⟩, []⟩
abbrev exC : Ex := ⟨3, 0, ⟨#[99]⟩, []⟩
abbrev exD : Ex := ⟨2, 0, ⟨#[]⟩, []⟩
abbrev exZ : Ex := ⟨0, 0, ⟨#[]⟩, []⟩
theorem st_leaf (W : World) (x : Ex) (ha : x.args = []) (ho : x.op < 256) (hn : -9223372036854775808 ≤ x.n ∧ x.n ≤ 9223372036854775807) (hs : x.name.size ≤ 140737488355328) : St W x N0 := by
  obtain ⟨op, n, nm, args⟩ := x
  subst ha
  exact St.intro ⟨op, n, nm, []⟩ none 0 (fun _ => N0) ho hn hs (by simp) (by simp) (.inl rfl) (fun i hi => absurd hi (Nat.not_lt_zero i))
theorem stA (W : World) : St W exA N0 := st_leaf W exA rfl (by decide) (by decide) (by show (1 : Nat) ≤ _; omega)
theorem stB (W : World) : St W exB N0 := st_leaf W exB rfl (by decide) (by decide) (by show (1 : Nat) ≤ _; omega)
theorem stC (W : World) : St W exC N0 := st_leaf W exC rfl (by decide) (by decide) (by show (1 : Nat) ≤ _; omega)
theorem stD (W : World) : St W exD N0 := st_leaf W exD rfl (by decide) (by decide) (by show (0 : Nat) ≤ _; omega)
theorem stZ (W : World) : St W exZ N0 := st_leaf W exZ rfl (by decide) (by decide) (by show (0 : Nat) ≤ _; omega)
theorem st1 (W : World) (op : Nat) (x : Ex) (s : Value) (ho : op < 256) (hx : St W x s) : St (W.alloc (.cells #[.int .u8 (x.op : Int), .int .i64 x.n, .string x.name, s] 30)) ⟨op, 0, ⟨#[]⟩, [x]⟩ (.slice (some ⟨W.heap.size, 0, none⟩) 1 1) := by
  have hb := (Below.refl W.heap.size W).alloc (Nat.le_refl _) (.cells #[.int .u8 (x.op : Int), .int .i64 x.n, .string x.name, s] 30)
  have hr := heap_alloc_new W (.cells #[.int .u8 (x.op : Int), .int .i64 x.n, .string x.name, s] 30)
  refine St.intro ⟨op, 0, ⟨#[]⟩, [x]⟩ _ 1 (fun _ => s) ho ⟨by show (-9223372036854775808 : Int) ≤ 0; omega, by show (0 : Int) ≤ _; omega⟩ (by show (0 : Nat) ≤ _; omega) (by simp) (by simp) (.inr ⟨W.heap.size, 0, rfl, fun i hi => ?_⟩) (fun i hi => ?_)
  · have hi1 : i < 1 := hi
    obtain rfl : i = 0 := by omega
    refine ⟨?_, ?_, ?_, ?_⟩ <;> (rw [cell_of_row _ _ _ _ 30 (0, 0) hr]; rfl)
  · have hi1 : i < 1 := hi
    obtain rfl : i = 0 := by omega
    exact hx.keep hb
theorem st2 (W : World) (op : Nat) (x y : Ex) (s t : Value) (ho : op < 256) (hx : St W x s) (hy : St W y t) : St (W.alloc (.cells #[.int .u8 (x.op : Int), .int .i64 x.n, .string x.name, s, .int .u8 (y.op : Int), .int .i64 y.n, .string y.name, t] 30)) ⟨op, 0, ⟨#[]⟩, [x, y]⟩ (.slice (some ⟨W.heap.size, 0, none⟩) 2 2) := by
  have hb := (Below.refl W.heap.size W).alloc (Nat.le_refl _) (.cells #[.int .u8 (x.op : Int), .int .i64 x.n, .string x.name, s, .int .u8 (y.op : Int), .int .i64 y.n, .string y.name, t] 30)
  have hr := heap_alloc_new W (.cells #[.int .u8 (x.op : Int), .int .i64 x.n, .string x.name, s, .int .u8 (y.op : Int), .int .i64 y.n, .string y.name, t] 30)
  refine St.intro ⟨op, 0, ⟨#[]⟩, [x, y]⟩ _ 2 (fun i => if i = 0 then s else t) ho ⟨by show (-9223372036854775808 : Int) ≤ 0; omega, by show (0 : Int) ≤ _; omega⟩ (by show (0 : Nat) ≤ _; omega) (by simp) (by simp) (.inr ⟨W.heap.size, 0, rfl, fun i hi => ?_⟩) (fun i hi => ?_)
  · have hi1 : i < 2 := hi
    rcases (by omega : i = 0 ∨ i = 1) with rfl | rfl <;> refine ⟨?_, ?_, ?_, ?_⟩ <;> (rw [cell_of_row _ _ _ _ 30 (0, 0) hr]; rfl)
  · have hi1 : i < 2 := hi
    rcases (by omega : i = 0 ∨ i = 1) with rfl | rfl
    · exact hx.keep hb
    · exact hy.keep hb
theorem st3 (W : World) (op : Nat) (x y z : Ex) (s t u : Value) (ho : op < 256) (hx : St W x s) (hy : St W y t) (hz : St W z u) : St (W.alloc (.cells #[.int .u8 (x.op : Int), .int .i64 x.n, .string x.name, s, .int .u8 (y.op : Int), .int .i64 y.n, .string y.name, t, .int .u8 (z.op : Int), .int .i64 z.n, .string z.name, u] 30)) ⟨op, 0, ⟨#[]⟩, [x, y, z]⟩ (.slice (some ⟨W.heap.size, 0, none⟩) 3 3) := by
  have hb := (Below.refl W.heap.size W).alloc (Nat.le_refl _) (.cells #[.int .u8 (x.op : Int), .int .i64 x.n, .string x.name, s, .int .u8 (y.op : Int), .int .i64 y.n, .string y.name, t, .int .u8 (z.op : Int), .int .i64 z.n, .string z.name, u] 30)
  have hr := heap_alloc_new W (.cells #[.int .u8 (x.op : Int), .int .i64 x.n, .string x.name, s, .int .u8 (y.op : Int), .int .i64 y.n, .string y.name, t, .int .u8 (z.op : Int), .int .i64 z.n, .string z.name, u] 30)
  refine St.intro ⟨op, 0, ⟨#[]⟩, [x, y, z]⟩ _ 3 (fun i => if i = 0 then s else if i = 1 then t else u) ho ⟨by show (-9223372036854775808 : Int) ≤ 0; omega, by show (0 : Int) ≤ _; omega⟩ (by show (0 : Nat) ≤ _; omega) (by simp) (by simp) (.inr ⟨W.heap.size, 0, rfl, fun i hi => ?_⟩) (fun i hi => ?_)
  · have hi1 : i < 3 := hi
    rcases (by omega : i = 0 ∨ i = 1 ∨ i = 2) with rfl | rfl | rfl <;> refine ⟨?_, ?_, ?_, ?_⟩ <;> (rw [cell_of_row _ _ _ _ 30 (0, 0) hr]; rfl)
  · have hi1 : i < 3 := hi
    rcases (by omega : i = 0 ∨ i = 1 ∨ i = 2) with rfl | rfl | rfl
    · exact hx.keep hb
    · exact hy.keep hb
    · exact hz.keep hb
def findD (l : List (Int × Hd)) (name : ByteArray) : Option (Int × Hd) := l.find? fun x => x.2.name.data.toList == name.data.toList
theorem findT_D (l : List (Int × Hd)) (name : ByteArray) : findT l name = findD l name := by
  unfold findT findD
  congr 1
  funext x
  rw [ByteArray.toList_eq, ByteArray.toList_eq]
theorem asks_D (p : Pg) (x : Ex) : asksAll p x = (gat 32 x 0 []).all fun r => (findD (thingsL p) r.1).isSome := by
  unfold asksAll
  congr 1
  funext r
  rw [findT_D]
theorem tyA : tyN smQ ⟨#[97]⟩ = 1 := by unfold tyN; rw [findT_D]; decide +kernel
theorem tyB : tyN smQ ⟨#[98]⟩ = 2 := by unfold tyN; rw [findT_D]; decide +kernel
theorem of_good (x : Ex) (t : Nat) (h1 : chk x = true) (h2 : ((gat 32 x 0 []).all fun r => (findD (thingsL smQ) r.1).isSome) = true) (h3 : tyE smQ x = t) (h4 : t ≠ 0) : ofV smQ x = (t, 0) := by
  unfold ofV
  rw [if_neg (by rw [h1]; simp), if_neg (by rw [asks_D, h2]; simp), h3, if_neg h4]
theorem of_bad (x : Ex) (h1 : chk x = true) (h2 : ((gat 32 x 0 []).all fun r => (findD (thingsL smQ) r.1).isSome) = true) (h3 : tyE smQ x = 0) : ofV smQ x = (0, 7) := by
  unfold ofV
  rw [if_neg (by rw [h1]; simp), if_neg (by rw [asks_D, h2]; simp), h3, if_pos rfl]
theorem t1 : ofV smQ ⟨6, 0, ⟨#[]⟩, [exA, exA]⟩ = (1, 0) := of_good _ 1 (by decide +kernel) (by decide +kernel) (by simp [tyE_eq, ruleT, tyA, com]) (by decide)
theorem t2 : ofV smQ ⟨16, 0, ⟨#[]⟩, [⟨13, 0, ⟨#[]⟩, [exA, exA]⟩, exB]⟩ = (2, 0) := of_good _ 2 (by decide +kernel) (by decide +kernel) (by simp [tyE_eq, ruleT, tyA, tyB, com]) (by decide)
theorem t3 : ofV smQ ⟨17, 0, ⟨#[]⟩, [exB, exA, ⟨4, 0, ⟨#[]⟩, [exA]⟩]⟩ = (1, 0) := of_good _ 1 (by decide +kernel) (by decide +kernel) (by simp [tyE_eq, ruleT, tyA, tyB, com]) (by decide)
theorem t4 : ofV smQ ⟨18, 0, ⟨#[]⟩, [exA, ⟨19, 0, ⟨#[]⟩, [exA]⟩]⟩ = (1, 0) := of_good _ 1 (by decide +kernel) (by decide +kernel) (by simp [tyE_eq, ruleT, tyA, com]) (by decide)
theorem t5 : ofV smQ ⟨11, 0, ⟨#[]⟩, [exB, exB]⟩ = (2, 0) := of_good _ 2 (by decide +kernel) (by decide +kernel) (by simp [tyE_eq, ruleT, tyB, com]) (by decide)
theorem t6 : ofV smQ ⟨6, 0, ⟨#[]⟩, [exA, exB]⟩ = (0, 7) := of_bad _ (by decide +kernel) (by decide +kernel) (by simp [tyE_eq, ruleT, tyA, tyB, com])
theorem t7 : ofV smQ ⟨11, 0, ⟨#[]⟩, [exA, exB]⟩ = (0, 7) := of_bad _ (by decide +kernel) (by decide +kernel) (by simp [tyE_eq, ruleT, tyA, tyB, com])
theorem t8 : ofV smQ ⟨6, 0, ⟨#[]⟩, [exC, exD]⟩ = (0, 6) := by
  have h1 : chk ⟨6, 0, ⟨#[]⟩, [exC, exD]⟩ = true := by decide +kernel
  unfold ofV
  rw [if_neg (by rw [h1]; simp), if_pos (by rw [asks_D]; decide +kernel)]
theorem t9 : ofV smQ exZ = (0, 1) := by
  have h1 : chk exZ = false := by decide +kernel
  unfold ofV
  rw [if_pos h1]
theorem ckS : ckV smQ = 0 := by decide +kernel
/-- A world that alive has come to. -/
structure AWv (w : World) (ka kb : Nat) (W : World) : Prop where
  ra : W.heap[ka]? = some (.cells #[.int .u8 3, .int .i64 0, .string ⟨#[97]⟩, .slice none 0 0] 30 (0, 0))
  rb : W.heap[kb]? = some (.cells #[.int .u8 3, .int .i64 0, .string ⟨#[98]⟩, .slice none 0 0] 30 (0, 0))
  R : TabR W
  J : TabJ W
  below : Below w.heap.size w W
theorem AWv.keep {w W W' : World} {ka kb : Nat} (h : AWv w ka kb W) (hb : Below W.heap.size W W') : AWv w ka kb W' := ⟨keep_row h.ra hb, keep_row h.rb hb, h.R.below hb, h.J.below hb, bstep h.below hb⟩
theorem AWv.drew {w W : World} {ka kb : Nat} (h : AWv w ka kb W) : AWv w ka kb W.drew := h.keep (Below.refl _ _).drew
theorem AWv.cells {w W : World} {ka kb : Nat} (h : AWv w ka kb W) : W.cell? ⟨ka, 0, none⟩ = some (.int .u8 3) ∧ W.cell? ⟨ka, 1, none⟩ = some (.int .i64 0) ∧ W.cell? ⟨ka, 2, none⟩ = some (.string ⟨#[97]⟩) ∧ W.cell? ⟨ka, 3, none⟩ = some (.slice none 0 0) ∧ W.cell? ⟨kb, 0, none⟩ = some (.int .u8 3) ∧ W.cell? ⟨kb, 1, none⟩ = some (.int .i64 0) ∧ W.cell? ⟨kb, 2, none⟩ = some (.string ⟨#[98]⟩) ∧ W.cell? ⟨kb, 3, none⟩ = some (.slice none 0 0) := by
  refine ⟨?_, ?_, ?_, ?_, ?_, ?_, ?_, ?_⟩ <;> first | (rw [cell_of_row _ _ _ _ 30 (0, 0) h.ra]; rfl) | (rw [cell_of_row _ _ _ _ 30 (0, 0) h.rb]; rfl)
set_option maxRecDepth 100000 in
set_option maxHeartbeats 8000000 in
theorem alive (w : World) (hR : TabR w) (hJ : TabJ w) : Calls Tryd.prog 19 #[] w fun e w' => e = .returned (.bool true) ∧ Below w.heap.size w w' := by
  have HT := hid (And.intro hR hJ)
  clear hR hJ
  go_enter Tryd.func19, Tryd.ntmps19
  go_wp2_with (fail)
  refine (name_at ⟨#[97]⟩ _).mono ?_
  rintro e w1 ⟨rfl, hb1⟩
  go_wp2_with (fail)
  refine (name_at ⟨#[98]⟩ _).mono ?_
  rintro e w2 ⟨rfl, hb2⟩
  have BB := bstep hb1 (bstep ((Below.refl w1.heap.size w1).alloc (Nat.le_refl _) (.cells #[.int .u8 3, .int .i64 0, .string ⟨#[97]⟩, .slice none 0 0] 30)) (bstep hb2 ((Below.refl w2.heap.size w2).alloc (Nat.le_refl _) (.cells #[.int .u8 3, .int .i64 0, .string ⟨#[98]⟩, .slice none 0 0] 30))))
  have L0 : Hid (AWv w w1.heap.size w2.heap.size (w2.alloc (.cells #[.int .u8 3, .int .i64 0, .string ⟨#[98]⟩, .slice none 0 0] 30))) := hid ⟨push_old (keep_row (heap_alloc_new w1 _) hb2), heap_alloc_new w2 _, HT.out.1.below BB, HT.out.2.below BB, BB⟩
  clear BB hb1 hb2
  go_wp2_with (fail)
  generalize w2.alloc (.cells #[.int .u8 3, .int .i64 0, .string ⟨#[98]⟩, .slice none 0 0] 30) = W0 at *
  generalize w1.heap.size = ka at *
  generalize w2.heap.size = kb at *
  simp only [List.append_eq, List.cons_append, List.nil_append]
  refine wp_region_held_drew (S := fun W => W.cell? ⟨ka, 0, none⟩ = some (.int .u8 3) ∧ W.cell? ⟨ka, 1, none⟩ = some (.int .i64 0) ∧ W.cell? ⟨ka, 2, none⟩ = some (.string ⟨#[97]⟩) ∧ W.cell? ⟨ka, 3, none⟩ = some (.slice none 0 0) ∧ W.cell? ⟨kb, 0, none⟩ = some (.int .u8 3) ∧ W.cell? ⟨kb, 1, none⟩ = some (.int .i64 0) ∧ W.cell? ⟨kb, 2, none⟩ = some (.string ⟨#[98]⟩) ∧ W.cell? ⟨kb, 3, none⟩ = some (.slice none 0 0)) (by kernel_rfl) ?_ (fun hHeld => ?_)
  · exact L0.out.drew.cells
  have K0 := hid L0.out.drew
  refine wpAnyH_take (i := 0) (oi := { dst := some 5, op := Go.Op.load 30 (Go.Operand.tmp 1), type := 30, pos := _, after := #[], guard := none }) (v := ?_) rfl (by kernel_rfl) (by kernel_rfl) (by kernel_rfl) (fun _ _ _ h => h) (Or.inl ⟨by rfl, ?_⟩) (by assumption) ?_
  rotate_left
  · intro w hSw; (try dsimp only at hSw); go_simp <;> first | with_reducible rfl | (rw [if_neg (by first | omega | (simp only [ByteArray.size_append] at *; omega))])
  simp only [Act.put, List.setIfInBounds_toArray, List.set_cons_zero, List.set_cons_succ]
  refine wpAnyH_take (i := 1) (oi := { dst := some 6, op := Go.Op.load 30 (Go.Operand.tmp 1), type := 30, pos := _, after := #[], guard := none }) (v := ?_) rfl (by kernel_rfl) (by kernel_rfl) (by kernel_rfl) (fun _ _ _ h => h) (Or.inl ⟨by rfl, ?_⟩) (by assumption) ?_
  rotate_left
  · intro w hSw; (try dsimp only at hSw); go_simp <;> first | with_reducible rfl | (rw [if_neg (by first | omega | (simp only [ByteArray.size_append] at *; omega))])
  simp only [Act.put, List.setIfInBounds_toArray, List.set_cons_zero, List.set_cons_succ]
  refine wpAnyH_ready (rs := [2]) (by kernel_rfl) (by simp) ?_
  refine AllReadyH.cons (o := { dst := some 7, op := Go.Op.buildSlice 28 2 #[(0, Go.Operand.tmp 5), (1, Go.Operand.tmp 6)], type := 28, pos := _, after := #[{ on := 0, ground := Go.Ground.data }, { on := 1, ground := Go.Ground.data }], guard := none }) rfl (fun K hK => ?_) AllReadyH.nil
  go_simp
  go_wp2_with fail
  have SX1 := hid (st2 W0.drew 6 exA exA _ _ (by decide) (stA _) (stA _))
  have K1 := hid (K0.out.keep ((Below.refl _ _).alloc (Nat.le_refl _) (.cells #[.int .u8 3, .int .i64 0, .string ⟨#[97]⟩, .slice none 0 0, .int .u8 3, .int .i64 0, .string ⟨#[97]⟩, .slice none 0 0] 30)))
  refine hK.out _ _ ?_ (fun hHeld1 => ?_)
  · exact K1.out.cells
  clear hK K
  have HG1 : ∃ G, G = W0.drew.heap.size := ⟨_, rfl⟩
  refine wpAnyH_ready (rs := [3]) (by kernel_rfl) (by simp) ?_
  refine AllReadyH.cons (o := { dst := some 8, op := Go.Op.call { callee := Go.Callee.value (Go.Operand.func 45), args := #[Go.Operand.const (Go.Value.int Go.IntKind.u8 6), Go.Operand.tmp 7], argTypes := #[27, 28] }, type := 30, pos := _, after := #[{ on := 2, ground := Go.Ground.data }], guard := none }) rfl (fun K hK => ?_) AllReadyH.nil
  go_simp
  refine (of_pl 6 _ _ _ _).mono ?_
  rintro e v2 ⟨rfl, hb2⟩
  have K2 := hid (K1.out.keep hb2)
  have SY2 := hid (SX1.out.keep hb2)
  go_wp2_with fail
  refine hK.out _ _ ?_ (fun hHeld2 => ?_)
  · exact K2.out.cells
  clear hK K
  refine wpAnyH_ready (rs := [4]) (by kernel_rfl) (by simp) ?_
  refine AllReadyH.cons (o := { dst := some 9, op := Go.Op.call { callee := Go.Callee.value (Go.Operand.func 44), args := #[Go.Operand.tmp 8, Go.Operand.const (Go.Value.int Go.IntKind.u8 1), Go.Operand.const (Go.Value.int Go.IntKind.i64 0)], argTypes := #[30, 35, 36] }, type := 4, pos := _, after := #[{ on := 3, ground := Go.Ground.data }, { on := 3, ground := Go.Ground.chain }], guard := none }) rfl (fun K hK => ?_) AllReadyH.nil
  go_simp
  refine (is_at _ _ _ t1 _ _ SY2.out K2.out.R K2.out.J).mono ?_
  rintro e v3 ⟨rfl, hb3⟩
  have K3 := hid (K2.out.keep hb3)
  go_wp2_with fail
  refine hK.out _ _ ?_ (fun hHeld3 => ?_)
  · exact K3.out.cells
  clear hK K
  clear hb3
  refine wpAnyH_take (i := 5) (oi := { dst := some 10, op := Go.Op.move (Go.Operand.tmp 9), type := 4, pos := _, after := #[{ on := 4, ground := Go.Ground.data }, { on := 4, ground := Go.Ground.chain }], guard := none }) (v := ?_) rfl (by kernel_rfl) (by kernel_rfl) (by kernel_rfl) (fun _ _ _ h => h) (Or.inl ⟨by rfl, ?_⟩) (by assumption) ?_
  rotate_left
  · intro w hSw; (try dsimp only at hSw); go_simp <;> first | with_reducible rfl | (rw [if_neg (by first | omega | (simp only [ByteArray.size_append] at *; omega))])
  simp only [Act.put, List.setIfInBounds_toArray, List.set_cons_zero, List.set_cons_succ]
  refine wpAnyH_take (i := 6) (oi := { dst := some 11, op := Go.Op.load 30 (Go.Operand.tmp 1), type := 30, pos := _, after := #[{ on := 5, ground := Go.Ground.guard }], guard := some (5, true) }) (v := ?_) rfl (by kernel_rfl) (by kernel_rfl) (by kernel_rfl) (fun _ _ _ h => h) (Or.inl ⟨by rfl, ?_⟩) (by assumption) ?_
  rotate_left
  · intro w hSw; (try dsimp only at hSw); go_simp <;> first | with_reducible rfl | (rw [if_neg (by first | omega | (simp only [ByteArray.size_append] at *; omega))])
  simp only [Act.put, List.setIfInBounds_toArray, List.set_cons_zero, List.set_cons_succ]
  refine wpAnyH_take (i := 7) (oi := { dst := some 12, op := Go.Op.load 30 (Go.Operand.tmp 1), type := 30, pos := _, after := #[{ on := 5, ground := Go.Ground.guard }], guard := some (5, true) }) (v := ?_) rfl (by kernel_rfl) (by kernel_rfl) (by kernel_rfl) (fun _ _ _ h => h) (Or.inl ⟨by rfl, ?_⟩) (by assumption) ?_
  rotate_left
  · intro w hSw; (try dsimp only at hSw); go_simp <;> first | with_reducible rfl | (rw [if_neg (by first | omega | (simp only [ByteArray.size_append] at *; omega))])
  simp only [Act.put, List.setIfInBounds_toArray, List.set_cons_zero, List.set_cons_succ]
  refine wpAnyH_take (i := 10) (oi := { dst := some 15, op := Go.Op.load 30 (Go.Operand.tmp 2), type := 30, pos := _, after := #[{ on := 5, ground := Go.Ground.guard }], guard := some (5, true) }) (v := ?_) rfl (by kernel_rfl) (by kernel_rfl) (by kernel_rfl) (fun _ _ _ h => h) (Or.inl ⟨by rfl, ?_⟩) (by assumption) ?_
  rotate_left
  · intro w hSw; (try dsimp only at hSw); go_simp <;> first | with_reducible rfl | (rw [if_neg (by first | omega | (simp only [ByteArray.size_append] at *; omega))])
  simp only [Act.put, List.setIfInBounds_toArray, List.set_cons_zero, List.set_cons_succ]
  refine wpAnyH_ready (rs := [8]) (by kernel_rfl) (by simp) ?_
  refine AllReadyH.cons (o := { dst := some 13, op := Go.Op.buildSlice 28 2 #[(0, Go.Operand.tmp 11), (1, Go.Operand.tmp 12)], type := 28, pos := _, after := #[{ on := 6, ground := Go.Ground.data }, { on := 7, ground := Go.Ground.data }, { on := 5, ground := Go.Ground.guard }], guard := some (5, true) }) rfl (fun K hK => ?_) AllReadyH.nil
  go_simp
  go_wp2_with fail
  have SX4 := hid (st2 v3 13 exA exA _ _ (by decide) (stA _) (stA _))
  have K4 := hid (K3.out.keep ((Below.refl _ _).alloc (Nat.le_refl _) (.cells #[.int .u8 3, .int .i64 0, .string ⟨#[97]⟩, .slice none 0 0, .int .u8 3, .int .i64 0, .string ⟨#[97]⟩, .slice none 0 0] 30)))
  refine hK.out _ _ ?_ (fun hHeld4 => ?_)
  · exact K4.out.cells
  clear hK K
  have HG4 : ∃ G, G = v3.heap.size := ⟨_, rfl⟩
  refine wpAnyH_ready (rs := [9]) (by kernel_rfl) (by simp) ?_
  refine AllReadyH.cons (o := { dst := some 14, op := Go.Op.call { callee := Go.Callee.value (Go.Operand.func 45), args := #[Go.Operand.const (Go.Value.int Go.IntKind.u8 13), Go.Operand.tmp 13], argTypes := #[27, 28] }, type := 30, pos := _, after := #[{ on := 8, ground := Go.Ground.data }, { on := 5, ground := Go.Ground.chain }, { on := 5, ground := Go.Ground.guard }], guard := some (5, true) }) rfl (fun K hK => ?_) AllReadyH.nil
  go_simp
  refine (of_pl 13 _ _ _ _).mono ?_
  rintro e v5 ⟨rfl, hb5⟩
  have K5 := hid (K4.out.keep hb5)
  have SY5 := hid (SX4.out.keep hb5)
  go_wp2_with fail
  refine hK.out _ _ ?_ (fun hHeld5 => ?_)
  · exact K5.out.cells
  clear hK K
  refine wpAnyH_ready (rs := [11]) (by kernel_rfl) (by simp) ?_
  refine AllReadyH.cons (o := { dst := some 16, op := Go.Op.buildSlice 28 2 #[(0, Go.Operand.tmp 14), (1, Go.Operand.tmp 15)], type := 28, pos := _, after := #[{ on := 9, ground := Go.Ground.data }, { on := 10, ground := Go.Ground.data }, { on := 5, ground := Go.Ground.guard }], guard := some (5, true) }) rfl (fun K hK => ?_) AllReadyH.nil
  go_simp
  go_wp2_with fail
  have SX6 := hid (st2 v5 16 ⟨13, 0, ⟨#[]⟩, [exA, exA]⟩ exB _ _ (by decide) SY5.out (stB _))
  have K6 := hid (K5.out.keep ((Below.refl _ _).alloc (Nat.le_refl _) (.cells #[.int .u8 13, .int .i64 0, .string ⟨#[]⟩, .slice (some ⟨v3.heap.size, 0, none⟩) 2 2, .int .u8 3, .int .i64 0, .string ⟨#[98]⟩, .slice none 0 0] 30)))
  refine hK.out _ _ ?_ (fun hHeld6 => ?_)
  · exact K6.out.cells
  clear hK K
  have HG6 : ∃ G, G = v5.heap.size := ⟨_, rfl⟩
  refine wpAnyH_ready (rs := [12]) (by kernel_rfl) (by simp) ?_
  refine AllReadyH.cons (o := { dst := some 17, op := Go.Op.call { callee := Go.Callee.value (Go.Operand.func 45), args := #[Go.Operand.const (Go.Value.int Go.IntKind.u8 16), Go.Operand.tmp 16], argTypes := #[27, 28] }, type := 30, pos := _, after := #[{ on := 11, ground := Go.Ground.data }, { on := 9, ground := Go.Ground.chain }, { on := 5, ground := Go.Ground.guard }], guard := some (5, true) }) rfl (fun K hK => ?_) AllReadyH.nil
  go_simp
  refine (of_pl 16 _ _ _ _).mono ?_
  rintro e v7 ⟨rfl, hb7⟩
  have K7 := hid (K6.out.keep hb7)
  have SY7 := hid (SX6.out.keep hb7)
  go_wp2_with fail
  refine hK.out _ _ ?_ (fun hHeld7 => ?_)
  · exact K7.out.cells
  clear hK K
  refine wpAnyH_ready (rs := [13]) (by kernel_rfl) (by simp) ?_
  refine AllReadyH.cons (o := { dst := some 18, op := Go.Op.call { callee := Go.Callee.value (Go.Operand.func 44), args := #[Go.Operand.tmp 17, Go.Operand.const (Go.Value.int Go.IntKind.u8 2), Go.Operand.const (Go.Value.int Go.IntKind.i64 0)], argTypes := #[30, 35, 36] }, type := 4, pos := _, after := #[{ on := 12, ground := Go.Ground.data }, { on := 12, ground := Go.Ground.chain }, { on := 5, ground := Go.Ground.guard }], guard := some (5, true) }) rfl (fun K hK => ?_) AllReadyH.nil
  go_simp
  refine (is_at _ _ _ t2 _ _ SY7.out K7.out.R K7.out.J).mono ?_
  rintro e v8 ⟨rfl, hb8⟩
  have K8 := hid (K7.out.keep hb8)
  go_wp2_with fail
  refine hK.out _ _ ?_ (fun hHeld8 => ?_)
  · exact K8.out.cells
  clear hK K
  clear hb8
  refine wpAnyH_take (i := 14) (oi := { dst := some 19, op := Go.Op.pick (Go.Operand.tmp 10) (Go.Operand.tmp 18) (Go.Operand.const (Go.Value.bool false)), type := 4, pos := _, after := #[{ on := 5, ground := Go.Ground.data }, { on := 13, ground := Go.Ground.data }], guard := none }) (v := ?_) rfl (by kernel_rfl) (by kernel_rfl) (by kernel_rfl) (fun _ _ _ h => h) (Or.inl ⟨by rfl, ?_⟩) (by assumption) ?_
  rotate_left
  · intro w hSw; (try dsimp only at hSw); go_simp <;> first | with_reducible rfl | (rw [if_neg (by first | omega | (simp only [ByteArray.size_append] at *; omega))])
  simp only [Act.put, List.setIfInBounds_toArray, List.set_cons_zero, List.set_cons_succ]
  refine wpAnyH_take (i := 15) (oi := { dst := some 20, op := Go.Op.move (Go.Operand.tmp 19), type := 4, pos := _, after := #[{ on := 14, ground := Go.Ground.data }, { on := 13, ground := Go.Ground.chain }], guard := none }) (v := ?_) rfl (by kernel_rfl) (by kernel_rfl) (by kernel_rfl) (fun _ _ _ h => h) (Or.inl ⟨by rfl, ?_⟩) (by assumption) ?_
  rotate_left
  · intro w hSw; (try dsimp only at hSw); go_simp <;> first | with_reducible rfl | (rw [if_neg (by first | omega | (simp only [ByteArray.size_append] at *; omega))])
  simp only [Act.put, List.setIfInBounds_toArray, List.set_cons_zero, List.set_cons_succ]
  refine wpAnyH_take (i := 16) (oi := { dst := some 21, op := Go.Op.load 30 (Go.Operand.tmp 2), type := 30, pos := _, after := #[{ on := 15, ground := Go.Ground.guard }], guard := some (15, true) }) (v := ?_) rfl (by kernel_rfl) (by kernel_rfl) (by kernel_rfl) (fun _ _ _ h => h) (Or.inl ⟨by rfl, ?_⟩) (by assumption) ?_
  rotate_left
  · intro w hSw; (try dsimp only at hSw); go_simp <;> first | with_reducible rfl | (rw [if_neg (by first | omega | (simp only [ByteArray.size_append] at *; omega))])
  simp only [Act.put, List.setIfInBounds_toArray, List.set_cons_zero, List.set_cons_succ]
  refine wpAnyH_take (i := 17) (oi := { dst := some 22, op := Go.Op.load 30 (Go.Operand.tmp 1), type := 30, pos := _, after := #[{ on := 15, ground := Go.Ground.guard }], guard := some (15, true) }) (v := ?_) rfl (by kernel_rfl) (by kernel_rfl) (by kernel_rfl) (fun _ _ _ h => h) (Or.inl ⟨by rfl, ?_⟩) (by assumption) ?_
  rotate_left
  · intro w hSw; (try dsimp only at hSw); go_simp <;> first | with_reducible rfl | (rw [if_neg (by first | omega | (simp only [ByteArray.size_append] at *; omega))])
  simp only [Act.put, List.setIfInBounds_toArray, List.set_cons_zero, List.set_cons_succ]
  refine wpAnyH_take (i := 18) (oi := { dst := some 23, op := Go.Op.load 30 (Go.Operand.tmp 1), type := 30, pos := _, after := #[{ on := 15, ground := Go.Ground.guard }], guard := some (15, true) }) (v := ?_) rfl (by kernel_rfl) (by kernel_rfl) (by kernel_rfl) (fun _ _ _ h => h) (Or.inl ⟨by rfl, ?_⟩) (by assumption) ?_
  rotate_left
  · intro w hSw; (try dsimp only at hSw); go_simp <;> first | with_reducible rfl | (rw [if_neg (by first | omega | (simp only [ByteArray.size_append] at *; omega))])
  simp only [Act.put, List.setIfInBounds_toArray, List.set_cons_zero, List.set_cons_succ]
  refine wpAnyH_ready (rs := [19]) (by kernel_rfl) (by simp) ?_
  refine AllReadyH.cons (o := { dst := some 24, op := Go.Op.buildSlice 28 1 #[(0, Go.Operand.tmp 23)], type := 28, pos := _, after := #[{ on := 18, ground := Go.Ground.data }, { on := 15, ground := Go.Ground.guard }], guard := some (15, true) }) rfl (fun K hK => ?_) AllReadyH.nil
  go_simp
  go_wp2_with fail
  have SX9 := hid (st1 v8 4 exA _ (by decide) (stA _))
  have K9 := hid (K8.out.keep ((Below.refl _ _).alloc (Nat.le_refl _) (.cells #[.int .u8 3, .int .i64 0, .string ⟨#[97]⟩, .slice none 0 0] 30)))
  refine hK.out _ _ ?_ (fun hHeld9 => ?_)
  · exact K9.out.cells
  clear hK K
  have HG9 : ∃ G, G = v8.heap.size := ⟨_, rfl⟩
  refine wpAnyH_ready (rs := [20]) (by kernel_rfl) (by simp) ?_
  refine AllReadyH.cons (o := { dst := some 25, op := Go.Op.call { callee := Go.Callee.value (Go.Operand.func 45), args := #[Go.Operand.const (Go.Value.int Go.IntKind.u8 4), Go.Operand.tmp 24], argTypes := #[27, 28] }, type := 30, pos := _, after := #[{ on := 19, ground := Go.Ground.data }, { on := 15, ground := Go.Ground.chain }, { on := 15, ground := Go.Ground.guard }], guard := some (15, true) }) rfl (fun K hK => ?_) AllReadyH.nil
  go_simp
  refine (of_pl 4 _ _ _ _).mono ?_
  rintro e v10 ⟨rfl, hb10⟩
  have K10 := hid (K9.out.keep hb10)
  have SY10 := hid (SX9.out.keep hb10)
  go_wp2_with fail
  refine hK.out _ _ ?_ (fun hHeld10 => ?_)
  · exact K10.out.cells
  clear hK K
  refine wpAnyH_ready (rs := [21]) (by kernel_rfl) (by simp) ?_
  refine AllReadyH.cons (o := { dst := some 26, op := Go.Op.buildSlice 28 3 #[(0, Go.Operand.tmp 21), (1, Go.Operand.tmp 22), (2, Go.Operand.tmp 25)], type := 28, pos := _, after := #[{ on := 16, ground := Go.Ground.data }, { on := 17, ground := Go.Ground.data }, { on := 20, ground := Go.Ground.data }, { on := 15, ground := Go.Ground.guard }], guard := some (15, true) }) rfl (fun K hK => ?_) AllReadyH.nil
  go_simp
  go_wp2_with fail
  have SX11 := hid (st3 v10 17 exB exA ⟨4, 0, ⟨#[]⟩, [exA]⟩ _ _ _ (by decide) (stB _) (stA _) SY10.out)
  have K11 := hid (K10.out.keep ((Below.refl _ _).alloc (Nat.le_refl _) (.cells #[.int .u8 3, .int .i64 0, .string ⟨#[98]⟩, .slice none 0 0, .int .u8 3, .int .i64 0, .string ⟨#[97]⟩, .slice none 0 0, .int .u8 4, .int .i64 0, .string ⟨#[]⟩, .slice (some ⟨v8.heap.size, 0, none⟩) 1 1] 30)))
  refine hK.out _ _ ?_ (fun hHeld11 => ?_)
  · exact K11.out.cells
  clear hK K
  have HG11 : ∃ G, G = v10.heap.size := ⟨_, rfl⟩
  refine wpAnyH_ready (rs := [22]) (by kernel_rfl) (by simp) ?_
  refine AllReadyH.cons (o := { dst := some 27, op := Go.Op.call { callee := Go.Callee.value (Go.Operand.func 45), args := #[Go.Operand.const (Go.Value.int Go.IntKind.u8 17), Go.Operand.tmp 26], argTypes := #[27, 28] }, type := 30, pos := _, after := #[{ on := 21, ground := Go.Ground.data }, { on := 20, ground := Go.Ground.chain }, { on := 15, ground := Go.Ground.guard }], guard := some (15, true) }) rfl (fun K hK => ?_) AllReadyH.nil
  go_simp
  refine (of_pl 17 _ _ _ _).mono ?_
  rintro e v12 ⟨rfl, hb12⟩
  have K12 := hid (K11.out.keep hb12)
  have SY12 := hid (SX11.out.keep hb12)
  go_wp2_with fail
  refine hK.out _ _ ?_ (fun hHeld12 => ?_)
  · exact K12.out.cells
  clear hK K
  refine wpAnyH_ready (rs := [23]) (by kernel_rfl) (by simp) ?_
  refine AllReadyH.cons (o := { dst := some 28, op := Go.Op.call { callee := Go.Callee.value (Go.Operand.func 44), args := #[Go.Operand.tmp 27, Go.Operand.const (Go.Value.int Go.IntKind.u8 1), Go.Operand.const (Go.Value.int Go.IntKind.i64 0)], argTypes := #[30, 35, 36] }, type := 4, pos := _, after := #[{ on := 22, ground := Go.Ground.data }, { on := 22, ground := Go.Ground.chain }, { on := 15, ground := Go.Ground.guard }], guard := some (15, true) }) rfl (fun K hK => ?_) AllReadyH.nil
  go_simp
  refine (is_at _ _ _ t3 _ _ SY12.out K12.out.R K12.out.J).mono ?_
  rintro e v13 ⟨rfl, hb13⟩
  have K13 := hid (K12.out.keep hb13)
  go_wp2_with fail
  refine hK.out _ _ ?_ (fun hHeld13 => ?_)
  · exact K13.out.cells
  clear hK K
  clear hb13
  refine wpAnyH_take (i := 24) (oi := { dst := some 29, op := Go.Op.pick (Go.Operand.tmp 20) (Go.Operand.tmp 28) (Go.Operand.const (Go.Value.bool false)), type := 4, pos := _, after := #[{ on := 15, ground := Go.Ground.data }, { on := 23, ground := Go.Ground.data }], guard := none }) (v := ?_) rfl (by kernel_rfl) (by kernel_rfl) (by kernel_rfl) (fun _ _ _ h => h) (Or.inl ⟨by rfl, ?_⟩) (by assumption) ?_
  rotate_left
  · intro w hSw; (try dsimp only at hSw); go_simp <;> first | with_reducible rfl | (rw [if_neg (by first | omega | (simp only [ByteArray.size_append] at *; omega))])
  simp only [Act.put, List.setIfInBounds_toArray, List.set_cons_zero, List.set_cons_succ]
  refine wpAnyH_take (i := 25) (oi := { dst := some 30, op := Go.Op.move (Go.Operand.tmp 29), type := 4, pos := _, after := #[{ on := 24, ground := Go.Ground.data }, { on := 23, ground := Go.Ground.chain }], guard := none }) (v := ?_) rfl (by kernel_rfl) (by kernel_rfl) (by kernel_rfl) (fun _ _ _ h => h) (Or.inl ⟨by rfl, ?_⟩) (by assumption) ?_
  rotate_left
  · intro w hSw; (try dsimp only at hSw); go_simp <;> first | with_reducible rfl | (rw [if_neg (by first | omega | (simp only [ByteArray.size_append] at *; omega))])
  simp only [Act.put, List.setIfInBounds_toArray, List.set_cons_zero, List.set_cons_succ]
  refine wpAnyH_take (i := 26) (oi := { dst := some 31, op := Go.Op.load 30 (Go.Operand.tmp 1), type := 30, pos := _, after := #[{ on := 25, ground := Go.Ground.guard }], guard := some (25, true) }) (v := ?_) rfl (by kernel_rfl) (by kernel_rfl) (by kernel_rfl) (fun _ _ _ h => h) (Or.inl ⟨by rfl, ?_⟩) (by assumption) ?_
  rotate_left
  · intro w hSw; (try dsimp only at hSw); go_simp <;> first | with_reducible rfl | (rw [if_neg (by first | omega | (simp only [ByteArray.size_append] at *; omega))])
  simp only [Act.put, List.setIfInBounds_toArray, List.set_cons_zero, List.set_cons_succ]
  refine wpAnyH_take (i := 27) (oi := { dst := some 32, op := Go.Op.load 30 (Go.Operand.tmp 1), type := 30, pos := _, after := #[{ on := 25, ground := Go.Ground.guard }], guard := some (25, true) }) (v := ?_) rfl (by kernel_rfl) (by kernel_rfl) (by kernel_rfl) (fun _ _ _ h => h) (Or.inl ⟨by rfl, ?_⟩) (by assumption) ?_
  rotate_left
  · intro w hSw; (try dsimp only at hSw); go_simp <;> first | with_reducible rfl | (rw [if_neg (by first | omega | (simp only [ByteArray.size_append] at *; omega))])
  simp only [Act.put, List.setIfInBounds_toArray, List.set_cons_zero, List.set_cons_succ]
  refine wpAnyH_ready (rs := [28]) (by kernel_rfl) (by simp) ?_
  refine AllReadyH.cons (o := { dst := some 33, op := Go.Op.buildSlice 28 1 #[(0, Go.Operand.tmp 32)], type := 28, pos := _, after := #[{ on := 27, ground := Go.Ground.data }, { on := 25, ground := Go.Ground.guard }], guard := some (25, true) }) rfl (fun K hK => ?_) AllReadyH.nil
  go_simp
  go_wp2_with fail
  have SX14 := hid (st1 v13 19 exA _ (by decide) (stA _))
  have K14 := hid (K13.out.keep ((Below.refl _ _).alloc (Nat.le_refl _) (.cells #[.int .u8 3, .int .i64 0, .string ⟨#[97]⟩, .slice none 0 0] 30)))
  refine hK.out _ _ ?_ (fun hHeld14 => ?_)
  · exact K14.out.cells
  clear hK K
  have HG14 : ∃ G, G = v13.heap.size := ⟨_, rfl⟩
  refine wpAnyH_ready (rs := [29]) (by kernel_rfl) (by simp) ?_
  refine AllReadyH.cons (o := { dst := some 34, op := Go.Op.call { callee := Go.Callee.value (Go.Operand.func 45), args := #[Go.Operand.const (Go.Value.int Go.IntKind.u8 19), Go.Operand.tmp 33], argTypes := #[27, 28] }, type := 30, pos := _, after := #[{ on := 28, ground := Go.Ground.data }, { on := 25, ground := Go.Ground.chain }, { on := 25, ground := Go.Ground.guard }], guard := some (25, true) }) rfl (fun K hK => ?_) AllReadyH.nil
  go_simp
  refine (of_pl 19 _ _ _ _).mono ?_
  rintro e v15 ⟨rfl, hb15⟩
  have K15 := hid (K14.out.keep hb15)
  have SY15 := hid (SX14.out.keep hb15)
  go_wp2_with fail
  refine hK.out _ _ ?_ (fun hHeld15 => ?_)
  · exact K15.out.cells
  clear hK K
  refine wpAnyH_ready (rs := [30]) (by kernel_rfl) (by simp) ?_
  refine AllReadyH.cons (o := { dst := some 35, op := Go.Op.buildSlice 28 2 #[(0, Go.Operand.tmp 31), (1, Go.Operand.tmp 34)], type := 28, pos := _, after := #[{ on := 26, ground := Go.Ground.data }, { on := 29, ground := Go.Ground.data }, { on := 25, ground := Go.Ground.guard }], guard := some (25, true) }) rfl (fun K hK => ?_) AllReadyH.nil
  go_simp
  go_wp2_with fail
  have SX16 := hid (st2 v15 18 exA ⟨19, 0, ⟨#[]⟩, [exA]⟩ _ _ (by decide) (stA _) SY15.out)
  have K16 := hid (K15.out.keep ((Below.refl _ _).alloc (Nat.le_refl _) (.cells #[.int .u8 3, .int .i64 0, .string ⟨#[97]⟩, .slice none 0 0, .int .u8 19, .int .i64 0, .string ⟨#[]⟩, .slice (some ⟨v13.heap.size, 0, none⟩) 1 1] 30)))
  refine hK.out _ _ ?_ (fun hHeld16 => ?_)
  · exact K16.out.cells
  clear hK K
  have HG16 : ∃ G, G = v15.heap.size := ⟨_, rfl⟩
  refine wpAnyH_ready (rs := [31]) (by kernel_rfl) (by simp) ?_
  refine AllReadyH.cons (o := { dst := some 36, op := Go.Op.call { callee := Go.Callee.value (Go.Operand.func 45), args := #[Go.Operand.const (Go.Value.int Go.IntKind.u8 18), Go.Operand.tmp 35], argTypes := #[27, 28] }, type := 30, pos := _, after := #[{ on := 30, ground := Go.Ground.data }, { on := 29, ground := Go.Ground.chain }, { on := 25, ground := Go.Ground.guard }], guard := some (25, true) }) rfl (fun K hK => ?_) AllReadyH.nil
  go_simp
  refine (of_pl 18 _ _ _ _).mono ?_
  rintro e v17 ⟨rfl, hb17⟩
  have K17 := hid (K16.out.keep hb17)
  have SY17 := hid (SX16.out.keep hb17)
  go_wp2_with fail
  refine hK.out _ _ ?_ (fun hHeld17 => ?_)
  · exact K17.out.cells
  clear hK K
  refine wpAnyH_ready (rs := [32]) (by kernel_rfl) (by simp) ?_
  refine AllReadyH.cons (o := { dst := some 37, op := Go.Op.call { callee := Go.Callee.value (Go.Operand.func 44), args := #[Go.Operand.tmp 36, Go.Operand.const (Go.Value.int Go.IntKind.u8 1), Go.Operand.const (Go.Value.int Go.IntKind.i64 0)], argTypes := #[30, 35, 36] }, type := 4, pos := _, after := #[{ on := 31, ground := Go.Ground.data }, { on := 31, ground := Go.Ground.chain }, { on := 25, ground := Go.Ground.guard }], guard := some (25, true) }) rfl (fun K hK => ?_) AllReadyH.nil
  go_simp
  refine (is_at _ _ _ t4 _ _ SY17.out K17.out.R K17.out.J).mono ?_
  rintro e v18 ⟨rfl, hb18⟩
  have K18 := hid (K17.out.keep hb18)
  go_wp2_with fail
  refine hK.out _ _ ?_ (fun hHeld18 => ?_)
  · exact K18.out.cells
  clear hK K
  clear hb18
  refine wpAnyH_take (i := 33) (oi := { dst := some 38, op := Go.Op.pick (Go.Operand.tmp 30) (Go.Operand.tmp 37) (Go.Operand.const (Go.Value.bool false)), type := 4, pos := _, after := #[{ on := 25, ground := Go.Ground.data }, { on := 32, ground := Go.Ground.data }], guard := none }) (v := ?_) rfl (by kernel_rfl) (by kernel_rfl) (by kernel_rfl) (fun _ _ _ h => h) (Or.inl ⟨by rfl, ?_⟩) (by assumption) ?_
  rotate_left
  · intro w hSw; (try dsimp only at hSw); go_simp <;> first | with_reducible rfl | (rw [if_neg (by first | omega | (simp only [ByteArray.size_append] at *; omega))])
  simp only [Act.put, List.setIfInBounds_toArray, List.set_cons_zero, List.set_cons_succ]
  refine wpAnyH_take (i := 34) (oi := { dst := some 39, op := Go.Op.move (Go.Operand.tmp 38), type := 4, pos := _, after := #[{ on := 33, ground := Go.Ground.data }, { on := 32, ground := Go.Ground.chain }], guard := none }) (v := ?_) rfl (by kernel_rfl) (by kernel_rfl) (by kernel_rfl) (fun _ _ _ h => h) (Or.inl ⟨by rfl, ?_⟩) (by assumption) ?_
  rotate_left
  · intro w hSw; (try dsimp only at hSw); go_simp <;> first | with_reducible rfl | (rw [if_neg (by first | omega | (simp only [ByteArray.size_append] at *; omega))])
  simp only [Act.put, List.setIfInBounds_toArray, List.set_cons_zero, List.set_cons_succ]
  refine wpAnyH_take (i := 35) (oi := { dst := some 40, op := Go.Op.load 30 (Go.Operand.tmp 2), type := 30, pos := _, after := #[{ on := 34, ground := Go.Ground.guard }], guard := some (34, true) }) (v := ?_) rfl (by kernel_rfl) (by kernel_rfl) (by kernel_rfl) (fun _ _ _ h => h) (Or.inl ⟨by rfl, ?_⟩) (by assumption) ?_
  rotate_left
  · intro w hSw; (try dsimp only at hSw); go_simp <;> first | with_reducible rfl | (rw [if_neg (by first | omega | (simp only [ByteArray.size_append] at *; omega))])
  simp only [Act.put, List.setIfInBounds_toArray, List.set_cons_zero, List.set_cons_succ]
  refine wpAnyH_take (i := 36) (oi := { dst := some 41, op := Go.Op.load 30 (Go.Operand.tmp 2), type := 30, pos := _, after := #[{ on := 34, ground := Go.Ground.guard }], guard := some (34, true) }) (v := ?_) rfl (by kernel_rfl) (by kernel_rfl) (by kernel_rfl) (fun _ _ _ h => h) (Or.inl ⟨by rfl, ?_⟩) (by assumption) ?_
  rotate_left
  · intro w hSw; (try dsimp only at hSw); go_simp <;> first | with_reducible rfl | (rw [if_neg (by first | omega | (simp only [ByteArray.size_append] at *; omega))])
  simp only [Act.put, List.setIfInBounds_toArray, List.set_cons_zero, List.set_cons_succ]
  refine wpAnyH_ready (rs := [37]) (by kernel_rfl) (by simp) ?_
  refine AllReadyH.cons (o := { dst := some 42, op := Go.Op.buildSlice 28 2 #[(0, Go.Operand.tmp 40), (1, Go.Operand.tmp 41)], type := 28, pos := _, after := #[{ on := 35, ground := Go.Ground.data }, { on := 36, ground := Go.Ground.data }, { on := 34, ground := Go.Ground.guard }], guard := some (34, true) }) rfl (fun K hK => ?_) AllReadyH.nil
  go_simp
  go_wp2_with fail
  have SX19 := hid (st2 v18 11 exB exB _ _ (by decide) (stB _) (stB _))
  have K19 := hid (K18.out.keep ((Below.refl _ _).alloc (Nat.le_refl _) (.cells #[.int .u8 3, .int .i64 0, .string ⟨#[98]⟩, .slice none 0 0, .int .u8 3, .int .i64 0, .string ⟨#[98]⟩, .slice none 0 0] 30)))
  refine hK.out _ _ ?_ (fun hHeld19 => ?_)
  · exact K19.out.cells
  clear hK K
  have HG19 : ∃ G, G = v18.heap.size := ⟨_, rfl⟩
  refine wpAnyH_ready (rs := [38]) (by kernel_rfl) (by simp) ?_
  refine AllReadyH.cons (o := { dst := some 43, op := Go.Op.call { callee := Go.Callee.value (Go.Operand.func 45), args := #[Go.Operand.const (Go.Value.int Go.IntKind.u8 11), Go.Operand.tmp 42], argTypes := #[27, 28] }, type := 30, pos := _, after := #[{ on := 37, ground := Go.Ground.data }, { on := 34, ground := Go.Ground.chain }, { on := 34, ground := Go.Ground.guard }], guard := some (34, true) }) rfl (fun K hK => ?_) AllReadyH.nil
  go_simp
  refine (of_pl 11 _ _ _ _).mono ?_
  rintro e v20 ⟨rfl, hb20⟩
  have K20 := hid (K19.out.keep hb20)
  have SY20 := hid (SX19.out.keep hb20)
  go_wp2_with fail
  refine hK.out _ _ ?_ (fun hHeld20 => ?_)
  · exact K20.out.cells
  clear hK K
  refine wpAnyH_ready (rs := [39]) (by kernel_rfl) (by simp) ?_
  refine AllReadyH.cons (o := { dst := some 44, op := Go.Op.call { callee := Go.Callee.value (Go.Operand.func 44), args := #[Go.Operand.tmp 43, Go.Operand.const (Go.Value.int Go.IntKind.u8 2), Go.Operand.const (Go.Value.int Go.IntKind.i64 0)], argTypes := #[30, 35, 36] }, type := 4, pos := _, after := #[{ on := 38, ground := Go.Ground.data }, { on := 38, ground := Go.Ground.chain }, { on := 34, ground := Go.Ground.guard }], guard := some (34, true) }) rfl (fun K hK => ?_) AllReadyH.nil
  go_simp
  refine (is_at _ _ _ t5 _ _ SY20.out K20.out.R K20.out.J).mono ?_
  rintro e v21 ⟨rfl, hb21⟩
  have K21 := hid (K20.out.keep hb21)
  go_wp2_with fail
  refine hK.out _ _ ?_ (fun hHeld21 => ?_)
  · exact K21.out.cells
  clear hK K
  clear hb21
  refine wpAnyH_take (i := 40) (oi := { dst := some 45, op := Go.Op.pick (Go.Operand.tmp 39) (Go.Operand.tmp 44) (Go.Operand.const (Go.Value.bool false)), type := 4, pos := _, after := #[{ on := 34, ground := Go.Ground.data }, { on := 39, ground := Go.Ground.data }], guard := none }) (v := ?_) rfl (by kernel_rfl) (by kernel_rfl) (by kernel_rfl) (fun _ _ _ h => h) (Or.inl ⟨by rfl, ?_⟩) (by assumption) ?_
  rotate_left
  · intro w hSw; (try dsimp only at hSw); go_simp <;> first | with_reducible rfl | (rw [if_neg (by first | omega | (simp only [ByteArray.size_append] at *; omega))])
  simp only [Act.put, List.setIfInBounds_toArray, List.set_cons_zero, List.set_cons_succ]
  refine wpAnyH_take (i := 41) (oi := { dst := some 46, op := Go.Op.move (Go.Operand.tmp 45), type := 4, pos := _, after := #[{ on := 40, ground := Go.Ground.data }, { on := 39, ground := Go.Ground.chain }], guard := none }) (v := ?_) rfl (by kernel_rfl) (by kernel_rfl) (by kernel_rfl) (fun _ _ _ h => h) (Or.inl ⟨by rfl, ?_⟩) (by assumption) ?_
  rotate_left
  · intro w hSw; (try dsimp only at hSw); go_simp <;> first | with_reducible rfl | (rw [if_neg (by first | omega | (simp only [ByteArray.size_append] at *; omega))])
  simp only [Act.put, List.setIfInBounds_toArray, List.set_cons_zero, List.set_cons_succ]
  refine wpAnyH_take (i := 42) (oi := { dst := some 47, op := Go.Op.load 30 (Go.Operand.tmp 1), type := 30, pos := _, after := #[{ on := 41, ground := Go.Ground.guard }], guard := some (41, true) }) (v := ?_) rfl (by kernel_rfl) (by kernel_rfl) (by kernel_rfl) (fun _ _ _ h => h) (Or.inl ⟨by rfl, ?_⟩) (by assumption) ?_
  rotate_left
  · intro w hSw; (try dsimp only at hSw); go_simp <;> first | with_reducible rfl | (rw [if_neg (by first | omega | (simp only [ByteArray.size_append] at *; omega))])
  simp only [Act.put, List.setIfInBounds_toArray, List.set_cons_zero, List.set_cons_succ]
  refine wpAnyH_take (i := 43) (oi := { dst := some 48, op := Go.Op.load 30 (Go.Operand.tmp 2), type := 30, pos := _, after := #[{ on := 41, ground := Go.Ground.guard }], guard := some (41, true) }) (v := ?_) rfl (by kernel_rfl) (by kernel_rfl) (by kernel_rfl) (fun _ _ _ h => h) (Or.inl ⟨by rfl, ?_⟩) (by assumption) ?_
  rotate_left
  · intro w hSw; (try dsimp only at hSw); go_simp <;> first | with_reducible rfl | (rw [if_neg (by first | omega | (simp only [ByteArray.size_append] at *; omega))])
  simp only [Act.put, List.setIfInBounds_toArray, List.set_cons_zero, List.set_cons_succ]
  refine wpAnyH_ready (rs := [44]) (by kernel_rfl) (by simp) ?_
  refine AllReadyH.cons (o := { dst := some 49, op := Go.Op.buildSlice 28 2 #[(0, Go.Operand.tmp 47), (1, Go.Operand.tmp 48)], type := 28, pos := _, after := #[{ on := 42, ground := Go.Ground.data }, { on := 43, ground := Go.Ground.data }, { on := 41, ground := Go.Ground.guard }], guard := some (41, true) }) rfl (fun K hK => ?_) AllReadyH.nil
  go_simp
  go_wp2_with fail
  have SX22 := hid (st2 v21 6 exA exB _ _ (by decide) (stA _) (stB _))
  have K22 := hid (K21.out.keep ((Below.refl _ _).alloc (Nat.le_refl _) (.cells #[.int .u8 3, .int .i64 0, .string ⟨#[97]⟩, .slice none 0 0, .int .u8 3, .int .i64 0, .string ⟨#[98]⟩, .slice none 0 0] 30)))
  refine hK.out _ _ ?_ (fun hHeld22 => ?_)
  · exact K22.out.cells
  clear hK K
  have HG22 : ∃ G, G = v21.heap.size := ⟨_, rfl⟩
  refine wpAnyH_ready (rs := [45]) (by kernel_rfl) (by simp) ?_
  refine AllReadyH.cons (o := { dst := some 50, op := Go.Op.call { callee := Go.Callee.value (Go.Operand.func 45), args := #[Go.Operand.const (Go.Value.int Go.IntKind.u8 6), Go.Operand.tmp 49], argTypes := #[27, 28] }, type := 30, pos := _, after := #[{ on := 44, ground := Go.Ground.data }, { on := 41, ground := Go.Ground.chain }, { on := 41, ground := Go.Ground.guard }], guard := some (41, true) }) rfl (fun K hK => ?_) AllReadyH.nil
  go_simp
  refine (of_pl 6 _ _ _ _).mono ?_
  rintro e v23 ⟨rfl, hb23⟩
  have K23 := hid (K22.out.keep hb23)
  have SY23 := hid (SX22.out.keep hb23)
  go_wp2_with fail
  refine hK.out _ _ ?_ (fun hHeld23 => ?_)
  · exact K23.out.cells
  clear hK K
  refine wpAnyH_ready (rs := [46]) (by kernel_rfl) (by simp) ?_
  refine AllReadyH.cons (o := { dst := some 51, op := Go.Op.call { callee := Go.Callee.value (Go.Operand.func 44), args := #[Go.Operand.tmp 50, Go.Operand.const (Go.Value.int Go.IntKind.u8 0), Go.Operand.const (Go.Value.int Go.IntKind.i64 7)], argTypes := #[30, 35, 36] }, type := 4, pos := _, after := #[{ on := 45, ground := Go.Ground.data }, { on := 45, ground := Go.Ground.chain }, { on := 41, ground := Go.Ground.guard }], guard := some (41, true) }) rfl (fun K hK => ?_) AllReadyH.nil
  go_simp
  refine (is_at _ _ _ t6 _ _ SY23.out K23.out.R K23.out.J).mono ?_
  rintro e v24 ⟨rfl, hb24⟩
  have K24 := hid (K23.out.keep hb24)
  go_wp2_with fail
  refine hK.out _ _ ?_ (fun hHeld24 => ?_)
  · exact K24.out.cells
  clear hK K
  clear hb24
  refine wpAnyH_take (i := 47) (oi := { dst := some 52, op := Go.Op.pick (Go.Operand.tmp 46) (Go.Operand.tmp 51) (Go.Operand.const (Go.Value.bool false)), type := 4, pos := _, after := #[{ on := 41, ground := Go.Ground.data }, { on := 46, ground := Go.Ground.data }], guard := none }) (v := ?_) rfl (by kernel_rfl) (by kernel_rfl) (by kernel_rfl) (fun _ _ _ h => h) (Or.inl ⟨by rfl, ?_⟩) (by assumption) ?_
  rotate_left
  · intro w hSw; (try dsimp only at hSw); go_simp <;> first | with_reducible rfl | (rw [if_neg (by first | omega | (simp only [ByteArray.size_append] at *; omega))])
  simp only [Act.put, List.setIfInBounds_toArray, List.set_cons_zero, List.set_cons_succ]
  refine wpAnyH_take (i := 48) (oi := { dst := some 53, op := Go.Op.move (Go.Operand.tmp 52), type := 4, pos := _, after := #[{ on := 47, ground := Go.Ground.data }, { on := 46, ground := Go.Ground.chain }], guard := none }) (v := ?_) rfl (by kernel_rfl) (by kernel_rfl) (by kernel_rfl) (fun _ _ _ h => h) (Or.inl ⟨by rfl, ?_⟩) (by assumption) ?_
  rotate_left
  · intro w hSw; (try dsimp only at hSw); go_simp <;> first | with_reducible rfl | (rw [if_neg (by first | omega | (simp only [ByteArray.size_append] at *; omega))])
  simp only [Act.put, List.setIfInBounds_toArray, List.set_cons_zero, List.set_cons_succ]
  refine wpAnyH_take (i := 49) (oi := { dst := some 54, op := Go.Op.load 30 (Go.Operand.tmp 1), type := 30, pos := _, after := #[{ on := 48, ground := Go.Ground.guard }], guard := some (48, true) }) (v := ?_) rfl (by kernel_rfl) (by kernel_rfl) (by kernel_rfl) (fun _ _ _ h => h) (Or.inl ⟨by rfl, ?_⟩) (by assumption) ?_
  rotate_left
  · intro w hSw; (try dsimp only at hSw); go_simp <;> first | with_reducible rfl | (rw [if_neg (by first | omega | (simp only [ByteArray.size_append] at *; omega))])
  simp only [Act.put, List.setIfInBounds_toArray, List.set_cons_zero, List.set_cons_succ]
  refine wpAnyH_take (i := 50) (oi := { dst := some 55, op := Go.Op.load 30 (Go.Operand.tmp 2), type := 30, pos := _, after := #[{ on := 48, ground := Go.Ground.guard }], guard := some (48, true) }) (v := ?_) rfl (by kernel_rfl) (by kernel_rfl) (by kernel_rfl) (fun _ _ _ h => h) (Or.inl ⟨by rfl, ?_⟩) (by assumption) ?_
  rotate_left
  · intro w hSw; (try dsimp only at hSw); go_simp <;> first | with_reducible rfl | (rw [if_neg (by first | omega | (simp only [ByteArray.size_append] at *; omega))])
  simp only [Act.put, List.setIfInBounds_toArray, List.set_cons_zero, List.set_cons_succ]
  refine wpAnyH_ready (rs := [51]) (by kernel_rfl) (by simp) ?_
  refine AllReadyH.cons (o := { dst := some 56, op := Go.Op.buildSlice 28 2 #[(0, Go.Operand.tmp 54), (1, Go.Operand.tmp 55)], type := 28, pos := _, after := #[{ on := 49, ground := Go.Ground.data }, { on := 50, ground := Go.Ground.data }, { on := 48, ground := Go.Ground.guard }], guard := some (48, true) }) rfl (fun K hK => ?_) AllReadyH.nil
  go_simp
  go_wp2_with fail
  have SX25 := hid (st2 v24 11 exA exB _ _ (by decide) (stA _) (stB _))
  have K25 := hid (K24.out.keep ((Below.refl _ _).alloc (Nat.le_refl _) (.cells #[.int .u8 3, .int .i64 0, .string ⟨#[97]⟩, .slice none 0 0, .int .u8 3, .int .i64 0, .string ⟨#[98]⟩, .slice none 0 0] 30)))
  refine hK.out _ _ ?_ (fun hHeld25 => ?_)
  · exact K25.out.cells
  clear hK K
  have HG25 : ∃ G, G = v24.heap.size := ⟨_, rfl⟩
  refine wpAnyH_ready (rs := [52]) (by kernel_rfl) (by simp) ?_
  refine AllReadyH.cons (o := { dst := some 57, op := Go.Op.call { callee := Go.Callee.value (Go.Operand.func 45), args := #[Go.Operand.const (Go.Value.int Go.IntKind.u8 11), Go.Operand.tmp 56], argTypes := #[27, 28] }, type := 30, pos := _, after := #[{ on := 51, ground := Go.Ground.data }, { on := 48, ground := Go.Ground.chain }, { on := 48, ground := Go.Ground.guard }], guard := some (48, true) }) rfl (fun K hK => ?_) AllReadyH.nil
  go_simp
  refine (of_pl 11 _ _ _ _).mono ?_
  rintro e v26 ⟨rfl, hb26⟩
  have K26 := hid (K25.out.keep hb26)
  have SY26 := hid (SX25.out.keep hb26)
  go_wp2_with fail
  refine hK.out _ _ ?_ (fun hHeld26 => ?_)
  · exact K26.out.cells
  clear hK K
  refine wpAnyH_ready (rs := [53]) (by kernel_rfl) (by simp) ?_
  refine AllReadyH.cons (o := { dst := some 58, op := Go.Op.call { callee := Go.Callee.value (Go.Operand.func 44), args := #[Go.Operand.tmp 57, Go.Operand.const (Go.Value.int Go.IntKind.u8 0), Go.Operand.const (Go.Value.int Go.IntKind.i64 7)], argTypes := #[30, 35, 36] }, type := 4, pos := _, after := #[{ on := 52, ground := Go.Ground.data }, { on := 52, ground := Go.Ground.chain }, { on := 48, ground := Go.Ground.guard }], guard := some (48, true) }) rfl (fun K hK => ?_) AllReadyH.nil
  go_simp
  refine (is_at _ _ _ t7 _ _ SY26.out K26.out.R K26.out.J).mono ?_
  rintro e v27 ⟨rfl, hb27⟩
  have K27 := hid (K26.out.keep hb27)
  go_wp2_with fail
  refine hK.out _ _ ?_ (fun hHeld27 => ?_)
  · exact K27.out.cells
  clear hK K
  clear hb27
  refine wpAnyH_take (i := 54) (oi := { dst := some 59, op := Go.Op.pick (Go.Operand.tmp 53) (Go.Operand.tmp 58) (Go.Operand.const (Go.Value.bool false)), type := 4, pos := _, after := #[{ on := 48, ground := Go.Ground.data }, { on := 53, ground := Go.Ground.data }], guard := none }) (v := ?_) rfl (by kernel_rfl) (by kernel_rfl) (by kernel_rfl) (fun _ _ _ h => h) (Or.inl ⟨by rfl, ?_⟩) (by assumption) ?_
  rotate_left
  · intro w hSw; (try dsimp only at hSw); go_simp <;> first | with_reducible rfl | (rw [if_neg (by first | omega | (simp only [ByteArray.size_append] at *; omega))])
  simp only [Act.put, List.setIfInBounds_toArray, List.set_cons_zero, List.set_cons_succ]
  refine wpAnyH_take (i := 55) (oi := { dst := some 60, op := Go.Op.move (Go.Operand.tmp 59), type := 4, pos := _, after := #[{ on := 54, ground := Go.Ground.data }, { on := 53, ground := Go.Ground.chain }], guard := none }) (v := ?_) rfl (by kernel_rfl) (by kernel_rfl) (by kernel_rfl) (fun _ _ _ h => h) (Or.inl ⟨by rfl, ?_⟩) (by assumption) ?_
  rotate_left
  · intro w hSw; (try dsimp only at hSw); go_simp <;> first | with_reducible rfl | (rw [if_neg (by first | omega | (simp only [ByteArray.size_append] at *; omega))])
  simp only [Act.put, List.setIfInBounds_toArray, List.set_cons_zero, List.set_cons_succ]
  refine wpAnyH_take (i := 57) (oi := { dst := some 62, op := Go.Op.build 30 #[(0, Go.Operand.const (Go.Value.int Go.IntKind.u8 2))], type := 30, pos := _, after := #[{ on := 55, ground := Go.Ground.guard }], guard := some (55, true) }) (v := ?_) rfl (by kernel_rfl) (by kernel_rfl) (by kernel_rfl) (fun _ _ _ h => h) (Or.inl ⟨by rfl, ?_⟩) (by assumption) ?_
  rotate_left
  · intro w hSw; (try dsimp only at hSw); go_simp <;> first | with_reducible rfl | (rw [if_neg (by first | omega | (simp only [ByteArray.size_append] at *; omega))])
  simp only [Act.put, List.setIfInBounds_toArray, List.set_cons_zero, List.set_cons_succ]
  refine wpAnyH_ready (rs := [56]) (by kernel_rfl) (by simp) ?_
  refine AllReadyH.cons (o := { dst := some 61, op := Go.Op.call { callee := Go.Callee.value (Go.Operand.func 43), args := #[Go.Operand.const (Go.Value.string { data := #[99] })], argTypes := #[9] }, type := 30, pos := _, after := #[{ on := 55, ground := Go.Ground.chain }, { on := 55, ground := Go.Ground.guard }], guard := some (55, true) }) rfl (fun K hK => ?_) AllReadyH.nil
  go_simp
  refine (name_at ⟨#[99]⟩ _).mono ?_
  rintro e v28 ⟨rfl, hb28⟩
  have K28 := hid (K27.out.keep hb28)
  go_wp2_with fail
  refine hK.out _ _ ?_ (fun hHeld28 => ?_)
  · exact K28.out.cells
  clear hK K
  refine wpAnyH_ready (rs := [58]) (by kernel_rfl) (by simp) ?_
  refine AllReadyH.cons (o := { dst := some 63, op := Go.Op.buildSlice 28 2 #[(0, Go.Operand.tmp 61), (1, Go.Operand.tmp 62)], type := 28, pos := _, after := #[{ on := 56, ground := Go.Ground.data }, { on := 57, ground := Go.Ground.data }, { on := 55, ground := Go.Ground.guard }], guard := some (55, true) }) rfl (fun K hK => ?_) AllReadyH.nil
  go_simp
  go_wp2_with fail
  have SX29 := hid (st2 v28 6 exC exD _ _ (by decide) (stC _) (stD _))
  have K29 := hid (K28.out.keep ((Below.refl _ _).alloc (Nat.le_refl _) (.cells #[.int .u8 3, .int .i64 0, .string ⟨#[99]⟩, .slice none 0 0, .int .u8 2, .int .i64 0, .string ⟨#[]⟩, .slice none 0 0] 30)))
  refine hK.out _ _ ?_ (fun hHeld29 => ?_)
  · exact K29.out.cells
  clear hK K
  have HG29 : ∃ G, G = v28.heap.size := ⟨_, rfl⟩
  refine wpAnyH_ready (rs := [59]) (by kernel_rfl) (by simp) ?_
  refine AllReadyH.cons (o := { dst := some 64, op := Go.Op.call { callee := Go.Callee.value (Go.Operand.func 45), args := #[Go.Operand.const (Go.Value.int Go.IntKind.u8 6), Go.Operand.tmp 63], argTypes := #[27, 28] }, type := 30, pos := _, after := #[{ on := 58, ground := Go.Ground.data }, { on := 56, ground := Go.Ground.chain }, { on := 55, ground := Go.Ground.guard }], guard := some (55, true) }) rfl (fun K hK => ?_) AllReadyH.nil
  go_simp
  refine (of_pl 6 _ _ _ _).mono ?_
  rintro e v30 ⟨rfl, hb30⟩
  have K30 := hid (K29.out.keep hb30)
  have SY30 := hid (SX29.out.keep hb30)
  go_wp2_with fail
  refine hK.out _ _ ?_ (fun hHeld30 => ?_)
  · exact K30.out.cells
  clear hK K
  refine wpAnyH_ready (rs := [60]) (by kernel_rfl) (by simp) ?_
  refine AllReadyH.cons (o := { dst := some 65, op := Go.Op.call { callee := Go.Callee.value (Go.Operand.func 44), args := #[Go.Operand.tmp 64, Go.Operand.const (Go.Value.int Go.IntKind.u8 0), Go.Operand.const (Go.Value.int Go.IntKind.i64 6)], argTypes := #[30, 35, 36] }, type := 4, pos := _, after := #[{ on := 59, ground := Go.Ground.data }, { on := 59, ground := Go.Ground.chain }, { on := 55, ground := Go.Ground.guard }], guard := some (55, true) }) rfl (fun K hK => ?_) AllReadyH.nil
  go_simp
  refine (is_at _ _ _ t8 _ _ SY30.out K30.out.R K30.out.J).mono ?_
  rintro e v31 ⟨rfl, hb31⟩
  have K31 := hid (K30.out.keep hb31)
  go_wp2_with fail
  refine hK.out _ _ ?_ (fun hHeld31 => ?_)
  · exact K31.out.cells
  clear hK K
  clear hb31
  refine wpAnyH_take (i := 61) (oi := { dst := some 66, op := Go.Op.pick (Go.Operand.tmp 60) (Go.Operand.tmp 65) (Go.Operand.const (Go.Value.bool false)), type := 4, pos := _, after := #[{ on := 55, ground := Go.Ground.data }, { on := 60, ground := Go.Ground.data }], guard := none }) (v := ?_) rfl (by kernel_rfl) (by kernel_rfl) (by kernel_rfl) (fun _ _ _ h => h) (Or.inl ⟨by rfl, ?_⟩) (by assumption) ?_
  rotate_left
  · intro w hSw; (try dsimp only at hSw); go_simp <;> first | with_reducible rfl | (rw [if_neg (by first | omega | (simp only [ByteArray.size_append] at *; omega))])
  simp only [Act.put, List.setIfInBounds_toArray, List.set_cons_zero, List.set_cons_succ]
  refine wpAnyH_take (i := 62) (oi := { dst := some 67, op := Go.Op.move (Go.Operand.tmp 66), type := 4, pos := _, after := #[{ on := 61, ground := Go.Ground.data }, { on := 60, ground := Go.Ground.chain }], guard := none }) (v := ?_) rfl (by kernel_rfl) (by kernel_rfl) (by kernel_rfl) (fun _ _ _ h => h) (Or.inl ⟨by rfl, ?_⟩) (by assumption) ?_
  rotate_left
  · intro w hSw; (try dsimp only at hSw); go_simp <;> first | with_reducible rfl | (rw [if_neg (by first | omega | (simp only [ByteArray.size_append] at *; omega))])
  simp only [Act.put, List.setIfInBounds_toArray, List.set_cons_zero, List.set_cons_succ]
  refine wpAnyH_take (i := 63) (oi := { dst := some 68, op := Go.Op.build 30 #[], type := 30, pos := _, after := #[{ on := 62, ground := Go.Ground.guard }], guard := some (62, true) }) (v := ?_) rfl (by kernel_rfl) (by kernel_rfl) (by kernel_rfl) (fun _ _ _ h => h) (Or.inl ⟨by rfl, ?_⟩) (by assumption) ?_
  rotate_left
  · intro w hSw; (try dsimp only at hSw); go_simp <;> first | with_reducible rfl | (rw [if_neg (by first | omega | (simp only [ByteArray.size_append] at *; omega))])
  simp only [Act.put, List.setIfInBounds_toArray, List.set_cons_zero, List.set_cons_succ]
  refine wpAnyH_ready (rs := [64]) (by kernel_rfl) (by simp) ?_
  refine AllReadyH.cons (o := { dst := some 69, op := Go.Op.call { callee := Go.Callee.value (Go.Operand.func 44), args := #[Go.Operand.tmp 68, Go.Operand.const (Go.Value.int Go.IntKind.u8 0), Go.Operand.const (Go.Value.int Go.IntKind.i64 1)], argTypes := #[30, 35, 36] }, type := 4, pos := _, after := #[{ on := 63, ground := Go.Ground.data }, { on := 62, ground := Go.Ground.chain }, { on := 62, ground := Go.Ground.guard }], guard := some (62, true) }) rfl (fun K hK => ?_) AllReadyH.nil
  go_simp
  refine (is_at _ _ _ t9 _ _ (stZ _) K31.out.R K31.out.J).mono ?_
  rintro e v32 ⟨rfl, hb32⟩
  have K32 := hid (K31.out.keep hb32)
  go_wp2_with fail
  refine hK.out _ _ ?_ (fun hHeld32 => ?_)
  · exact K32.out.cells
  clear hK K
  clear hb32
  refine wpAnyH_take (i := 65) (oi := { dst := some 70, op := Go.Op.pick (Go.Operand.tmp 67) (Go.Operand.tmp 69) (Go.Operand.const (Go.Value.bool false)), type := 4, pos := _, after := #[{ on := 62, ground := Go.Ground.data }, { on := 64, ground := Go.Ground.data }], guard := none }) (v := ?_) rfl (by kernel_rfl) (by kernel_rfl) (by kernel_rfl) (fun _ _ _ h => h) (Or.inl ⟨by rfl, ?_⟩) (by assumption) ?_
  rotate_left
  · intro w hSw; (try dsimp only at hSw); go_simp <;> first | with_reducible rfl | (rw [if_neg (by first | omega | (simp only [ByteArray.size_append] at *; omega))])
  simp only [Act.put, List.setIfInBounds_toArray, List.set_cons_zero, List.set_cons_succ]
  refine wpAnyH_take (i := 66) (oi := { dst := some 71, op := Go.Op.move (Go.Operand.tmp 70), type := 4, pos := _, after := #[{ on := 65, ground := Go.Ground.data }, { on := 64, ground := Go.Ground.chain }], guard := none }) (v := ?_) rfl (by kernel_rfl) (by kernel_rfl) (by kernel_rfl) (fun _ _ _ h => h) (Or.inl ⟨by rfl, ?_⟩) (by assumption) ?_
  rotate_left
  · intro w hSw; (try dsimp only at hSw); go_simp <;> first | with_reducible rfl | (rw [if_neg (by first | omega | (simp only [ByteArray.size_append] at *; omega))])
  simp only [Act.put, List.setIfInBounds_toArray, List.set_cons_zero, List.set_cons_succ]
  refine wpAnyH_ready (rs := [67]) (by kernel_rfl) (by simp) ?_
  refine AllReadyH.cons (o := { dst := some 72, op := Go.Op.call { callee := Go.Callee.value (Go.Operand.func 46), args := #[], argTypes := #[] }, type := 26, pos := _, after := #[{ on := 66, ground := Go.Ground.chain }, { on := 66, ground := Go.Ground.guard }], guard := some (66, true) }) rfl (fun K hK => ?_) AllReadyH.nil
  go_simp
  refine (small_at _).mono ?_
  rintro e v33 ⟨sb, rfl, hP33, hb33⟩
  have K33 := hid (K32.out.keep hb33)
  have HP := hid hP33
  clear hP33
  go_wp2_with fail
  refine hK.out _ _ ?_ (fun hHeld33 => ?_)
  · exact K33.out.cells
  clear hK K
  refine wpAnyH_ready (rs := [68]) (by kernel_rfl) (by simp) ?_
  refine AllReadyH.cons (o := { dst := some 73, op := Go.Op.call { callee := Go.Callee.value (Go.Operand.func 17), args := #[Go.Operand.tmp 72], argTypes := #[26] }, type := 36, pos := _, after := #[{ on := 67, ground := Go.Ground.data }, { on := 67, ground := Go.Ground.chain }, { on := 66, ground := Go.Ground.guard }], guard := some (66, true) }) rfl (fun K hK => ?_) AllReadyH.nil
  go_simp
  refine (types_check smQ _ _ _ _ HP.out K33.out.R K33.out.J).mono ?_
  rintro e v34 ⟨rfl, hb34⟩
  rw [ckS]
  have K34 := hid (K33.out.keep hb34)
  go_wp2_with fail
  refine hK.out _ _ ?_ (fun hHeld34 => ?_)
  · exact K34.out.cells
  clear hK K
  refine wpAnyH_take (i := 69) (oi := { dst := some 74, op := Go.Op.binOp Go.BinOp.eql 36 (Go.Operand.tmp 73) (Go.Operand.const (Go.Value.int Go.IntKind.i64 0)) 36, type := 4, pos := _, after := #[{ on := 68, ground := Go.Ground.data }, { on := 66, ground := Go.Ground.guard }], guard := some (66, true) }) (v := ?_) rfl (by kernel_rfl) (by kernel_rfl) (by kernel_rfl) (fun _ _ _ h => h) (Or.inl ⟨by rfl, ?_⟩) (by assumption) ?_
  rotate_left
  · intro w hSw; (try dsimp only at hSw); go_simp <;> first | with_reducible rfl | (rw [if_neg (by first | omega | (simp only [ByteArray.size_append] at *; omega))])
  simp only [Act.put, List.setIfInBounds_toArray, List.set_cons_zero, List.set_cons_succ]
  refine wpAnyH_take (i := 70) (oi := { dst := some 75, op := Go.Op.pick (Go.Operand.tmp 71) (Go.Operand.tmp 74) (Go.Operand.const (Go.Value.bool false)), type := 4, pos := _, after := #[{ on := 66, ground := Go.Ground.data }, { on := 69, ground := Go.Ground.data }], guard := none }) (v := ?_) rfl (by kernel_rfl) (by kernel_rfl) (by kernel_rfl) (fun _ _ _ h => h) (Or.inl ⟨by rfl, ?_⟩) (by assumption) ?_
  rotate_left
  · intro w hSw; (try dsimp only at hSw); go_simp <;> first | with_reducible rfl | (rw [if_neg (by first | omega | (simp only [ByteArray.size_append] at *; omega))])
  simp only [Act.put, List.setIfInBounds_toArray, List.set_cons_zero, List.set_cons_succ]
  refine wpAnyH_take (i := 71) (oi := { dst := some 0, op := Go.Op.assign (Go.Operand.tmp 75), type := 4, pos := _, after := ([{ on := 70, ground := Go.Ground.data }, { on := 68, ground := Go.Ground.chain }, { on := 0, ground := Go.Ground.phase }, { on := 1, ground := Go.Ground.phase }, { on := 2, ground := Go.Ground.phase }, { on := 3, ground := Go.Ground.phase }, { on := 4, ground := Go.Ground.phase }, { on := 5, ground := Go.Ground.phase }, { on := 6, ground := Go.Ground.phase }, { on := 7, ground := Go.Ground.phase }, { on := 8, ground := Go.Ground.phase }, { on := 9, ground := Go.Ground.phase }, { on := 10, ground := Go.Ground.phase }, { on := 11, ground := Go.Ground.phase }, { on := 12, ground := Go.Ground.phase }, { on := 13, ground := Go.Ground.phase }, { on := 14, ground := Go.Ground.phase }, { on := 15, ground := Go.Ground.phase }, { on := 16, ground := Go.Ground.phase }, { on := 17, ground := Go.Ground.phase }, { on := 18, ground := Go.Ground.phase }, { on := 19, ground := Go.Ground.phase }, { on := 20, ground := Go.Ground.phase }, { on := 21, ground := Go.Ground.phase }, { on := 22, ground := Go.Ground.phase }, { on := 23, ground := Go.Ground.phase }, { on := 24, ground := Go.Ground.phase }, { on := 25, ground := Go.Ground.phase }, { on := 26, ground := Go.Ground.phase }, { on := 27, ground := Go.Ground.phase }, { on := 28, ground := Go.Ground.phase }, { on := 29, ground := Go.Ground.phase }, { on := 30, ground := Go.Ground.phase }, { on := 31, ground := Go.Ground.phase }, { on := 32, ground := Go.Ground.phase }, { on := 33, ground := Go.Ground.phase }].append [{ on := 34, ground := Go.Ground.phase }, { on := 35, ground := Go.Ground.phase }, { on := 36, ground := Go.Ground.phase }, { on := 37, ground := Go.Ground.phase }, { on := 38, ground := Go.Ground.phase }, { on := 39, ground := Go.Ground.phase }, { on := 40, ground := Go.Ground.phase }, { on := 41, ground := Go.Ground.phase }, { on := 42, ground := Go.Ground.phase }, { on := 43, ground := Go.Ground.phase }, { on := 44, ground := Go.Ground.phase }, { on := 45, ground := Go.Ground.phase }, { on := 46, ground := Go.Ground.phase }, { on := 47, ground := Go.Ground.phase }, { on := 48, ground := Go.Ground.phase }, { on := 49, ground := Go.Ground.phase }, { on := 50, ground := Go.Ground.phase }, { on := 51, ground := Go.Ground.phase }, { on := 52, ground := Go.Ground.phase }, { on := 53, ground := Go.Ground.phase }, { on := 54, ground := Go.Ground.phase }, { on := 55, ground := Go.Ground.phase }, { on := 56, ground := Go.Ground.phase }, { on := 57, ground := Go.Ground.phase }, { on := 58, ground := Go.Ground.phase }, { on := 59, ground := Go.Ground.phase }, { on := 60, ground := Go.Ground.phase }, { on := 61, ground := Go.Ground.phase }, { on := 62, ground := Go.Ground.phase }, { on := 63, ground := Go.Ground.phase }, { on := 64, ground := Go.Ground.phase }, { on := 65, ground := Go.Ground.phase }, { on := 66, ground := Go.Ground.phase }, { on := 67, ground := Go.Ground.phase }, { on := 68, ground := Go.Ground.phase }, { on := 69, ground := Go.Ground.phase }, { on := 70, ground := Go.Ground.phase }]).toArray, guard := none }) (v := ?_) rfl (by kernel_rfl) (by kernel_rfl) (by kernel_rfl) (fun _ _ _ h => h) (Or.inl ⟨by rfl, ?_⟩) (by assumption) ?_
  rotate_left
  · intro w hSw; (try dsimp only at hSw); go_simp <;> first | with_reducible rfl | (rw [if_neg (by first | omega | (simp only [ByteArray.size_append] at *; omega))])
  simp only [Act.put, List.setIfInBounds_toArray, List.set_cons_zero]
  refine wpAnyH_done (by kernel_rfl) ?_ _
  have hB := K34.out.below
  go_wp2_with (fail)
  go_ret
  exact ⟨rfl, hB⟩
end Go.Proofs.YtakjkhfglihggaaDoor.Lex
namespace Go.Proofs.YtakjkhfglihggaaDoor.Lex
open Go.ChangeShapes Go.WideShapes Go.ChangeAt Go.RowKit Go.Joins
/-- Of how many parts; below 0: none. -/
def manyI (op : Nat) : Int := if op = 1 ∨ op = 2 ∨ op = 3 then 0 else if 0 < parts op then (parts op : Int) else -1
theorem many_1 (w : World) : Calls Tryd.prog 78 #[.int .u8 (1 : Int)] w fun e w' => e = .returned (.int .i64 (manyI 1)) ∧ w' = w := by
  have h : manyI 1 = 0 := by decide
  rw [h]
  go_enter Tryd.func78, Tryd.ntmps78
  go_wp2
  go_ret
  exact ⟨rfl, rfl⟩
theorem many_2 (w : World) : Calls Tryd.prog 78 #[.int .u8 (2 : Int)] w fun e w' => e = .returned (.int .i64 (manyI 2)) ∧ w' = w := by
  have h : manyI 2 = 0 := by decide
  rw [h]
  go_enter Tryd.func78, Tryd.ntmps78
  go_wp2
  go_ret
  exact ⟨rfl, rfl⟩
theorem many_3 (w : World) : Calls Tryd.prog 78 #[.int .u8 (3 : Int)] w fun e w' => e = .returned (.int .i64 (manyI 3)) ∧ w' = w := by
  have h : manyI 3 = 0 := by decide
  rw [h]
  go_enter Tryd.func78, Tryd.ntmps78
  go_wp2
  go_ret
  exact ⟨rfl, rfl⟩
theorem many_4 (w : World) : Calls Tryd.prog 78 #[.int .u8 (4 : Int)] w fun e w' => e = .returned (.int .i64 (manyI 4)) ∧ w' = w := by
  have h : manyI 4 = 1 := by decide
  rw [h]
  go_enter Tryd.func78, Tryd.ntmps78
  go_wp2
  go_ret
  exact ⟨rfl, rfl⟩
theorem many_5 (w : World) : Calls Tryd.prog 78 #[.int .u8 (5 : Int)] w fun e w' => e = .returned (.int .i64 (manyI 5)) ∧ w' = w := by
  have h : manyI 5 = 1 := by decide
  rw [h]
  go_enter Tryd.func78, Tryd.ntmps78
  go_wp2
  go_ret
  exact ⟨rfl, rfl⟩
theorem many_6 (w : World) : Calls Tryd.prog 78 #[.int .u8 (6 : Int)] w fun e w' => e = .returned (.int .i64 (manyI 6)) ∧ w' = w := by
  have h : manyI 6 = 2 := by decide
  rw [h]
  go_enter Tryd.func78, Tryd.ntmps78
  go_wp2
  go_ret
  exact ⟨rfl, rfl⟩
theorem many_7 (w : World) : Calls Tryd.prog 78 #[.int .u8 (7 : Int)] w fun e w' => e = .returned (.int .i64 (manyI 7)) ∧ w' = w := by
  have h : manyI 7 = 2 := by decide
  rw [h]
  go_enter Tryd.func78, Tryd.ntmps78
  go_wp2
  go_ret
  exact ⟨rfl, rfl⟩
theorem many_8 (w : World) : Calls Tryd.prog 78 #[.int .u8 (8 : Int)] w fun e w' => e = .returned (.int .i64 (manyI 8)) ∧ w' = w := by
  have h : manyI 8 = 2 := by decide
  rw [h]
  go_enter Tryd.func78, Tryd.ntmps78
  go_wp2
  go_ret
  exact ⟨rfl, rfl⟩
theorem many_9 (w : World) : Calls Tryd.prog 78 #[.int .u8 (9 : Int)] w fun e w' => e = .returned (.int .i64 (manyI 9)) ∧ w' = w := by
  have h : manyI 9 = 2 := by decide
  rw [h]
  go_enter Tryd.func78, Tryd.ntmps78
  go_wp2
  go_ret
  exact ⟨rfl, rfl⟩
theorem many_10 (w : World) : Calls Tryd.prog 78 #[.int .u8 (10 : Int)] w fun e w' => e = .returned (.int .i64 (manyI 10)) ∧ w' = w := by
  have h : manyI 10 = 2 := by decide
  rw [h]
  go_enter Tryd.func78, Tryd.ntmps78
  go_wp2
  go_ret
  exact ⟨rfl, rfl⟩
theorem many_11 (w : World) : Calls Tryd.prog 78 #[.int .u8 (11 : Int)] w fun e w' => e = .returned (.int .i64 (manyI 11)) ∧ w' = w := by
  have h : manyI 11 = 2 := by decide
  rw [h]
  go_enter Tryd.func78, Tryd.ntmps78
  go_wp2
  go_ret
  exact ⟨rfl, rfl⟩
theorem many_12 (w : World) : Calls Tryd.prog 78 #[.int .u8 (12 : Int)] w fun e w' => e = .returned (.int .i64 (manyI 12)) ∧ w' = w := by
  have h : manyI 12 = 2 := by decide
  rw [h]
  go_enter Tryd.func78, Tryd.ntmps78
  go_wp2
  go_ret
  exact ⟨rfl, rfl⟩
theorem many_13 (w : World) : Calls Tryd.prog 78 #[.int .u8 (13 : Int)] w fun e w' => e = .returned (.int .i64 (manyI 13)) ∧ w' = w := by
  have h : manyI 13 = 2 := by decide
  rw [h]
  go_enter Tryd.func78, Tryd.ntmps78
  go_wp2
  go_ret
  exact ⟨rfl, rfl⟩
theorem many_14 (w : World) : Calls Tryd.prog 78 #[.int .u8 (14 : Int)] w fun e w' => e = .returned (.int .i64 (manyI 14)) ∧ w' = w := by
  have h : manyI 14 = 2 := by decide
  rw [h]
  go_enter Tryd.func78, Tryd.ntmps78
  go_wp2
  go_ret
  exact ⟨rfl, rfl⟩
theorem many_15 (w : World) : Calls Tryd.prog 78 #[.int .u8 (15 : Int)] w fun e w' => e = .returned (.int .i64 (manyI 15)) ∧ w' = w := by
  have h : manyI 15 = 2 := by decide
  rw [h]
  go_enter Tryd.func78, Tryd.ntmps78
  go_wp2
  go_ret
  exact ⟨rfl, rfl⟩
theorem many_16 (w : World) : Calls Tryd.prog 78 #[.int .u8 (16 : Int)] w fun e w' => e = .returned (.int .i64 (manyI 16)) ∧ w' = w := by
  have h : manyI 16 = 2 := by decide
  rw [h]
  go_enter Tryd.func78, Tryd.ntmps78
  go_wp2
  go_ret
  exact ⟨rfl, rfl⟩
theorem many_17 (w : World) : Calls Tryd.prog 78 #[.int .u8 (17 : Int)] w fun e w' => e = .returned (.int .i64 (manyI 17)) ∧ w' = w := by
  have h : manyI 17 = 3 := by decide
  rw [h]
  go_enter Tryd.func78, Tryd.ntmps78
  go_wp2
  go_ret
  exact ⟨rfl, rfl⟩
theorem many_18 (w : World) : Calls Tryd.prog 78 #[.int .u8 (18 : Int)] w fun e w' => e = .returned (.int .i64 (manyI 18)) ∧ w' = w := by
  have h : manyI 18 = 2 := by decide
  rw [h]
  go_enter Tryd.func78, Tryd.ntmps78
  go_wp2
  go_ret
  exact ⟨rfl, rfl⟩
theorem many_19 (w : World) : Calls Tryd.prog 78 #[.int .u8 (19 : Int)] w fun e w' => e = .returned (.int .i64 (manyI 19)) ∧ w' = w := by
  have h : manyI 19 = 1 := by decide
  rw [h]
  go_enter Tryd.func78, Tryd.ntmps78
  go_wp2
  go_ret
  exact ⟨rfl, rfl⟩
theorem jOf_far {op : Nat} (h : 20 ≤ op) : jOf op = none := by
  unfold jOf JT
  rw [List.find?_eq_none]
  intro r hr
  simp only [List.mem_cons, List.not_mem_nil, or_false] at hr
  rcases hr with rfl | rfl | rfl | rfl | rfl | rfl | rfl | rfl | rfl | rfl | rfl | rfl <;> simp <;> omega
theorem many_far {op : Nat} (h : op = 0 ∨ 20 ≤ op) : manyI op = -1 := by
  rcases h with rfl | h
  · decide
  · have hp : parts op = 0 := by unfold parts; rw [if_neg (by omega), if_neg (by omega), jOf_far h]; rfl
    unfold manyI
    rw [if_neg (by omega), hp]
    rfl
theorem many_any (op : Nat) (w : World) : Calls Tryd.prog 78 #[.int .u8 (op : Int)] w fun e w' => e = .returned (.int .i64 (manyI op)) ∧ w' = w := by
  by_cases hop : op = 0 ∨ 20 ≤ op
  · rw [many_far hop]
    have e1 := neN (a := op) (b := 1) (by omega)
    have e2 := neN (a := op) (b := 2) (by omega)
    have e3 := neN (a := op) (b := 3) (by omega)
    have e4 := neN (a := op) (b := 4) (by omega)
    have e5 := neN (a := op) (b := 5) (by omega)
    have e6 := neN (a := op) (b := 6) (by omega)
    have e7 := neN (a := op) (b := 7) (by omega)
    have e8 := neN (a := op) (b := 8) (by omega)
    have e9 := neN (a := op) (b := 9) (by omega)
    have e10 := neN (a := op) (b := 10) (by omega)
    have e11 := neN (a := op) (b := 11) (by omega)
    have e12 := neN (a := op) (b := 12) (by omega)
    have e13 := neN (a := op) (b := 13) (by omega)
    have e14 := neN (a := op) (b := 14) (by omega)
    have e15 := neN (a := op) (b := 15) (by omega)
    have e16 := neN (a := op) (b := 16) (by omega)
    have e17 := neN (a := op) (b := 17) (by omega)
    have e18 := neN (a := op) (b := 18) (by omega)
    have e19 := neN (a := op) (b := 19) (by omega)
    clear hop
    go_enter Tryd.func78, Tryd.ntmps78
    go_wp2
    go_ret
    exact ⟨rfl, rfl⟩
  · have h : op = 1 ∨ op = 2 ∨ op = 3 ∨ op = 4 ∨ op = 5 ∨ op = 6 ∨ op = 7 ∨ op = 8 ∨ op = 9 ∨ op = 10 ∨ op = 11 ∨ op = 12 ∨ op = 13 ∨ op = 14 ∨ op = 15 ∨ op = 16 ∨ op = 17 ∨ op = 18 ∨ op = 19 := by omega
    clear hop
    rcases h with rfl | rfl | rfl | rfl | rfl | rfl | rfl | rfl | rfl | rfl | rfl | rfl | rfl | rfl | rfl | rfl | rfl | rfl | rfl
    · exact many_1 w
    · exact many_2 w
    · exact many_3 w
    · exact many_4 w
    · exact many_5 w
    · exact many_6 w
    · exact many_7 w
    · exact many_8 w
    · exact many_9 w
    · exact many_10 w
    · exact many_11 w
    · exact many_12 w
    · exact many_13 w
    · exact many_14 w
    · exact many_15 w
    · exact many_16 w
    · exact many_17 w
    · exact many_18 w
    · exact many_19 w
/-- The fields but for the parts. -/
def fldOk (op : Nat) (n : Int) (nm : ByteArray) : Bool :=
  if op = 1 then decide (0 ≤ n) && decide (nm.size = 0)
  else if op = 2 then (decide (n = 0) || decide (n = 1)) && decide (nm.size = 0)
  else if op = 3 then decide (n = 0) && isName nm
  else decide (n = 0) && decide (nm.size = 0)
theorem fields_split (op : Nat) (n : Int) (nm : ByteArray) (len : Nat) : fieldsOk op n nm len = (decide (manyI op = (len : Int)) && fldOk op n nm) := by
  have hz : decide ((0 : Int) = (len : Int)) = decide (len = 0) := by
    by_cases h : len = 0
    · rw [decide_eq_true h, decide_eq_true (by omega)]
    · rw [decide_eq_false h, decide_eq_false (by omega)]
  unfold fieldsOk fldOk
  by_cases h1 : op = 1
  · rw [if_pos h1, if_pos h1, manyI, if_pos (.inl h1), hz]
    cases decide (0 ≤ n) <;> cases decide (nm.size = 0) <;> cases decide (len = 0) <;> rfl
  · rw [if_neg h1, if_neg h1]
    by_cases h2 : op = 2
    · rw [if_pos h2, if_pos h2, manyI, if_pos (.inr (.inl h2)), hz]
      cases (decide (n = 0) || decide (n = 1)) <;> cases decide (nm.size = 0) <;> cases decide (len = 0) <;> rfl
    · rw [if_neg h2, if_neg h2]
      by_cases h3 : op = 3
      · rw [if_pos h3, if_pos h3, manyI, if_pos (.inr (.inr h3)), hz]
        cases decide (n = 0) <;> cases isName nm <;> cases decide (len = 0) <;> rfl
      · rw [if_neg h3, if_neg h3, manyI, if_neg (by omega)]
        by_cases hp : 0 < parts op
        · rw [if_pos hp, decide_eq_true hp]
          have : decide ((parts op : Int) = (len : Int)) = decide (len = parts op) := by
            by_cases h : len = parts op
            · rw [decide_eq_true h, decide_eq_true (by omega)]
            · rw [decide_eq_false h, decide_eq_false (by omega)]
          rw [this]
          cases decide (n = 0) <;> cases decide (nm.size = 0) <;> cases decide (len = parts op) <;> rfl
        · have hl : decide ((-1 : Int) = (len : Int)) = false := decide_eq_false (by omega)
          rw [if_neg hp, decide_eq_false hp, hl]
          rfl
end Go.Proofs.YtakjkhfglihggaaDoor.Lex
namespace Go.Proofs.YtakjkhfglihggaaDoor.Lex
open Go.ChangeShapes Go.WideShapes Go.ChangeAt Go.RowKit Go.Joins
set_option linter.unusedVariables false
/-- A size, below 0 if there is none. -/
def szI : Option Nat → Int
  | none => -1
  | some k => (k : Int)
def RSzC (d : Nat) : Prop := ∀ (x : Ex) (w : World) (s : Value) (M : Nat), M ≤ 200 → St w x s → Calls Tryd.prog 63 #[exV x s, .int .i64 (d : Int), .int .i64 (M : Int)] w fun e w' => e = .returned (.int .i64 (szI (sz d M x))) ∧ Below w.heap.size w w'
theorem inn {a b : Int} (h : a = b) : (a != b) = false := by simp [h]
theorem inq {a b : Int} (h : ¬ a = b) : (a != b) = true := by simp [h]
theorem drewN_zero (w : World) : w.drewN 0 = w := rfl
set_option maxRecDepth 100000 in
set_option maxHeartbeats 1000000 in
theorem rs_d0 (x : Ex) (ao : Option Addr) (cap : Nat) (D M : Int) (w : World) (hD : (D == 0) = true) : Calls Tryd.prog 63 #[exV x (.slice ao x.args.length cap), .int .i64 D, .int .i64 M] w fun e w' => e = .returned (.int .i64 (-1)) ∧ Below w.heap.size w w' := by
  go_enter Tryd.func63, Tryd.ntmps63
  go_wp2
  go_quiet ((go_at_call 78; exact Calls.quiet_of_same (many_any _ _)))
  go_wp2
  go_ret
  exact ⟨rfl, below_drewN ((Below.refl _ _).alloc (Nat.le_refl _) _) _⟩
set_option maxRecDepth 100000 in
set_option maxHeartbeats 1000000 in
theorem rs_m0 (x : Ex) (ao : Option Addr) (cap : Nat) (D M : Int) (w : World) (hD : (D == 0) = false) (hM : (M == 0) = true) : Calls Tryd.prog 63 #[exV x (.slice ao x.args.length cap), .int .i64 D, .int .i64 M] w fun e w' => e = .returned (.int .i64 (-1)) ∧ Below w.heap.size w w' := by
  go_enter Tryd.func63, Tryd.ntmps63
  go_wp2
  go_quiet ((go_at_call 78; exact Calls.quiet_of_same (many_any _ _)))
  go_wp2
  go_ret
  exact ⟨rfl, below_drewN ((Below.refl _ _).alloc (Nat.le_refl _) _) _⟩
set_option maxRecDepth 100000 in
set_option maxHeartbeats 1000000 in
theorem rs_mn (x : Ex) (ao : Option Addr) (cap : Nat) (D M : Int) (w : World) (hD : (D == 0) = false) (hM : (M == 0) = false) (hm : (manyI x.op != (x.args.length : Int)) = true) : Calls Tryd.prog 63 #[exV x (.slice ao x.args.length cap), .int .i64 D, .int .i64 M] w fun e w' => e = .returned (.int .i64 (-1)) ∧ Below w.heap.size w w' := by
  go_enter Tryd.func63, Tryd.ntmps63
  go_wp2
  go_quiet ((go_at_call 78; exact Calls.quiet_of_same (many_any _ _)))
  go_wp2
  go_ret
  exact ⟨rfl, below_drewN ((Below.refl _ _).alloc (Nat.le_refl _) _) _⟩
set_option maxRecDepth 100000 in
set_option maxHeartbeats 1000000 in
theorem rs_1a (x : Ex) (ao : Option Addr) (cap : Nat) (D M : Int) (w : World) (hD : (D == 0) = false) (hM : (M == 0) = false) (hm : (manyI x.op != (x.args.length : Int)) = false) (e1 : ((x.op : Int) == 1) = true) (h0 : x.n < 0) : Calls Tryd.prog 63 #[exV x (.slice ao x.args.length cap), .int .i64 D, .int .i64 M] w fun e w' => e = .returned (.int .i64 (-1)) ∧ Below w.heap.size w w' := by
  go_enter Tryd.func63, Tryd.ntmps63
  go_wp2
  go_quiet ((go_at_call 78; exact Calls.quiet_of_same (many_any _ _)))
  go_wp2
  go_ret
  exact ⟨rfl, below_drewN ((Below.refl _ _).alloc (Nat.le_refl _) _) _⟩
set_option maxRecDepth 100000 in
set_option maxHeartbeats 1000000 in
theorem rs_1b (x : Ex) (ao : Option Addr) (cap : Nat) (D M : Int) (w : World) (hD : (D == 0) = false) (hM : (M == 0) = false) (hm : (manyI x.op != (x.args.length : Int)) = false) (e1 : ((x.op : Int) == 1) = true) (h0 : ¬ x.n < 0) (he : x.name.toList.isEmpty = false) : Calls Tryd.prog 63 #[exV x (.slice ao x.args.length cap), .int .i64 D, .int .i64 M] w fun e w' => e = .returned (.int .i64 (-1)) ∧ Below w.heap.size w w' := by
  go_enter Tryd.func63, Tryd.ntmps63
  go_wp2
  go_quiet ((go_at_call 78; exact Calls.quiet_of_same (many_any _ _)))
  go_wp2
  go_ret
  exact ⟨rfl, below_drewN ((Below.refl _ _).alloc (Nat.le_refl _) _) _⟩
set_option maxRecDepth 100000 in
set_option maxHeartbeats 1000000 in
theorem rs_2a (x : Ex) (ao : Option Addr) (cap : Nat) (D M : Int) (w : World) (hD : (D == 0) = false) (hM : (M == 0) = false) (hm : (manyI x.op != (x.args.length : Int)) = false) (e1 : ((x.op : Int) == 1) = false) (e2 : ((x.op : Int) == 2) = true) (h0 : (x.n != 0) = true) (h1 : (x.n != 1) = true) : Calls Tryd.prog 63 #[exV x (.slice ao x.args.length cap), .int .i64 D, .int .i64 M] w fun e w' => e = .returned (.int .i64 (-1)) ∧ Below w.heap.size w w' := by
  go_enter Tryd.func63, Tryd.ntmps63
  go_wp2
  go_quiet ((go_at_call 78; exact Calls.quiet_of_same (many_any _ _)))
  go_wp2
  go_ret
  exact ⟨rfl, below_drewN ((Below.refl _ _).alloc (Nat.le_refl _) _) _⟩
set_option maxRecDepth 100000 in
set_option maxHeartbeats 1000000 in
theorem rs_2b (x : Ex) (ao : Option Addr) (cap : Nat) (D M : Int) (w : World) (hD : (D == 0) = false) (hM : (M == 0) = false) (hm : (manyI x.op != (x.args.length : Int)) = false) (e1 : ((x.op : Int) == 1) = false) (e2 : ((x.op : Int) == 2) = true) (h0 : (x.n != 0) = false) (he : x.name.toList.isEmpty = false) : Calls Tryd.prog 63 #[exV x (.slice ao x.args.length cap), .int .i64 D, .int .i64 M] w fun e w' => e = .returned (.int .i64 (-1)) ∧ Below w.heap.size w w' := by
  go_enter Tryd.func63, Tryd.ntmps63
  go_wp2
  go_quiet ((go_at_call 78; exact Calls.quiet_of_same (many_any _ _)))
  go_wp2
  go_ret
  exact ⟨rfl, below_drewN ((Below.refl _ _).alloc (Nat.le_refl _) _) _⟩
set_option maxRecDepth 100000 in
set_option maxHeartbeats 1000000 in
theorem rs_2c (x : Ex) (ao : Option Addr) (cap : Nat) (D M : Int) (w : World) (hD : (D == 0) = false) (hM : (M == 0) = false) (hm : (manyI x.op != (x.args.length : Int)) = false) (e1 : ((x.op : Int) == 1) = false) (e2 : ((x.op : Int) == 2) = true) (h0 : (x.n != 0) = true) (h1 : (x.n != 1) = false) (he : x.name.toList.isEmpty = false) : Calls Tryd.prog 63 #[exV x (.slice ao x.args.length cap), .int .i64 D, .int .i64 M] w fun e w' => e = .returned (.int .i64 (-1)) ∧ Below w.heap.size w w' := by
  go_enter Tryd.func63, Tryd.ntmps63
  go_wp2
  go_quiet ((go_at_call 78; exact Calls.quiet_of_same (many_any _ _)))
  go_wp2
  go_ret
  exact ⟨rfl, below_drewN ((Below.refl _ _).alloc (Nat.le_refl _) _) _⟩
set_option maxRecDepth 100000 in
set_option maxHeartbeats 1000000 in
theorem rs_3a (x : Ex) (ao : Option Addr) (cap : Nat) (D M : Int) (w : World) (hD : (D == 0) = false) (hM : (M == 0) = false) (hm : (manyI x.op != (x.args.length : Int)) = false) (e1 : ((x.op : Int) == 1) = false) (e2 : ((x.op : Int) == 2) = false) (e3 : ((x.op : Int) == 3) = true) (h0 : (x.n != 0) = true) : Calls Tryd.prog 63 #[exV x (.slice ao x.args.length cap), .int .i64 D, .int .i64 M] w fun e w' => e = .returned (.int .i64 (-1)) ∧ Below w.heap.size w w' := by
  go_enter Tryd.func63, Tryd.ntmps63
  go_wp2
  go_quiet ((go_at_call 78; exact Calls.quiet_of_same (many_any _ _)))
  go_wp2
  go_ret
  exact ⟨rfl, below_drewN ((Below.refl _ _).alloc (Nat.le_refl _) _) _⟩
set_option maxRecDepth 100000 in
set_option maxHeartbeats 1000000 in
theorem rs_3b (x : Ex) (ao : Option Addr) (cap : Nat) (D M : Int) (w : World) (hD : (D == 0) = false) (hM : (M == 0) = false) (hm : (manyI x.op != (x.args.length : Int)) = false) (e1 : ((x.op : Int) == 1) = false) (e2 : ((x.op : Int) == 2) = false) (e3 : ((x.op : Int) == 3) = true) (h0 : (x.n != 0) = false) (hnm : x.name.size ≤ 140737488355328) (hb : isName x.name = false) : Calls Tryd.prog 63 #[exV x (.slice ao x.args.length cap), .int .i64 D, .int .i64 M] w fun e w' => e = .returned (.int .i64 (-1)) ∧ Below w.heap.size w w' := by
  have c := fun W => refName x.name W hnm
  rw [hb] at c
  clear hb
  go_enter Tryd.func63, Tryd.ntmps63
  go_wp2
  go_quiet ((go_at_call 78; exact Calls.quiet_of_same (many_any _ _)))
  go_wp2_with (go_at_call 79; refine (c _).mono ?_; rintro e w2 ⟨rfl, hb2⟩)
  go_ret
  exact ⟨rfl, bstep (below_drewN ((Below.refl _ _).alloc (Nat.le_refl _) _) _) hb2⟩
set_option maxRecDepth 100000 in
set_option maxHeartbeats 1000000 in
theorem rs_4a (x : Ex) (ao : Option Addr) (cap : Nat) (D M : Int) (w : World) (hD : (D == 0) = false) (hM : (M == 0) = false) (hm : (manyI x.op != (x.args.length : Int)) = false) (e1 : ((x.op : Int) == 1) = false) (e2 : ((x.op : Int) == 2) = false) (e3 : ((x.op : Int) == 3) = false) (h0 : (x.n != 0) = true) : Calls Tryd.prog 63 #[exV x (.slice ao x.args.length cap), .int .i64 D, .int .i64 M] w fun e w' => e = .returned (.int .i64 (-1)) ∧ Below w.heap.size w w' := by
  go_enter Tryd.func63, Tryd.ntmps63
  go_wp2
  go_quiet ((go_at_call 78; exact Calls.quiet_of_same (many_any _ _)))
  go_wp2
  go_ret
  exact ⟨rfl, below_drewN ((Below.refl _ _).alloc (Nat.le_refl _) _) _⟩
set_option maxRecDepth 100000 in
set_option maxHeartbeats 1000000 in
theorem rs_4b (x : Ex) (ao : Option Addr) (cap : Nat) (D M : Int) (w : World) (hD : (D == 0) = false) (hM : (M == 0) = false) (hm : (manyI x.op != (x.args.length : Int)) = false) (e1 : ((x.op : Int) == 1) = false) (e2 : ((x.op : Int) == 2) = false) (e3 : ((x.op : Int) == 3) = false) (h0 : (x.n != 0) = false) (he : x.name.toList.isEmpty = false) : Calls Tryd.prog 63 #[exV x (.slice ao x.args.length cap), .int .i64 D, .int .i64 M] w fun e w' => e = .returned (.int .i64 (-1)) ∧ Below w.heap.size w w' := by
  go_enter Tryd.func63, Tryd.ntmps63
  go_wp2
  go_quiet ((go_at_call 78; exact Calls.quiet_of_same (many_any _ _)))
  go_wp2
  go_ret
  exact ⟨rfl, below_drewN ((Below.refl _ _).alloc (Nat.le_refl _) _) _⟩
set_option maxRecDepth 100000 in
set_option maxHeartbeats 1000000 in
theorem rs_1c (x : Ex) (ao : Option Addr) (cap : Nat) (D M : Int) (w : World) (hD : (D == 0) = false) (hM : (M == 0) = false) (hm : (manyI x.op != (x.args.length : Int)) = false) (e1 : ((x.op : Int) == 1) = true) (h0 : ¬ x.n < 0) (he : x.name.toList.isEmpty = true) (hl : Hid (x.args.length = 0)) : Calls Tryd.prog 63 #[exV x (.slice ao x.args.length cap), .int .i64 D, .int .i64 M] w fun e w' => e = .returned (.int .i64 1) ∧ Below w.heap.size w w' := by
  go_enter Tryd.func63, Tryd.ntmps63
  go_wp2
  go_quiet ((go_at_call 78; exact Calls.quiet_of_same (many_any _ _)))
  go_wp2
  go_loopw [7, 8] (fun n i wr => n = .int .i64 1 ∧ i = .int .i64 0 ∧ Hid (Below w.heap.size w wr) ∧ wr.cell? ⟨w.heap.size, 3, none⟩ = some (.slice ao x.args.length cap)) (fun _ _ _ => 0)
  case atStart => exact ⟨rfl, rfl, below_drewN ((Below.refl _ _).alloc (Nat.le_refl _) _) _, box_at w _ 30 3 _ rfl⟩
  case round =>
    obtain ⟨rfl, rfl, hB, hx3⟩ := hrel
    have hlt' : ¬ (0 : Int) < (x.args.length : Int) := by have := hl.out; omega
    go_wp2
    go_ret
    exact ⟨rfl, hB.out⟩
set_option maxRecDepth 100000 in
set_option maxHeartbeats 1000000 in
theorem rs_2d (x : Ex) (ao : Option Addr) (cap : Nat) (D M : Int) (w : World) (hD : (D == 0) = false) (hM : (M == 0) = false) (hm : (manyI x.op != (x.args.length : Int)) = false) (e1 : ((x.op : Int) == 1) = false) (e2 : ((x.op : Int) == 2) = true) (h0 : (x.n != 0) = false) (he : x.name.toList.isEmpty = true) (hl : Hid (x.args.length = 0)) : Calls Tryd.prog 63 #[exV x (.slice ao x.args.length cap), .int .i64 D, .int .i64 M] w fun e w' => e = .returned (.int .i64 1) ∧ Below w.heap.size w w' := by
  go_enter Tryd.func63, Tryd.ntmps63
  go_wp2
  go_quiet ((go_at_call 78; exact Calls.quiet_of_same (many_any _ _)))
  go_wp2
  go_loopw [7, 8] (fun n i wr => n = .int .i64 1 ∧ i = .int .i64 0 ∧ Hid (Below w.heap.size w wr) ∧ wr.cell? ⟨w.heap.size, 3, none⟩ = some (.slice ao x.args.length cap)) (fun _ _ _ => 0)
  case atStart => exact ⟨rfl, rfl, below_drewN ((Below.refl _ _).alloc (Nat.le_refl _) _) _, box_at w _ 30 3 _ rfl⟩
  case round =>
    obtain ⟨rfl, rfl, hB, hx3⟩ := hrel
    have hlt' : ¬ (0 : Int) < (x.args.length : Int) := by have := hl.out; omega
    go_wp2
    go_ret
    exact ⟨rfl, hB.out⟩
set_option maxRecDepth 100000 in
set_option maxHeartbeats 1000000 in
theorem rs_2e (x : Ex) (ao : Option Addr) (cap : Nat) (D M : Int) (w : World) (hD : (D == 0) = false) (hM : (M == 0) = false) (hm : (manyI x.op != (x.args.length : Int)) = false) (e1 : ((x.op : Int) == 1) = false) (e2 : ((x.op : Int) == 2) = true) (h0 : (x.n != 0) = true) (h1 : (x.n != 1) = false) (he : x.name.toList.isEmpty = true) (hl : Hid (x.args.length = 0)) : Calls Tryd.prog 63 #[exV x (.slice ao x.args.length cap), .int .i64 D, .int .i64 M] w fun e w' => e = .returned (.int .i64 1) ∧ Below w.heap.size w w' := by
  go_enter Tryd.func63, Tryd.ntmps63
  go_wp2
  go_quiet ((go_at_call 78; exact Calls.quiet_of_same (many_any _ _)))
  go_wp2
  go_loopw [7, 8] (fun n i wr => n = .int .i64 1 ∧ i = .int .i64 0 ∧ Hid (Below w.heap.size w wr) ∧ wr.cell? ⟨w.heap.size, 3, none⟩ = some (.slice ao x.args.length cap)) (fun _ _ _ => 0)
  case atStart => exact ⟨rfl, rfl, below_drewN ((Below.refl _ _).alloc (Nat.le_refl _) _) _, box_at w _ 30 3 _ rfl⟩
  case round =>
    obtain ⟨rfl, rfl, hB, hx3⟩ := hrel
    have hlt' : ¬ (0 : Int) < (x.args.length : Int) := by have := hl.out; omega
    go_wp2
    go_ret
    exact ⟨rfl, hB.out⟩
set_option maxRecDepth 100000 in
set_option maxHeartbeats 1000000 in
theorem rs_3c (x : Ex) (ao : Option Addr) (cap : Nat) (D M : Int) (w : World) (hD : (D == 0) = false) (hM : (M == 0) = false) (hm : (manyI x.op != (x.args.length : Int)) = false) (e1 : ((x.op : Int) == 1) = false) (e2 : ((x.op : Int) == 2) = false) (e3 : ((x.op : Int) == 3) = true) (h0 : (x.n != 0) = false) (hnm : x.name.size ≤ 140737488355328) (hb : isName x.name = true) (hl : Hid (x.args.length = 0)) : Calls Tryd.prog 63 #[exV x (.slice ao x.args.length cap), .int .i64 D, .int .i64 M] w fun e w' => e = .returned (.int .i64 1) ∧ Below w.heap.size w w' := by
  have c := fun W => refName x.name W hnm
  rw [hb] at c
  clear hb
  go_enter Tryd.func63, Tryd.ntmps63
  go_wp2
  go_quiet ((go_at_call 78; exact Calls.quiet_of_same (many_any _ _)))
  go_wp2_with (go_at_call 79; refine (c _).mono ?_; rintro e w2 ⟨rfl, hb2⟩)
  go_loopw [7, 8] (fun n i wr => n = .int .i64 1 ∧ i = .int .i64 0 ∧ Hid (Below w.heap.size w wr) ∧ wr.cell? ⟨w.heap.size, 3, none⟩ = some (.slice ao x.args.length cap)) (fun _ _ _ => 0)
  case atStart => exact ⟨rfl, rfl, bstep (below_drewN ((Below.refl _ _).alloc (Nat.le_refl _) _) _) hb2, cell_kept (w := (w.alloc (.cells #[.int .u8 (x.op : Int), .int .i64 x.n, .string x.name, .slice ao x.args.length cap] 30)).drewN _) (by exact box_at w _ 30 3 _ rfl) hb2⟩
  case round =>
    obtain ⟨rfl, rfl, hB, hx3⟩ := hrel
    have hlt' : ¬ (0 : Int) < (x.args.length : Int) := by have := hl.out; omega
    go_wp2
    go_ret
    exact ⟨rfl, hB.out⟩
set_option maxRecDepth 100000 in
set_option maxHeartbeats 1000000 in
theorem rs_4c (x : Ex) (ao : Option Addr) (cap : Nat) (D M : Int) (w : World) (d : Nat) (ih : RSzC d) (hd : d + 1 ≤ 32) (hDd : D = ((d + 1 : Nat) : Int)) (m : Nat) (hMm : M = (m : Int)) (hm1 : 1 ≤ m) (hm2 : m ≤ 200) (hD : (D == 0) = false) (hM : (M == 0) = false) (hm : (manyI x.op != (x.args.length : Int)) = false) (e1 : ((x.op : Int) == 1) = false) (e2 : ((x.op : Int) == 2) = false) (e3 : ((x.op : Int) == 3) = false) (h0 : (x.n != 0) = false) (he : x.name.toList.isEmpty = true) (hS : St w x (.slice ao x.args.length cap)) : Calls Tryd.prog 63 #[exV x (.slice ao x.args.length cap), .int .i64 D, .int .i64 M] w fun e w' => e = .returned (.int .i64 (szI (szL (sz d) m 1 x.args))) ∧ Below w.heap.size w w' := by
  obtain ⟨ao', cap', sl, hv, _, _, _, hlen, _, hcs, hss⟩ := hS.out
  injection hv with ea _ ec
  subst ea
  subst ec
  have HS := hid hss
  have HC := hid hcs
  have HI := hid ih
  have hD1 : D - 1 = (d : Int) := by omega
  have hD3 : D ≤ 32 := by omega
  have hD4 : 0 ≤ D := by omega
  have HM := hid hMm
  have hM1 : 1 ≤ M := by omega
  have hM2 : M ≤ 200 := by omega
  clear hss hcs ih hS hDd hMm
  go_enter Tryd.func63, Tryd.ntmps63
  go_wp2
  go_quiet ((go_at_call 78; exact Calls.quiet_of_same (many_any _ _)))
  go_wp2
  go_loopw [7, 8] (fun n i wr => ∃ (k z : Nat), k ≤ x.args.length ∧ 1 ≤ z ∧ z ≤ m ∧ n = .int .i64 (z : Int) ∧ i = .int .i64 (k : Int) ∧ Hid (szL (sz d) m 1 x.args = szL (sz d) m z (x.args.drop k)) ∧ Hid (Below w.heap.size w wr) ∧ wr.cell? ⟨w.heap.size, 3, none⟩ = some (.slice ao x.args.length cap)) (fun _ i _ => x.args.length - (intOf i).toNat)
  case atStart => exact ⟨0, 1, Nat.zero_le _, Nat.le_refl _, hm1, rfl, rfl, by simp [Hid], below_drewN ((Below.refl _ _).alloc (Nat.le_refl _) _) _, box_at w _ 30 3 _ rfl⟩
  case round =>
    obtain ⟨k, z, hk, hz1, hz2, rfl, rfl, hE, hB, hx3⟩ := hrel
    by_cases hlt : k < x.args.length
    · have hlt' : (k : Int) < (x.args.length : Int) := by omega
      have hk0 : (0 : Int) ≤ (k : Int) := by omega
      obtain ⟨bb, o, rfl, hcc⟩ := HC.out.resolve_left (by omega)
      obtain ⟨a0, a1, a2, a3⟩ := hcc k hlt
      have v0 := cell_kept a0 hB.out
      have v1 := cell_kept a1 hB.out
      have v2 := cell_kept a2 hB.out
      have v3 := cell_kept a3 hB.out
      have hdr : x.args.drop k = x.args[k] :: x.args.drop (k + 1) := List.drop_eq_getElem_cons hlt
      have hE' := hE.out
      rw [hdr, szL] at hE'
      have HE := hid hE'
      have hst := (HS.out k hlt).keep hB.out
      clear a0 a1 a2 a3 hcc hdr hE' hE
      generalize x.args[k] = y at *
      obtain ⟨sv, hsv⟩ : ∃ sv, sl k = sv := ⟨_, rfl⟩
      rw [hsv] at v3 hst
      obtain ⟨ak, ck, _, rfl, _⟩ := hst.out
      clear hsv
      have hMz : M - (z : Int) = ((m - z : Nat) : Int) := by have := HM.out; omega
      have cc := HI.out y wr _ (m - z) (by omega) hst
      clear hst
      cases hz : sz d (m - z) y with
      | none =>
        rw [hz] at cc HE
        have hnone : Hid (szL (sz d) m 1 x.args = none) := HE.out
        simp only [szI] at cc
        go_wp2_with (go_at_call 63; refine cc.mono ?_; rintro e w4 ⟨rfl, hb4⟩)
        go_ret
        exact ⟨by rw [hnone.out]; rfl, bstep hB.out hb4⟩
      | some j =>
        rw [hz] at cc HE
        have hj := sz_le _ _ _ _ hz
        simp only [szI] at cc
        have hj0 : ¬ (j : Int) < 0 := by omega
        go_wp2_with (go_at_call 63; refine cc.mono ?_; rintro e w4 ⟨rfl, hb4⟩; have hx4 := cell_kept hx3 hb4; have B4 := hid (bstep hB.out hb4))
        go_roundw
        case rel => exact ⟨k + 1, z + j, by omega, by omega, by omega, by go_num, by go_num, HE.out, B4, hx4⟩
        case measure => simp [intOf]; omega
    · have hlt' : ¬ (k : Int) < (x.args.length : Int) := by omega
      have hdr : x.args.drop k = [] := List.drop_eq_nil_of_le (by omega)
      have hE' := hE.out
      rw [hdr, szL] at hE'
      have HE := hid hE'
      clear hE' hdr hE
      go_wp2
      go_ret
      exact ⟨by rw [HE.out]; rfl, hB.out⟩
end Go.Proofs.YtakjkhfglihggaaDoor.Lex
namespace Go.Proofs.YtakjkhfglihggaaDoor.Lex
open Go.ChangeShapes Go.WideShapes Go.ChangeAt Go.RowKit Go.Joins
theorem many_ne {op len : Nat} (h : ¬ manyI op = (len : Int)) : (manyI op != (len : Int)) = true := by simp [h]
theorem many_eq {op len : Nat} (h : manyI op = (len : Int)) : (manyI op != (len : Int)) = false := by simp [h]
theorem sz_none {d M : Nat} {x : Ex} (h : M = 0 ∨ fieldsOk x.op x.n x.name x.args.length = false) : sz (d + 1) M x = none := by rw [sz, if_pos h]
theorem rsize_any : ∀ (d : Nat), d ≤ 32 → RSzC d
  | 0, _ => by
    intro x w s M hM hS
    obtain ⟨ao, cap, _, rfl, _⟩ := hS.out
    have e : sz 0 M x = none := by simp [sz]
    rw [e]
    exact rs_d0 x ao cap ((0 : Nat) : Int) (M : Int) w rfl
  | d + 1, hd => by
    intro x w s M hM hS
    have ih := rsize_any d (by omega)
    obtain ⟨ao, cap, sl, rfl, hop, hn, hnm, _⟩ := hS.out
    have hD : ((((d + 1 : Nat) : Int)) == 0) = false := by simp; omega
    by_cases hM0 : M = 0
    · rw [sz_none (.inl hM0)]
      exact rs_m0 x ao cap _ _ w hD (by simp [hM0])
    · have hM1 : ((M : Int) == 0) = false := by simp; omega
      have hsplit := fields_split x.op x.n x.name x.args.length
      by_cases hm : manyI x.op = (x.args.length : Int)
      · rw [decide_eq_true hm, Bool.true_and] at hsplit
        have hm' := many_eq hm
        have bad : fldOk x.op x.n x.name = false → sz (d + 1) M x = none := fun h => sz_none (.inr (hsplit.trans h))
        have good : fldOk x.op x.n x.name = true → sz (d + 1) M x = szL (sz d) M 1 x.args := fun h => by rw [sz, if_neg (by rw [hsplit, h]; simp [hM0])]
        have leaf : x.args.length = 0 → szL (sz d) M 1 x.args = some 1 := fun h => by rw [List.eq_nil_of_length_eq_zero h]; rfl
        unfold fldOk at bad good
        by_cases h1 : x.op = 1
        · rw [if_pos h1] at bad good
          have e1 := eqN (b := 1) h1
          have hl : x.args.length = 0 := by rw [h1] at hm; have : manyI 1 = 0 := by decide
                                            omega
          by_cases h0 : x.n < 0
          · rw [bad (by rw [decide_eq_false (by omega)]; rfl)]
            exact rs_1a x ao cap _ _ w hD hM1 hm' e1 h0
          · rw [decide_eq_true (by omega)] at bad good
            by_cases he : x.name.size = 0
            · rw [good (by rw [decide_eq_true he]; rfl), leaf hl]
              exact rs_1c x ao cap _ _ w hD hM1 hm' e1 h0 (empty_yes he) hl
            · rw [bad (by rw [decide_eq_false he]; rfl)]
              exact rs_1b x ao cap _ _ w hD hM1 hm' e1 h0 (empty_no he)
        · rw [if_neg h1] at bad good
          have e1 := neN (b := 1) h1
          by_cases h2 : x.op = 2
          · rw [if_pos h2] at bad good
            have e2 := eqN (b := 2) h2
            have hl : x.args.length = 0 := by rw [h2] at hm; have : manyI 2 = 0 := by decide
                                              omega
            by_cases h0 : x.n = 0
            · rw [decide_eq_true h0] at bad good
              by_cases he : x.name.size = 0
              · rw [good (by rw [decide_eq_true he]; rfl), leaf hl]
                exact rs_2d x ao cap _ _ w hD hM1 hm' e1 e2 (inn h0) (empty_yes he) hl
              · rw [bad (by rw [decide_eq_false he]; rfl)]
                exact rs_2b x ao cap _ _ w hD hM1 hm' e1 e2 (inn h0) (empty_no he)
            · rw [decide_eq_false h0] at bad good
              by_cases h01 : x.n = 1
              · rw [decide_eq_true h01] at bad good
                by_cases he : x.name.size = 0
                · rw [good (by rw [decide_eq_true he]; rfl), leaf hl]
                  exact rs_2e x ao cap _ _ w hD hM1 hm' e1 e2 (inq h0) (inn h01) (empty_yes he) hl
                · rw [bad (by rw [decide_eq_false he]; rfl)]
                  exact rs_2c x ao cap _ _ w hD hM1 hm' e1 e2 (inq h0) (inn h01) (empty_no he)
              · rw [decide_eq_false h01] at bad
                rw [bad rfl]
                exact rs_2a x ao cap _ _ w hD hM1 hm' e1 e2 (inq h0) (inq h01)
          · rw [if_neg h2] at bad good
            have e2 := neN (b := 2) h2
            by_cases h3 : x.op = 3
            · rw [if_pos h3] at bad good
              have e3 := eqN (b := 3) h3
              have hl : x.args.length = 0 := by rw [h3] at hm; have : manyI 3 = 0 := by decide
                                                omega
              by_cases h0 : x.n = 0
              · rw [decide_eq_true h0] at bad good
                cases hb : isName x.name with
                | false =>
                  rw [bad (by rw [hb]; rfl)]
                  exact rs_3b x ao cap _ _ w hD hM1 hm' e1 e2 e3 (inn h0) hnm hb
                | true =>
                  rw [good (by rw [hb]; rfl), leaf hl]
                  exact rs_3c x ao cap _ _ w hD hM1 hm' e1 e2 e3 (inn h0) hnm hb hl
              · rw [decide_eq_false h0] at bad
                rw [bad rfl]
                exact rs_3a x ao cap _ _ w hD hM1 hm' e1 e2 e3 (inq h0)
            · rw [if_neg h3] at bad good
              have e3 := neN (b := 3) h3
              by_cases h0 : x.n = 0
              · rw [decide_eq_true h0] at bad good
                by_cases he : x.name.size = 0
                · rw [good (by rw [decide_eq_true he]; rfl)]
                  exact rs_4c x ao cap _ _ w d ih hd rfl M rfl (by omega) hM hD hM1 hm' e1 e2 e3 (inn h0) (empty_yes he) hS
                · rw [bad (by rw [decide_eq_false he]; rfl)]
                  exact rs_4b x ao cap _ _ w hD hM1 hm' e1 e2 e3 (inn h0) (empty_no he)
              · rw [decide_eq_false h0] at bad
                rw [bad rfl]
                exact rs_4a x ao cap _ _ w hD hM1 hm' e1 e2 e3 (inq h0)
      · rw [decide_eq_false hm, Bool.false_and] at hsplit
        rw [sz_none (.inr hsplit)]
        exact rs_mn x ao cap _ _ w hD hM1 (many_ne hm)
set_option maxRecDepth 100000 in
/-- The document's own Check. -/
theorem rcheck (x : Ex) (w : World) (s : Value) (hS : St w x s) : Calls Tryd.prog 33 #[exV x s] w fun e w' => e = .returned (.bool (chk x)) ∧ Below w.heap.size w w' := by
  obtain ⟨ao, cap, sl, rfl, _⟩ := hS.out
  have b1 := (Below.refl w.heap.size w).alloc (Nat.le_refl _) (.cells #[.int .u8 (x.op : Int), .int .i64 x.n, .string x.name, .slice ao x.args.length cap] 30)
  have c := rsize_any 32 (Nat.le_refl _) x _ _ 200 (Nat.le_refl _) (hS.keep b1)
  have H1 := hid b1
  unfold chk
  cases hz : sz 32 200 x with
  | none =>
    rw [hz] at c
    simp only [szI] at c
    clear hS b1
    go_enter Tryd.func33, Tryd.ntmps33
    go_wp2_with (go_at_call 63; refine c.mono ?_; rintro e w3 ⟨rfl, hb3⟩)
    go_ret
    exact ⟨rfl, bstep H1.out hb3⟩
  | some k =>
    have hk := sz_le _ _ _ _ hz
    have hk' : (0 : Int) < (k : Int) := by omega
    rw [hz] at c
    simp only [szI] at c
    clear hS b1 hz
    go_enter Tryd.func33, Tryd.ntmps33
    go_wp2_with (go_at_call 63; refine c.mono ?_; rintro e w3 ⟨rfl, hb3⟩)
    go_ret
    exact ⟨by first | rfl | (simp; omega), bstep H1.out hb3⟩
end Go.Proofs.YtakjkhfglihggaaDoor.Lex
namespace Go.Proofs.YtakjkhfglihggaaDoor.Lex
open Go.ChangeShapes Go.WideShapes Go.ChangeAt Go.RowKit Go.Joins
theorem info44' : (Tryd.prog.info? 59).map (fun i => (i.zero, i.size, i.bytes)) = some (some (.agg #[.string ByteArray.empty, .int .u8 0, .int .i64 0]), 3, 32) := by kernel_rfl
theorem info9' : (Tryd.prog.info? 9).map (fun i => (i.zero, i.size, i.bytes)) = some (some (.string ByteArray.empty), 1, 16) := by kernel_rfl
set_option maxRecDepth 100000 in
set_option maxHeartbeats 2000000 in
theorem twin_ins (l : List Hd) (w : World) (s : Value) (hS : InsAt w l s) :
    Calls Tryd.prog 27 #[s] w fun e w' => ∃ s', e = .returned s' ∧ TwIns w' w.heap.size l s' ∧ Below w.heap.size w w' := by
  obtain ⟨ao, cap, rfl, hlen, _, hok, hc⟩ := hS
  have HC := hid hc
  have HO := hid hok
  obtain ⟨i0, hi, hi0, hi1, hi2⟩ := info_parts info44'
  clear hc hok
  go_enter Tryd.func27, Tryd.ntmps27
  go_wp2_with (at_make; refine wpList_make_own w rfl (.const (.int .i64 0)) (.tmp 7) 22 rfl w.heap.size 59 i0 _ 3 Tryd.underlying22 hi hi0 hi1 .i64 .i64 _ (l.length + 1) rfl rfl (by omega) (by rw [hi2]; omega) (by unfold maxLen; omega) (Nat.le_refl _) ?_; intro w1 hown1 hgrow1; have M1 := hid (MkR.start (t := 59) (c := 3) (n := l.length) hown1 hgrow1); clear hown1 hgrow1)
  go_loopw [3, 4] (fun v i wr => ∃ (k : Nat), k ≤ l.length ∧ v = .slice (some ⟨w.heap.size, 0, none⟩) k (l.length + 1) ∧ i = .int .i64 (k : Int) ∧ Hid (MkR w 59 3 l.length ((l.take k).map hdL) wr)) (fun _ i _ => l.length - (intOf i).toNat)
  case atStart => exact ⟨0, Nat.zero_le _, rfl, rfl, by simpa using M1⟩
  case round =>
    obtain ⟨k, hk, rfl, rfl, hM⟩ := hrel
    have hl' : ((l.take k).map hdL).length = k := by simp; omega
    by_cases hlt : k < l.length
    · have hlt' : (k : Int) < (l.length : Int) := by omega
      have hk0 : (0 : Int) ≤ (k : Int) := by omega
      obtain ⟨bb, o, rfl, hcc⟩ := HC.out.resolve_left (by omega)
      obtain ⟨v0, v1, v2⟩ := (hcc k hlt).keep hM.out.below
      have HT : Hid ((l.take (k + 1)).map hdL = (l.take k).map hdL ++ [hdL l[k]]) := hid (by rw [List.take_succ_eq_append_getElem hlt, List.map_append]; rfl)
      have HL := hid hl'
      clear hcc hl'
      generalize l[k] = y at *
      generalize (l.take k).map hdL = es at *
      have M2 := hid (hM.out.step ((Below.refl _ _).alloc (Nat.le_refl _) (.cells #[.string y.name, .int .u8 (y.ty : Int), .int .i64 y.st] 59)))
      have M2r := hid (show _ from by have := M2.out.row; rw [HL.out] at this; exact this)
      have N2 := hid (next_cells wr (hdL y) 59)
      go_wp2_with (at_builtin; refine wpList_append_fits _ rfl (.tmp 15) (.tmp 20) 22 rfl w.heap.size 59 i0 3 Tryd.underlying22 hi hi1 w.heap.size k (l.length + 1) es.flatten rfl M2r.out ⟨wr.heap.size, 0, none⟩ 1 1 (hdL y) rfl rfl N2.out (by simp [Value.oneCell']) (by omega) ?_; intro w4 hown4 hgrow4; have M4 := hid (M2.out.grow HL.out rfl hown4 hgrow4); clear hown4 hgrow4)
      go_roundw
      case rel => exact ⟨k + 1, by omega, rfl, by go_num, hid (by rw [HT.out]; exact M4.out)⟩
      case measure => simp [intOf]; omega
    · have hlt' : ¬ (k : Int) < (l.length : Int) := by omega
      obtain rfl : k = l.length := by omega
      rw [List.take_length] at hM hl'
      have M2 := hid (hM.out.step ((Below.refl _ _).alloc (Nat.le_refl _) (.cells #[.string spare, .int .u8 0, .int .i64 0] 59)))
      have M2r := hid (show _ from by have := M2.out.row; rw [hl'] at this; exact this)
      have N2 := hid (next_cells wr (hdL ⟨spare, 0, 0⟩) 59)
      have HL := hid hl'
      clear hl'
      go_wp2_with (at_builtin; refine wpList_append_fits _ rfl (.tmp 22) (.tmp 24) 22 rfl w.heap.size 59 i0 3 Tryd.underlying22 hi hi1 w.heap.size l.length (l.length + 1) (l.map hdL).flatten rfl M2r.out ⟨wr.heap.size, 0, none⟩ 1 1 (hdL ⟨spare, 0, 0⟩) rfl rfl N2.out (by simp [Value.oneCell']) (by omega) ?_; intro w4 hown4 hgrow4; have C4 := hid (MkR.cells M2.out.each HL.out rfl hown4); have K4 := hid (Blk.of_row hown4); have B4 := hid (M2.out.below.grown hgrow4 M2.out.below.size (fun j hj => by cases hj; exact Nat.le_refl _)); clear hown4 hgrow4)
      go_ret
      refine ⟨_, rfl, ⟨w.heap.size, l.length + 1, rfl, Nat.le_refl _, hlen, by omega, HO.out, fun i hi => ?_, ?_, K4.out⟩, B4.out⟩
      · have he : (l.map hdL)[i]? = some (hdL l[i]) := by rw [List.getElem?_map, List.getElem?_eq_getElem hi]; rfl
        exact ⟨C4.out.1 i _ 0 _ he rfl, C4.out.1 i _ 1 _ he rfl, C4.out.1 i _ 2 _ he rfl⟩
      · exact ⟨C4.out.2 0 _ rfl, C4.out.2 1 _ rfl, C4.out.2 2 _ rfl⟩
abbrev txL (x : ByteArray) : List Value := [.string x]
set_option maxRecDepth 100000 in
set_option maxHeartbeats 2000000 in
theorem twin_texts (l : List ByteArray) (w : World) (s : Value) (hS : TextsAt w l s) :
    Calls Tryd.prog 29 #[s] w fun e w' => ∃ s', e = .returned s' ∧ TwTexts w' w.heap.size l s' ∧ Below w.heap.size w w' := by
  obtain ⟨ao, cap, rfl, hlen, _, hok, hc⟩ := hS
  have HC := hid hc
  have HO := hid hok
  obtain ⟨i0, hi, hi0, hi1, hi2⟩ := info_parts info9'
  clear hc hok
  go_enter Tryd.func29, Tryd.ntmps29
  go_wp2_with (at_make; refine wpList_make_own w rfl (.const (.int .i64 0)) (.tmp 7) 24 rfl w.heap.size 9 i0 _ 1 Tryd.underlying24 hi hi0 hi1 .i64 .i64 _ (l.length + 1) rfl rfl (by omega) (by rw [hi2]; omega) (by unfold maxLen; omega) (Nat.le_refl _) ?_; intro w1 hown1 hgrow1; have M1 := hid (MkR.start (t := 9) (c := 1) (n := l.length) hown1 hgrow1); clear hown1 hgrow1)
  go_loopw [3, 4] (fun v i wr => ∃ (k : Nat), k ≤ l.length ∧ v = .slice (some ⟨w.heap.size, 0, none⟩) k (l.length + 1) ∧ i = .int .i64 (k : Int) ∧ Hid (MkR w 9 1 l.length ((l.take k).map txL) wr)) (fun _ i _ => l.length - (intOf i).toNat)
  case atStart => exact ⟨0, Nat.zero_le _, rfl, rfl, by simpa using M1⟩
  case round =>
    obtain ⟨k, hk, rfl, rfl, hM⟩ := hrel
    have hl' : ((l.take k).map txL).length = k := by simp; omega
    by_cases hlt : k < l.length
    · have hlt' : (k : Int) < (l.length : Int) := by omega
      have hk0 : (0 : Int) ≤ (k : Int) := by omega
      obtain ⟨bb, o, rfl, hcc⟩ := HC.out.resolve_left (by omega)
      have v0 := cell_kept (hcc k hlt) hM.out.below
      have HT : Hid ((l.take (k + 1)).map txL = (l.take k).map txL ++ [txL l[k]]) := hid (by rw [List.take_succ_eq_append_getElem hlt, List.map_append]; rfl)
      have HL := hid hl'
      clear hcc hl'
      generalize l[k] = y at *
      generalize (l.take k).map txL = es at *
      have M2 := hid (hM.out.step ((Below.refl _ _).alloc (Nat.le_refl _) (.cells #[.string y] 9)))
      have M2r := hid (show _ from by have := M2.out.row; rw [HL.out] at this; exact this)
      have N2 := hid (next_cells wr (txL y) 9)
      go_wp2_with (at_builtin; refine wpList_append_fits _ rfl (.tmp 15) (.tmp 20) 24 rfl w.heap.size 9 i0 1 Tryd.underlying24 hi hi1 w.heap.size k (l.length + 1) es.flatten rfl M2r.out ⟨wr.heap.size, 0, none⟩ 1 1 (txL y) rfl rfl N2.out (by simp [Value.oneCell']) (by omega) ?_; intro w4 hown4 hgrow4; have M4 := hid (M2.out.grow HL.out rfl hown4 hgrow4); clear hown4 hgrow4)
      go_roundw
      case rel => exact ⟨k + 1, by omega, rfl, by go_num, hid (by rw [HT.out]; exact M4.out)⟩
      case measure => simp [intOf]; omega
    · have hlt' : ¬ (k : Int) < (l.length : Int) := by omega
      obtain rfl : k = l.length := by omega
      rw [List.take_length] at hM hl'
      have M2 := hid (hM.out.step ((Below.refl _ _).alloc (Nat.le_refl _) (.cells #[.string spare] 9)))
      have M2r := hid (show _ from by have := M2.out.row; rw [hl'] at this; exact this)
      have N2 := hid (next_cells wr (txL spare) 9)
      have HL := hid hl'
      clear hl'
      go_wp2_with (at_builtin; refine wpList_append_fits _ rfl (.tmp 22) (.tmp 23) 24 rfl w.heap.size 9 i0 1 Tryd.underlying24 hi hi1 w.heap.size l.length (l.length + 1) (l.map txL).flatten rfl M2r.out ⟨wr.heap.size, 0, none⟩ 1 1 (txL spare) rfl rfl N2.out (by simp [Value.oneCell']) (by omega) ?_; intro w4 hown4 hgrow4; have C4 := hid (MkR.cells M2.out.each HL.out rfl hown4); have K4 := hid (Blk.of_row hown4); have B4 := hid (M2.out.below.grown hgrow4 M2.out.below.size (fun j hj => by cases hj; exact Nat.le_refl _)); clear hown4 hgrow4)
      go_ret
      refine ⟨_, rfl, ⟨w.heap.size, l.length + 1, rfl, Nat.le_refl _, hlen, by omega, HO.out, fun i hi => ?_, ?_, K4.out⟩, B4.out⟩
      · have he : (l.map txL)[i]? = some (txL l[i]) := by rw [List.getElem?_map, List.getElem?_eq_getElem hi]; rfl
        simpa using C4.out.1 i _ 0 _ he rfl
      · simpa using C4.out.2 0 _ rfl
end Go.Proofs.YtakjkhfglihggaaDoor.Lex
