/-
  Some answers that the document fixes: the contract of alive.
-/
import Derived.Test.YtakjkhfglihggaaDoorG7
import Derived.Test.YtakjkhfglihggaaDoorG5
namespace Go.Proofs.YtakjkhfglihggaaDoor.Lex
open Go.ChangeShapes Go.WideShapes Go.ChangeAt Go.RowKit Go.Joins
abbrev exA : Ex := ⟨3, 0, ⟨#[97]⟩, []⟩
abbrev exB : Ex := ⟨3, 0, ⟨#[98]⟩, []⟩
abbrev exC : Ex := ⟨3, 0, ⟨#[99]⟩, []⟩
abbrev exD : Ex := ⟨2, 0, ⟨#[]⟩, []⟩
abbrev exZ : Ex := ⟨0, 0, ⟨#[]⟩, []⟩
theorem st_leaf (W : World) (x : Ex) (ha : x.args = []) (ho : x.op < 256) (hn : -9223372036854775808 ≤ x.n ∧ x.n ≤ 9223372036854775807) (hs : x.name.size ≤ 140737488355328) : St W x N0 := by
  obtain ⟨op, n, nm, args⟩ := x
  subst ha
  exact St.intro ⟨op, n, nm, []⟩ none 0 (fun _ => N0) ho hn hs (by simp) (by simp) (.inl rfl) (fun i hi => absurd hi (Nat.not_lt_zero i))
theorem stA (W : World) : St W exA N0 := st_leaf W exA rfl (by decide) (by decide) (by show (1 : Nat) ≤ _; omega)
theorem stB (W : World) : St W exB N0 := st_leaf W exB rfl (by decide) (by decide) (by show (1 : Nat) ≤ _; omega)
theorem stC (W : World) : St W exC N0 := st_leaf W exC rfl (by decide) (by decide) (by show (1 : Nat) ≤ _; omega)
theorem stD (W : World) : St W exD N0 := st_leaf W exD rfl (by decide) (by decide) (by show (0 : Nat) ≤ _; omega)
theorem stZ (W : World) : St W exZ N0 := st_leaf W exZ rfl (by decide) (by decide) (by show (0 : Nat) ≤ _; omega)
theorem st1 (W : World) (op : Nat) (x : Ex) (s : Value) (ho : op < 256) (hx : St W x s) : St (W.alloc (.cells #[.int .u8 (x.op : Int), .int .i64 x.n, .string x.name, s] 30)) ⟨op, 0, ⟨#[]⟩, [x]⟩ (.slice (some ⟨W.heap.size, 0, none⟩) 1 1) := by
  have hb := (Below.refl W.heap.size W).alloc (Nat.le_refl _) (.cells #[.int .u8 (x.op : Int), .int .i64 x.n, .string x.name, s] 30)
  have hr := heap_alloc_new W (.cells #[.int .u8 (x.op : Int), .int .i64 x.n, .string x.name, s] 30)
  refine St.intro ⟨op, 0, ⟨#[]⟩, [x]⟩ _ 1 (fun _ => s) ho ⟨by show (-9223372036854775808 : Int) ≤ 0; omega, by show (0 : Int) ≤ _; omega⟩ (by show (0 : Nat) ≤ _; omega) (by simp) (by simp) (.inr ⟨W.heap.size, 0, rfl, fun i hi => ?_⟩) (fun i hi => ?_)
  · have hi1 : i < 1 := hi
    obtain rfl : i = 0 := by omega
    refine ⟨?_, ?_, ?_, ?_⟩ <;> (rw [cell_of_row _ _ _ _ 30 (0, 0) hr]; rfl)
  · have hi1 : i < 1 := hi
    obtain rfl : i = 0 := by omega
    exact hx.keep hb
theorem st2 (W : World) (op : Nat) (x y : Ex) (s t : Value) (ho : op < 256) (hx : St W x s) (hy : St W y t) : St (W.alloc (.cells #[.int .u8 (x.op : Int), .int .i64 x.n, .string x.name, s, .int .u8 (y.op : Int), .int .i64 y.n, .string y.name, t] 30)) ⟨op, 0, ⟨#[]⟩, [x, y]⟩ (.slice (some ⟨W.heap.size, 0, none⟩) 2 2) := by
  have hb := (Below.refl W.heap.size W).alloc (Nat.le_refl _) (.cells #[.int .u8 (x.op : Int), .int .i64 x.n, .string x.name, s, .int .u8 (y.op : Int), .int .i64 y.n, .string y.name, t] 30)
  have hr := heap_alloc_new W (.cells #[.int .u8 (x.op : Int), .int .i64 x.n, .string x.name, s, .int .u8 (y.op : Int), .int .i64 y.n, .string y.name, t] 30)
  refine St.intro ⟨op, 0, ⟨#[]⟩, [x, y]⟩ _ 2 (fun i => if i = 0 then s else t) ho ⟨by show (-9223372036854775808 : Int) ≤ 0; omega, by show (0 : Int) ≤ _; omega⟩ (by show (0 : Nat) ≤ _; omega) (by simp) (by simp) (.inr ⟨W.heap.size, 0, rfl, fun i hi => ?_⟩) (fun i hi => ?_)
  · have hi1 : i < 2 := hi
    rcases (by omega : i = 0 ∨ i = 1) with rfl | rfl <;> refine ⟨?_, ?_, ?_, ?_⟩ <;> (rw [cell_of_row _ _ _ _ 30 (0, 0) hr]; rfl)
  · have hi1 : i < 2 := hi
    rcases (by omega : i = 0 ∨ i = 1) with rfl | rfl
    · exact hx.keep hb
    · exact hy.keep hb
theorem st3 (W : World) (op : Nat) (x y z : Ex) (s t u : Value) (ho : op < 256) (hx : St W x s) (hy : St W y t) (hz : St W z u) : St (W.alloc (.cells #[.int .u8 (x.op : Int), .int .i64 x.n, .string x.name, s, .int .u8 (y.op : Int), .int .i64 y.n, .string y.name, t, .int .u8 (z.op : Int), .int .i64 z.n, .string z.name, u] 30)) ⟨op, 0, ⟨#[]⟩, [x, y, z]⟩ (.slice (some ⟨W.heap.size, 0, none⟩) 3 3) := by
  have hb := (Below.refl W.heap.size W).alloc (Nat.le_refl _) (.cells #[.int .u8 (x.op : Int), .int .i64 x.n, .string x.name, s, .int .u8 (y.op : Int), .int .i64 y.n, .string y.name, t, .int .u8 (z.op : Int), .int .i64 z.n, .string z.name, u] 30)
  have hr := heap_alloc_new W (.cells #[.int .u8 (x.op : Int), .int .i64 x.n, .string x.name, s, .int .u8 (y.op : Int), .int .i64 y.n, .string y.name, t, .int .u8 (z.op : Int), .int .i64 z.n, .string z.name, u] 30)
  refine St.intro ⟨op, 0, ⟨#[]⟩, [x, y, z]⟩ _ 3 (fun i => if i = 0 then s else if i = 1 then t else u) ho ⟨by show (-9223372036854775808 : Int) ≤ 0; omega, by show (0 : Int) ≤ _; omega⟩ (by show (0 : Nat) ≤ _; omega) (by simp) (by simp) (.inr ⟨W.heap.size, 0, rfl, fun i hi => ?_⟩) (fun i hi => ?_)
  · have hi1 : i < 3 := hi
    rcases (by omega : i = 0 ∨ i = 1 ∨ i = 2) with rfl | rfl | rfl <;> refine ⟨?_, ?_, ?_, ?_⟩ <;> (rw [cell_of_row _ _ _ _ 30 (0, 0) hr]; rfl)
  · have hi1 : i < 3 := hi
    rcases (by omega : i = 0 ∨ i = 1 ∨ i = 2) with rfl | rfl | rfl
    · exact hx.keep hb
    · exact hy.keep hb
    · exact hz.keep hb
def findD (l : List (Int × Hd)) (name : ByteArray) : Option (Int × Hd) := l.find? fun x => x.2.name.data.toList == name.data.toList
theorem findT_D (l : List (Int × Hd)) (name : ByteArray) : findT l name = findD l name := by
  unfold findT findD
  congr 1
  funext x
  rw [ByteArray.toList_eq, ByteArray.toList_eq]
theorem asks_D (p : Pg) (x : Ex) : asksAll p x = (gat 32 x 0 []).all fun r => (findD (thingsL p) r.1).isSome := by
  unfold asksAll
  congr 1
  funext r
  rw [findT_D]
theorem tyA : tyN smQ ⟨#[97]⟩ = 1 := by unfold tyN; rw [findT_D]; decide +kernel
theorem tyB : tyN smQ ⟨#[98]⟩ = 2 := by unfold tyN; rw [findT_D]; decide +kernel
theorem of_good (x : Ex) (t : Nat) (h1 : chk x = true) (h2 : ((gat 32 x 0 []).all fun r => (findD (thingsL smQ) r.1).isSome) = true) (h3 : tyE smQ x = t) (h4 : t ≠ 0) : ofV smQ x = (t, 0) := by
  unfold ofV
  rw [if_neg (by rw [h1]; simp), if_neg (by rw [asks_D, h2]; simp), h3, if_neg h4]
theorem of_bad (x : Ex) (h1 : chk x = true) (h2 : ((gat 32 x 0 []).all fun r => (findD (thingsL smQ) r.1).isSome) = true) (h3 : tyE smQ x = 0) : ofV smQ x = (0, 7) := by
  unfold ofV
  rw [if_neg (by rw [h1]; simp), if_neg (by rw [asks_D, h2]; simp), h3, if_pos rfl]
theorem t1 : ofV smQ ⟨6, 0, ⟨#[]⟩, [exA, exA]⟩ = (1, 0) := of_good _ 1 (by decide +kernel) (by decide +kernel) (by simp [tyE_eq, ruleT, tyA, com]) (by decide)
theorem t2 : ofV smQ ⟨16, 0, ⟨#[]⟩, [⟨13, 0, ⟨#[]⟩, [exA, exA]⟩, exB]⟩ = (2, 0) := of_good _ 2 (by decide +kernel) (by decide +kernel) (by simp [tyE_eq, ruleT, tyA, tyB, com]) (by decide)
theorem t3 : ofV smQ ⟨17, 0, ⟨#[]⟩, [exB, exA, ⟨4, 0, ⟨#[]⟩, [exA]⟩]⟩ = (1, 0) := of_good _ 1 (by decide +kernel) (by decide +kernel) (by simp [tyE_eq, ruleT, tyA, tyB, com]) (by decide)
theorem t4 : ofV smQ ⟨18, 0, ⟨#[]⟩, [exA, ⟨19, 0, ⟨#[]⟩, [exA]⟩]⟩ = (1, 0) := of_good _ 1 (by decide +kernel) (by decide +kernel) (by simp [tyE_eq, ruleT, tyA, com]) (by decide)
theorem t5 : ofV smQ ⟨11, 0, ⟨#[]⟩, [exB, exB]⟩ = (2, 0) := of_good _ 2 (by decide +kernel) (by decide +kernel) (by simp [tyE_eq, ruleT, tyB, com]) (by decide)
theorem t6 : ofV smQ ⟨6, 0, ⟨#[]⟩, [exA, exB]⟩ = (0, 7) := of_bad _ (by decide +kernel) (by decide +kernel) (by simp [tyE_eq, ruleT, tyA, tyB, com])
theorem t7 : ofV smQ ⟨11, 0, ⟨#[]⟩, [exA, exB]⟩ = (0, 7) := of_bad _ (by decide +kernel) (by decide +kernel) (by simp [tyE_eq, ruleT, tyA, tyB, com])
theorem t8 : ofV smQ ⟨6, 0, ⟨#[]⟩, [exC, exD]⟩ = (0, 6) := by
  have h1 : chk ⟨6, 0, ⟨#[]⟩, [exC, exD]⟩ = true := by decide +kernel
  unfold ofV
  rw [if_neg (by rw [h1]; simp), if_pos (by rw [asks_D]; decide +kernel)]
theorem t9 : ofV smQ exZ = (0, 1) := by
  have h1 : chk exZ = false := by decide +kernel
  unfold ofV
  rw [if_pos h1]
theorem ckS : ckV smQ = 0 := by decide +kernel
/-- A world that alive has come to. -/
structure AWv (w : World) (ka kb : Nat) (W : World) : Prop where
  ra : W.heap[ka]? = some (.cells #[.int .u8 3, .int .i64 0, .string ⟨#[97]⟩, .slice none 0 0] 30 (0, 0))
  rb : W.heap[kb]? = some (.cells #[.int .u8 3, .int .i64 0, .string ⟨#[98]⟩, .slice none 0 0] 30 (0, 0))
  R : TabR W
  J : TabJ W
  below : Below w.heap.size w W
theorem AWv.keep {w W W' : World} {ka kb : Nat} (h : AWv w ka kb W) (hb : Below W.heap.size W W') : AWv w ka kb W' := ⟨keep_row h.ra hb, keep_row h.rb hb, h.R.below hb, h.J.below hb, bstep h.below hb⟩
theorem AWv.drew {w W : World} {ka kb : Nat} (h : AWv w ka kb W) : AWv w ka kb W.drew := h.keep (Below.refl _ _).drew
theorem AWv.cells {w W : World} {ka kb : Nat} (h : AWv w ka kb W) : W.cell? ⟨ka, 0, none⟩ = some (.int .u8 3) ∧ W.cell? ⟨ka, 1, none⟩ = some (.int .i64 0) ∧ W.cell? ⟨ka, 2, none⟩ = some (.string ⟨#[97]⟩) ∧ W.cell? ⟨ka, 3, none⟩ = some (.slice none 0 0) ∧ W.cell? ⟨kb, 0, none⟩ = some (.int .u8 3) ∧ W.cell? ⟨kb, 1, none⟩ = some (.int .i64 0) ∧ W.cell? ⟨kb, 2, none⟩ = some (.string ⟨#[98]⟩) ∧ W.cell? ⟨kb, 3, none⟩ = some (.slice none 0 0) := by
  refine ⟨?_, ?_, ?_, ?_, ?_, ?_, ?_, ?_⟩ <;> first | (rw [cell_of_row _ _ _ _ 30 (0, 0) h.ra]; rfl) | (rw [cell_of_row _ _ _ _ 30 (0, 0) h.rb]; rfl)
set_option maxRecDepth 100000 in
set_option maxHeartbeats 8000000 in
theorem alive (w : World) (hR : TabR w) (hJ : TabJ w) : Calls Tryd.prog 19 #[] w fun e w' => e = .returned (.bool true) ∧ Below w.heap.size w w' := by
  have HT := hid (And.intro hR hJ)
  clear hR hJ
  go_enter Tryd.func19, Tryd.ntmps19
  go_wp2_with (fail)
  refine (name_at ⟨#[97]⟩ _).mono ?_
  rintro e w1 ⟨rfl, hb1⟩
  go_wp2_with (fail)
  refine (name_at ⟨#[98]⟩ _).mono ?_
  rintro e w2 ⟨rfl, hb2⟩
  have BB := bstep hb1 (bstep ((Below.refl w1.heap.size w1).alloc (Nat.le_refl _) (.cells #[.int .u8 3, .int .i64 0, .string ⟨#[97]⟩, .slice none 0 0] 30)) (bstep hb2 ((Below.refl w2.heap.size w2).alloc (Nat.le_refl _) (.cells #[.int .u8 3, .int .i64 0, .string ⟨#[98]⟩, .slice none 0 0] 30))))
  have L0 : Hid (AWv w w1.heap.size w2.heap.size (w2.alloc (.cells #[.int .u8 3, .int .i64 0, .string ⟨#[98]⟩, .slice none 0 0] 30))) := hid ⟨push_old (keep_row (heap_alloc_new w1 _) hb2), heap_alloc_new w2 _, HT.out.1.below BB, HT.out.2.below BB, BB⟩
  clear BB hb1 hb2
  go_wp2_with (fail)
  generalize w2.alloc (.cells #[.int .u8 3, .int .i64 0, .string ⟨#[98]⟩, .slice none 0 0] 30) = W0 at *
  generalize w1.heap.size = ka at *
  generalize w2.heap.size = kb at *
  simp only [List.append_eq, List.cons_append, List.nil_append]
  refine wp_region_held_drew (S := fun W => W.cell? ⟨ka, 0, none⟩ = some (.int .u8 3) ∧ W.cell? ⟨ka, 1, none⟩ = some (.int .i64 0) ∧ W.cell? ⟨ka, 2, none⟩ = some (.string ⟨#[97]⟩) ∧ W.cell? ⟨ka, 3, none⟩ = some (.slice none 0 0) ∧ W.cell? ⟨kb, 0, none⟩ = some (.int .u8 3) ∧ W.cell? ⟨kb, 1, none⟩ = some (.int .i64 0) ∧ W.cell? ⟨kb, 2, none⟩ = some (.string ⟨#[98]⟩) ∧ W.cell? ⟨kb, 3, none⟩ = some (.slice none 0 0)) (by kernel_rfl) ?_ (fun hHeld => ?_)
  · exact L0.out.drew.cells
  have K0 := hid L0.out.drew
  refine wpAnyH_take (i := 0) (oi := { dst := some 5, op := Go.Op.load 30 (Go.Operand.tmp 1), type := 30, pos := _, after := #[], guard := none }) (v := ?_) rfl (by kernel_rfl) (by kernel_rfl) (by kernel_rfl) (fun _ _ _ h => h) (Or.inl ⟨by rfl, ?_⟩) (by assumption) ?_
  rotate_left
  · intro w hSw; (try dsimp only at hSw); go_simp <;> first | with_reducible rfl | (rw [if_neg (by first | omega | (simp only [ByteArray.size_append] at *; omega))])
  simp only [Act.put, List.setIfInBounds_toArray, List.set_cons_zero, List.set_cons_succ]
  refine wpAnyH_take (i := 1) (oi := { dst := some 6, op := Go.Op.load 30 (Go.Operand.tmp 1), type := 30, pos := _, after := #[], guard := none }) (v := ?_) rfl (by kernel_rfl) (by kernel_rfl) (by kernel_rfl) (fun _ _ _ h => h) (Or.inl ⟨by rfl, ?_⟩) (by assumption) ?_
  rotate_left
  · intro w hSw; (try dsimp only at hSw); go_simp <;> first | with_reducible rfl | (rw [if_neg (by first | omega | (simp only [ByteArray.size_append] at *; omega))])
  simp only [Act.put, List.setIfInBounds_toArray, List.set_cons_zero, List.set_cons_succ]
  refine wpAnyH_ready (rs := [2]) (by kernel_rfl) (by simp) ?_
  refine AllReadyH.cons (o := { dst := some 7, op := Go.Op.buildSlice 28 2 #[(0, Go.Operand.tmp 5), (1, Go.Operand.tmp 6)], type := 28, pos := _, after := #[{ on := 0, ground := Go.Ground.data }, { on := 1, ground := Go.Ground.data }], guard := none }) rfl (fun K hK => ?_) AllReadyH.nil
  go_simp
  go_wp2_with fail
  have SX1 := hid (st2 W0.drew 6 exA exA _ _ (by decide) (stA _) (stA _))
  have K1 := hid (K0.out.keep ((Below.refl _ _).alloc (Nat.le_refl _) (.cells #[.int .u8 3, .int .i64 0, .string ⟨#[97]⟩, .slice none 0 0, .int .u8 3, .int .i64 0, .string ⟨#[97]⟩, .slice none 0 0] 30)))
  refine hK.out _ _ ?_ (fun hHeld1 => ?_)
  · exact K1.out.cells
  clear hK K
  have HG1 : ∃ G, G = W0.drew.heap.size := ⟨_, rfl⟩
  refine wpAnyH_ready (rs := [3]) (by kernel_rfl) (by simp) ?_
  refine AllReadyH.cons (o := { dst := some 8, op := Go.Op.call { callee := Go.Callee.value (Go.Operand.func 45), args := #[Go.Operand.const (Go.Value.int Go.IntKind.u8 6), Go.Operand.tmp 7], argTypes := #[27, 28] }, type := 30, pos := _, after := #[{ on := 2, ground := Go.Ground.data }], guard := none }) rfl (fun K hK => ?_) AllReadyH.nil
  go_simp
  refine (of_pl 6 _ _ _ _).mono ?_
  rintro e v2 ⟨rfl, hb2⟩
  have K2 := hid (K1.out.keep hb2)
  have SY2 := hid (SX1.out.keep hb2)
  go_wp2_with fail
  refine hK.out _ _ ?_ (fun hHeld2 => ?_)
  · exact K2.out.cells
  clear hK K
  refine wpAnyH_ready (rs := [4]) (by kernel_rfl) (by simp) ?_
  refine AllReadyH.cons (o := { dst := some 9, op := Go.Op.call { callee := Go.Callee.value (Go.Operand.func 44), args := #[Go.Operand.tmp 8, Go.Operand.const (Go.Value.int Go.IntKind.u8 1), Go.Operand.const (Go.Value.int Go.IntKind.i64 0)], argTypes := #[30, 35, 36] }, type := 4, pos := _, after := #[{ on := 3, ground := Go.Ground.data }, { on := 3, ground := Go.Ground.chain }], guard := none }) rfl (fun K hK => ?_) AllReadyH.nil
  go_simp
  refine (is_at _ _ _ t1 _ _ SY2.out K2.out.R K2.out.J).mono ?_
  rintro e v3 ⟨rfl, hb3⟩
  have K3 := hid (K2.out.keep hb3)
  go_wp2_with fail
  refine hK.out _ _ ?_ (fun hHeld3 => ?_)
  · exact K3.out.cells
  clear hK K
  clear hb3
  refine wpAnyH_take (i := 5) (oi := { dst := some 10, op := Go.Op.move (Go.Operand.tmp 9), type := 4, pos := _, after := #[{ on := 4, ground := Go.Ground.data }, { on := 4, ground := Go.Ground.chain }], guard := none }) (v := ?_) rfl (by kernel_rfl) (by kernel_rfl) (by kernel_rfl) (fun _ _ _ h => h) (Or.inl ⟨by rfl, ?_⟩) (by assumption) ?_
  rotate_left
  · intro w hSw; (try dsimp only at hSw); go_simp <;> first | with_reducible rfl | (rw [if_neg (by first | omega | (simp only [ByteArray.size_append] at *; omega))])
  simp only [Act.put, List.setIfInBounds_toArray, List.set_cons_zero, List.set_cons_succ]
  refine wpAnyH_take (i := 6) (oi := { dst := some 11, op := Go.Op.load 30 (Go.Operand.tmp 1), type := 30, pos := _, after := #[{ on := 5, ground := Go.Ground.guard }], guard := some (5, true) }) (v := ?_) rfl (by kernel_rfl) (by kernel_rfl) (by kernel_rfl) (fun _ _ _ h => h) (Or.inl ⟨by rfl, ?_⟩) (by assumption) ?_
  rotate_left
  · intro w hSw; (try dsimp only at hSw); go_simp <;> first | with_reducible rfl | (rw [if_neg (by first | omega | (simp only [ByteArray.size_append] at *; omega))])
  simp only [Act.put, List.setIfInBounds_toArray, List.set_cons_zero, List.set_cons_succ]
  refine wpAnyH_take (i := 7) (oi := { dst := some 12, op := Go.Op.load 30 (Go.Operand.tmp 1), type := 30, pos := _, after := #[{ on := 5, ground := Go.Ground.guard }], guard := some (5, true) }) (v := ?_) rfl (by kernel_rfl) (by kernel_rfl) (by kernel_rfl) (fun _ _ _ h => h) (Or.inl ⟨by rfl, ?_⟩) (by assumption) ?_
  rotate_left
  · intro w hSw; (try dsimp only at hSw); go_simp <;> first | with_reducible rfl | (rw [if_neg (by first | omega | (simp only [ByteArray.size_append] at *; omega))])
  simp only [Act.put, List.setIfInBounds_toArray, List.set_cons_zero, List.set_cons_succ]
  refine wpAnyH_take (i := 10) (oi := { dst := some 15, op := Go.Op.load 30 (Go.Operand.tmp 2), type := 30, pos := _, after := #[{ on := 5, ground := Go.Ground.guard }], guard := some (5, true) }) (v := ?_) rfl (by kernel_rfl) (by kernel_rfl) (by kernel_rfl) (fun _ _ _ h => h) (Or.inl ⟨by rfl, ?_⟩) (by assumption) ?_
  rotate_left
  · intro w hSw; (try dsimp only at hSw); go_simp <;> first | with_reducible rfl | (rw [if_neg (by first | omega | (simp only [ByteArray.size_append] at *; omega))])
  simp only [Act.put, List.setIfInBounds_toArray, List.set_cons_zero, List.set_cons_succ]
  refine wpAnyH_ready (rs := [8]) (by kernel_rfl) (by simp) ?_
  refine AllReadyH.cons (o := { dst := some 13, op := Go.Op.buildSlice 28 2 #[(0, Go.Operand.tmp 11), (1, Go.Operand.tmp 12)], type := 28, pos := _, after := #[{ on := 6, ground := Go.Ground.data }, { on := 7, ground := Go.Ground.data }, { on := 5, ground := Go.Ground.guard }], guard := some (5, true) }) rfl (fun K hK => ?_) AllReadyH.nil
  go_simp
  go_wp2_with fail
  have SX4 := hid (st2 v3 13 exA exA _ _ (by decide) (stA _) (stA _))
  have K4 := hid (K3.out.keep ((Below.refl _ _).alloc (Nat.le_refl _) (.cells #[.int .u8 3, .int .i64 0, .string ⟨#[97]⟩, .slice none 0 0, .int .u8 3, .int .i64 0, .string ⟨#[97]⟩, .slice none 0 0] 30)))
  refine hK.out _ _ ?_ (fun hHeld4 => ?_)
  · exact K4.out.cells
  clear hK K
  have HG4 : ∃ G, G = v3.heap.size := ⟨_, rfl⟩
  refine wpAnyH_ready (rs := [9]) (by kernel_rfl) (by simp) ?_
  refine AllReadyH.cons (o := { dst := some 14, op := Go.Op.call { callee := Go.Callee.value (Go.Operand.func 45), args := #[Go.Operand.const (Go.Value.int Go.IntKind.u8 13), Go.Operand.tmp 13], argTypes := #[27, 28] }, type := 30, pos := _, after := #[{ on := 8, ground := Go.Ground.data }, { on := 5, ground := Go.Ground.chain }, { on := 5, ground := Go.Ground.guard }], guard := some (5, true) }) rfl (fun K hK => ?_) AllReadyH.nil
  go_simp
  refine (of_pl 13 _ _ _ _).mono ?_
  rintro e v5 ⟨rfl, hb5⟩
  have K5 := hid (K4.out.keep hb5)
  have SY5 := hid (SX4.out.keep hb5)
  go_wp2_with fail
  refine hK.out _ _ ?_ (fun hHeld5 => ?_)
  · exact K5.out.cells
  clear hK K
  refine wpAnyH_ready (rs := [11]) (by kernel_rfl) (by simp) ?_
  refine AllReadyH.cons (o := { dst := some 16, op := Go.Op.buildSlice 28 2 #[(0, Go.Operand.tmp 14), (1, Go.Operand.tmp 15)], type := 28, pos := _, after := #[{ on := 9, ground := Go.Ground.data }, { on := 10, ground := Go.Ground.data }, { on := 5, ground := Go.Ground.guard }], guard := some (5, true) }) rfl (fun K hK => ?_) AllReadyH.nil
  go_simp
  go_wp2_with fail
  have SX6 := hid (st2 v5 16 ⟨13, 0, ⟨#[]⟩, [exA, exA]⟩ exB _ _ (by decide) SY5.out (stB _))
  have K6 := hid (K5.out.keep ((Below.refl _ _).alloc (Nat.le_refl _) (.cells #[.int .u8 13, .int .i64 0, .string ⟨#[]⟩, .slice (some ⟨v3.heap.size, 0, none⟩) 2 2, .int .u8 3, .int .i64 0, .string ⟨#[98]⟩, .slice none 0 0] 30)))
  refine hK.out _ _ ?_ (fun hHeld6 => ?_)
  · exact K6.out.cells
  clear hK K
  have HG6 : ∃ G, G = v5.heap.size := ⟨_, rfl⟩
  refine wpAnyH_ready (rs := [12]) (by kernel_rfl) (by simp) ?_
  refine AllReadyH.cons (o := { dst := some 17, op := Go.Op.call { callee := Go.Callee.value (Go.Operand.func 45), args := #[Go.Operand.const (Go.Value.int Go.IntKind.u8 16), Go.Operand.tmp 16], argTypes := #[27, 28] }, type := 30, pos := _, after := #[{ on := 11, ground := Go.Ground.data }, { on := 9, ground := Go.Ground.chain }, { on := 5, ground := Go.Ground.guard }], guard := some (5, true) }) rfl (fun K hK => ?_) AllReadyH.nil
  go_simp
  refine (of_pl 16 _ _ _ _).mono ?_
  rintro e v7 ⟨rfl, hb7⟩
  have K7 := hid (K6.out.keep hb7)
  have SY7 := hid (SX6.out.keep hb7)
  go_wp2_with fail
  refine hK.out _ _ ?_ (fun hHeld7 => ?_)
  · exact K7.out.cells
  clear hK K
  refine wpAnyH_ready (rs := [13]) (by kernel_rfl) (by simp) ?_
  refine AllReadyH.cons (o := { dst := some 18, op := Go.Op.call { callee := Go.Callee.value (Go.Operand.func 44), args := #[Go.Operand.tmp 17, Go.Operand.const (Go.Value.int Go.IntKind.u8 2), Go.Operand.const (Go.Value.int Go.IntKind.i64 0)], argTypes := #[30, 35, 36] }, type := 4, pos := _, after := #[{ on := 12, ground := Go.Ground.data }, { on := 12, ground := Go.Ground.chain }, { on := 5, ground := Go.Ground.guard }], guard := some (5, true) }) rfl (fun K hK => ?_) AllReadyH.nil
  go_simp
  refine (is_at _ _ _ t2 _ _ SY7.out K7.out.R K7.out.J).mono ?_
  rintro e v8 ⟨rfl, hb8⟩
  have K8 := hid (K7.out.keep hb8)
  go_wp2_with fail
  refine hK.out _ _ ?_ (fun hHeld8 => ?_)
  · exact K8.out.cells
  clear hK K
  clear hb8
  refine wpAnyH_take (i := 14) (oi := { dst := some 19, op := Go.Op.pick (Go.Operand.tmp 10) (Go.Operand.tmp 18) (Go.Operand.const (Go.Value.bool false)), type := 4, pos := _, after := #[{ on := 5, ground := Go.Ground.data }, { on := 13, ground := Go.Ground.data }], guard := none }) (v := ?_) rfl (by kernel_rfl) (by kernel_rfl) (by kernel_rfl) (fun _ _ _ h => h) (Or.inl ⟨by rfl, ?_⟩) (by assumption) ?_
  rotate_left
  · intro w hSw; (try dsimp only at hSw); go_simp <;> first | with_reducible rfl | (rw [if_neg (by first | omega | (simp only [ByteArray.size_append] at *; omega))])
  simp only [Act.put, List.setIfInBounds_toArray, List.set_cons_zero, List.set_cons_succ]
  refine wpAnyH_take (i := 15) (oi := { dst := some 20, op := Go.Op.move (Go.Operand.tmp 19), type := 4, pos := _, after := #[{ on := 14, ground := Go.Ground.data }, { on := 13, ground := Go.Ground.chain }], guard := none }) (v := ?_) rfl (by kernel_rfl) (by kernel_rfl) (by kernel_rfl) (fun _ _ _ h => h) (Or.inl ⟨by rfl, ?_⟩) (by assumption) ?_
  rotate_left
  · intro w hSw; (try dsimp only at hSw); go_simp <;> first | with_reducible rfl | (rw [if_neg (by first | omega | (simp only [ByteArray.size_append] at *; omega))])
  simp only [Act.put, List.setIfInBounds_toArray, List.set_cons_zero, List.set_cons_succ]
  refine wpAnyH_take (i := 16) (oi := { dst := some 21, op := Go.Op.load 30 (Go.Operand.tmp 2), type := 30, pos := _, after := #[{ on := 15, ground := Go.Ground.guard }], guard := some (15, true) }) (v := ?_) rfl (by kernel_rfl) (by kernel_rfl) (by kernel_rfl) (fun _ _ _ h => h) (Or.inl ⟨by rfl, ?_⟩) (by assumption) ?_
  rotate_left
  · intro w hSw; (try dsimp only at hSw); go_simp <;> first | with_reducible rfl | (rw [if_neg (by first | omega | (simp only [ByteArray.size_append] at *; omega))])
  simp only [Act.put, List.setIfInBounds_toArray, List.set_cons_zero, List.set_cons_succ]
  refine wpAnyH_take (i := 17) (oi := { dst := some 22, op := Go.Op.load 30 (Go.Operand.tmp 1), type := 30, pos := _, after := #[{ on := 15, ground := Go.Ground.guard }], guard := some (15, true) }) (v := ?_) rfl (by kernel_rfl) (by kernel_rfl) (by kernel_rfl) (fun _ _ _ h => h) (Or.inl ⟨by rfl, ?_⟩) (by assumption) ?_
  rotate_left
  · intro w hSw; (try dsimp only at hSw); go_simp <;> first | with_reducible rfl | (rw [if_neg (by first | omega | (simp only [ByteArray.size_append] at *; omega))])
  simp only [Act.put, List.setIfInBounds_toArray, List.set_cons_zero, List.set_cons_succ]
  refine wpAnyH_take (i := 18) (oi := { dst := some 23, op := Go.Op.load 30 (Go.Operand.tmp 1), type := 30, pos := _, after := #[{ on := 15, ground := Go.Ground.guard }], guard := some (15, true) }) (v := ?_) rfl (by kernel_rfl) (by kernel_rfl) (by kernel_rfl) (fun _ _ _ h => h) (Or.inl ⟨by rfl, ?_⟩) (by assumption) ?_
  rotate_left
  · intro w hSw; (try dsimp only at hSw); go_simp <;> first | with_reducible rfl | (rw [if_neg (by first | omega | (simp only [ByteArray.size_append] at *; omega))])
  simp only [Act.put, List.setIfInBounds_toArray, List.set_cons_zero, List.set_cons_succ]
  refine wpAnyH_ready (rs := [19]) (by kernel_rfl) (by simp) ?_
  refine AllReadyH.cons (o := { dst := some 24, op := Go.Op.buildSlice 28 1 #[(0, Go.Operand.tmp 23)], type := 28, pos := _, after := #[{ on := 18, ground := Go.Ground.data }, { on := 15, ground := Go.Ground.guard }], guard := some (15, true) }) rfl (fun K hK => ?_) AllReadyH.nil
  go_simp
  go_wp2_with fail
  have SX9 := hid (st1 v8 4 exA _ (by decide) (stA _))
  have K9 := hid (K8.out.keep ((Below.refl _ _).alloc (Nat.le_refl _) (.cells #[.int .u8 3, .int .i64 0, .string ⟨#[97]⟩, .slice none 0 0] 30)))
  refine hK.out _ _ ?_ (fun hHeld9 => ?_)
  · exact K9.out.cells
  clear hK K
  have HG9 : ∃ G, G = v8.heap.size := ⟨_, rfl⟩
  refine wpAnyH_ready (rs := [20]) (by kernel_rfl) (by simp) ?_
  refine AllReadyH.cons (o := { dst := some 25, op := Go.Op.call { callee := Go.Callee.value (Go.Operand.func 45), args := #[Go.Operand.const (Go.Value.int Go.IntKind.u8 4), Go.Operand.tmp 24], argTypes := #[27, 28] }, type := 30, pos := _, after := #[{ on := 19, ground := Go.Ground.data }, { on := 15, ground := Go.Ground.chain }, { on := 15, ground := Go.Ground.guard }], guard := some (15, true) }) rfl (fun K hK => ?_) AllReadyH.nil
  go_simp
  refine (of_pl 4 _ _ _ _).mono ?_
  rintro e v10 ⟨rfl, hb10⟩
  have K10 := hid (K9.out.keep hb10)
  have SY10 := hid (SX9.out.keep hb10)
  go_wp2_with fail
  refine hK.out _ _ ?_ (fun hHeld10 => ?_)
  · exact K10.out.cells
  clear hK K
  refine wpAnyH_ready (rs := [21]) (by kernel_rfl) (by simp) ?_
  refine AllReadyH.cons (o := { dst := some 26, op := Go.Op.buildSlice 28 3 #[(0, Go.Operand.tmp 21), (1, Go.Operand.tmp 22), (2, Go.Operand.tmp 25)], type := 28, pos := _, after := #[{ on := 16, ground := Go.Ground.data }, { on := 17, ground := Go.Ground.data }, { on := 20, ground := Go.Ground.data }, { on := 15, ground := Go.Ground.guard }], guard := some (15, true) }) rfl (fun K hK => ?_) AllReadyH.nil
  go_simp
  go_wp2_with fail
  have SX11 := hid (st3 v10 17 exB exA ⟨4, 0, ⟨#[]⟩, [exA]⟩ _ _ _ (by decide) (stB _) (stA _) SY10.out)
  have K11 := hid (K10.out.keep ((Below.refl _ _).alloc (Nat.le_refl _) (.cells #[.int .u8 3, .int .i64 0, .string ⟨#[98]⟩, .slice none 0 0, .int .u8 3, .int .i64 0, .string ⟨#[97]⟩, .slice none 0 0, .int .u8 4, .int .i64 0, .string ⟨#[]⟩, .slice (some ⟨v8.heap.size, 0, none⟩) 1 1] 30)))
  refine hK.out _ _ ?_ (fun hHeld11 => ?_)
  · exact K11.out.cells
  clear hK K
  have HG11 : ∃ G, G = v10.heap.size := ⟨_, rfl⟩
  refine wpAnyH_ready (rs := [22]) (by kernel_rfl) (by simp) ?_
  refine AllReadyH.cons (o := { dst := some 27, op := Go.Op.call { callee := Go.Callee.value (Go.Operand.func 45), args := #[Go.Operand.const (Go.Value.int Go.IntKind.u8 17), Go.Operand.tmp 26], argTypes := #[27, 28] }, type := 30, pos := _, after := #[{ on := 21, ground := Go.Ground.data }, { on := 20, ground := Go.Ground.chain }, { on := 15, ground := Go.Ground.guard }], guard := some (15, true) }) rfl (fun K hK => ?_) AllReadyH.nil
  go_simp
  refine (of_pl 17 _ _ _ _).mono ?_
  rintro e v12 ⟨rfl, hb12⟩
  have K12 := hid (K11.out.keep hb12)
  have SY12 := hid (SX11.out.keep hb12)
  go_wp2_with fail
  refine hK.out _ _ ?_ (fun hHeld12 => ?_)
  · exact K12.out.cells
  clear hK K
  refine wpAnyH_ready (rs := [23]) (by kernel_rfl) (by simp) ?_
  refine AllReadyH.cons (o := { dst := some 28, op := Go.Op.call { callee := Go.Callee.value (Go.Operand.func 44), args := #[Go.Operand.tmp 27, Go.Operand.const (Go.Value.int Go.IntKind.u8 1), Go.Operand.const (Go.Value.int Go.IntKind.i64 0)], argTypes := #[30, 35, 36] }, type := 4, pos := _, after := #[{ on := 22, ground := Go.Ground.data }, { on := 22, ground := Go.Ground.chain }, { on := 15, ground := Go.Ground.guard }], guard := some (15, true) }) rfl (fun K hK => ?_) AllReadyH.nil
  go_simp
  refine (is_at _ _ _ t3 _ _ SY12.out K12.out.R K12.out.J).mono ?_
  rintro e v13 ⟨rfl, hb13⟩
  have K13 := hid (K12.out.keep hb13)
  go_wp2_with fail
  refine hK.out _ _ ?_ (fun hHeld13 => ?_)
  · exact K13.out.cells
  clear hK K
  clear hb13
  refine wpAnyH_take (i := 24) (oi := { dst := some 29, op := Go.Op.pick (Go.Operand.tmp 20) (Go.Operand.tmp 28) (Go.Operand.const (Go.Value.bool false)), type := 4, pos := _, after := #[{ on := 15, ground := Go.Ground.data }, { on := 23, ground := Go.Ground.data }], guard := none }) (v := ?_) rfl (by kernel_rfl) (by kernel_rfl) (by kernel_rfl) (fun _ _ _ h => h) (Or.inl ⟨by rfl, ?_⟩) (by assumption) ?_
  rotate_left
  · intro w hSw; (try dsimp only at hSw); go_simp <;> first | with_reducible rfl | (rw [if_neg (by first | omega | (simp only [ByteArray.size_append] at *; omega))])
  simp only [Act.put, List.setIfInBounds_toArray, List.set_cons_zero, List.set_cons_succ]
  refine wpAnyH_take (i := 25) (oi := { dst := some 30, op := Go.Op.move (Go.Operand.tmp 29), type := 4, pos := _, after := #[{ on := 24, ground := Go.Ground.data }, { on := 23, ground := Go.Ground.chain }], guard := none }) (v := ?_) rfl (by kernel_rfl) (by kernel_rfl) (by kernel_rfl) (fun _ _ _ h => h) (Or.inl ⟨by rfl, ?_⟩) (by assumption) ?_
  rotate_left
  · intro w hSw; (try dsimp only at hSw); go_simp <;> first | with_reducible rfl | (rw [if_neg (by first | omega | (simp only [ByteArray.size_append] at *; omega))])
  simp only [Act.put, List.setIfInBounds_toArray, List.set_cons_zero, List.set_cons_succ]
  refine wpAnyH_take (i := 26) (oi := { dst := some 31, op := Go.Op.load 30 (Go.Operand.tmp 1), type := 30, pos := _, after := #[{ on := 25, ground := Go.Ground.guard }], guard := some (25, true) }) (v := ?_) rfl (by kernel_rfl) (by kernel_rfl) (by kernel_rfl) (fun _ _ _ h => h) (Or.inl ⟨by rfl, ?_⟩) (by assumption) ?_
  rotate_left
  · intro w hSw; (try dsimp only at hSw); go_simp <;> first | with_reducible rfl | (rw [if_neg (by first | omega | (simp only [ByteArray.size_append] at *; omega))])
  simp only [Act.put, List.setIfInBounds_toArray, List.set_cons_zero, List.set_cons_succ]
  refine wpAnyH_take (i := 27) (oi := { dst := some 32, op := Go.Op.load 30 (Go.Operand.tmp 1), type := 30, pos := _, after := #[{ on := 25, ground := Go.Ground.guard }], guard := some (25, true) }) (v := ?_) rfl (by kernel_rfl) (by kernel_rfl) (by kernel_rfl) (fun _ _ _ h => h) (Or.inl ⟨by rfl, ?_⟩) (by assumption) ?_
  rotate_left
  · intro w hSw; (try dsimp only at hSw); go_simp <;> first | with_reducible rfl | (rw [if_neg (by first | omega | (simp only [ByteArray.size_append] at *; omega))])
  simp only [Act.put, List.setIfInBounds_toArray, List.set_cons_zero, List.set_cons_succ]
  refine wpAnyH_ready (rs := [28]) (by kernel_rfl) (by simp) ?_
  refine AllReadyH.cons (o := { dst := some 33, op := Go.Op.buildSlice 28 1 #[(0, Go.Operand.tmp 32)], type := 28, pos := _, after := #[{ on := 27, ground := Go.Ground.data }, { on := 25, ground := Go.Ground.guard }], guard := some (25, true) }) rfl (fun K hK => ?_) AllReadyH.nil
  go_simp
  go_wp2_with fail
  have SX14 := hid (st1 v13 19 exA _ (by decide) (stA _))
  have K14 := hid (K13.out.keep ((Below.refl _ _).alloc (Nat.le_refl _) (.cells #[.int .u8 3, .int .i64 0, .string ⟨#[97]⟩, .slice none 0 0] 30)))
  refine hK.out _ _ ?_ (fun hHeld14 => ?_)
  · exact K14.out.cells
  clear hK K
  have HG14 : ∃ G, G = v13.heap.size := ⟨_, rfl⟩
  refine wpAnyH_ready (rs := [29]) (by kernel_rfl) (by simp) ?_
  refine AllReadyH.cons (o := { dst := some 34, op := Go.Op.call { callee := Go.Callee.value (Go.Operand.func 45), args := #[Go.Operand.const (Go.Value.int Go.IntKind.u8 19), Go.Operand.tmp 33], argTypes := #[27, 28] }, type := 30, pos := _, after := #[{ on := 28, ground := Go.Ground.data }, { on := 25, ground := Go.Ground.chain }, { on := 25, ground := Go.Ground.guard }], guard := some (25, true) }) rfl (fun K hK => ?_) AllReadyH.nil
  go_simp
  refine (of_pl 19 _ _ _ _).mono ?_
  rintro e v15 ⟨rfl, hb15⟩
  have K15 := hid (K14.out.keep hb15)
  have SY15 := hid (SX14.out.keep hb15)
  go_wp2_with fail
  refine hK.out _ _ ?_ (fun hHeld15 => ?_)
  · exact K15.out.cells
  clear hK K
  refine wpAnyH_ready (rs := [30]) (by kernel_rfl) (by simp) ?_
  refine AllReadyH.cons (o := { dst := some 35, op := Go.Op.buildSlice 28 2 #[(0, Go.Operand.tmp 31), (1, Go.Operand.tmp 34)], type := 28, pos := _, after := #[{ on := 26, ground := Go.Ground.data }, { on := 29, ground := Go.Ground.data }, { on := 25, ground := Go.Ground.guard }], guard := some (25, true) }) rfl (fun K hK => ?_) AllReadyH.nil
  go_simp
  go_wp2_with fail
  have SX16 := hid (st2 v15 18 exA ⟨19, 0, ⟨#[]⟩, [exA]⟩ _ _ (by decide) (stA _) SY15.out)
  have K16 := hid (K15.out.keep ((Below.refl _ _).alloc (Nat.le_refl _) (.cells #[.int .u8 3, .int .i64 0, .string ⟨#[97]⟩, .slice none 0 0, .int .u8 19, .int .i64 0, .string ⟨#[]⟩, .slice (some ⟨v13.heap.size, 0, none⟩) 1 1] 30)))
  refine hK.out _ _ ?_ (fun hHeld16 => ?_)
  · exact K16.out.cells
  clear hK K
  have HG16 : ∃ G, G = v15.heap.size := ⟨_, rfl⟩
  refine wpAnyH_ready (rs := [31]) (by kernel_rfl) (by simp) ?_
  refine AllReadyH.cons (o := { dst := some 36, op := Go.Op.call { callee := Go.Callee.value (Go.Operand.func 45), args := #[Go.Operand.const (Go.Value.int Go.IntKind.u8 18), Go.Operand.tmp 35], argTypes := #[27, 28] }, type := 30, pos := _, after := #[{ on := 30, ground := Go.Ground.data }, { on := 29, ground := Go.Ground.chain }, { on := 25, ground := Go.Ground.guard }], guard := some (25, true) }) rfl (fun K hK => ?_) AllReadyH.nil
  go_simp
  refine (of_pl 18 _ _ _ _).mono ?_
  rintro e v17 ⟨rfl, hb17⟩
  have K17 := hid (K16.out.keep hb17)
  have SY17 := hid (SX16.out.keep hb17)
  go_wp2_with fail
  refine hK.out _ _ ?_ (fun hHeld17 => ?_)
  · exact K17.out.cells
  clear hK K
  refine wpAnyH_ready (rs := [32]) (by kernel_rfl) (by simp) ?_
  refine AllReadyH.cons (o := { dst := some 37, op := Go.Op.call { callee := Go.Callee.value (Go.Operand.func 44), args := #[Go.Operand.tmp 36, Go.Operand.const (Go.Value.int Go.IntKind.u8 1), Go.Operand.const (Go.Value.int Go.IntKind.i64 0)], argTypes := #[30, 35, 36] }, type := 4, pos := _, after := #[{ on := 31, ground := Go.Ground.data }, { on := 31, ground := Go.Ground.chain }, { on := 25, ground := Go.Ground.guard }], guard := some (25, true) }) rfl (fun K hK => ?_) AllReadyH.nil
  go_simp
  refine (is_at _ _ _ t4 _ _ SY17.out K17.out.R K17.out.J).mono ?_
  rintro e v18 ⟨rfl, hb18⟩
  have K18 := hid (K17.out.keep hb18)
  go_wp2_with fail
  refine hK.out _ _ ?_ (fun hHeld18 => ?_)
  · exact K18.out.cells
  clear hK K
  clear hb18
  refine wpAnyH_take (i := 33) (oi := { dst := some 38, op := Go.Op.pick (Go.Operand.tmp 30) (Go.Operand.tmp 37) (Go.Operand.const (Go.Value.bool false)), type := 4, pos := _, after := #[{ on := 25, ground := Go.Ground.data }, { on := 32, ground := Go.Ground.data }], guard := none }) (v := ?_) rfl (by kernel_rfl) (by kernel_rfl) (by kernel_rfl) (fun _ _ _ h => h) (Or.inl ⟨by rfl, ?_⟩) (by assumption) ?_
  rotate_left
  · intro w hSw; (try dsimp only at hSw); go_simp <;> first | with_reducible rfl | (rw [if_neg (by first | omega | (simp only [ByteArray.size_append] at *; omega))])
  simp only [Act.put, List.setIfInBounds_toArray, List.set_cons_zero, List.set_cons_succ]
  refine wpAnyH_take (i := 34) (oi := { dst := some 39, op := Go.Op.move (Go.Operand.tmp 38), type := 4, pos := _, after := #[{ on := 33, ground := Go.Ground.data }, { on := 32, ground := Go.Ground.chain }], guard := none }) (v := ?_) rfl (by kernel_rfl) (by kernel_rfl) (by kernel_rfl) (fun _ _ _ h => h) (Or.inl ⟨by rfl, ?_⟩) (by assumption) ?_
  rotate_left
  · intro w hSw; (try dsimp only at hSw); go_simp <;> first | with_reducible rfl | (rw [if_neg (by first | omega | (simp only [ByteArray.size_append] at *; omega))])
  simp only [Act.put, List.setIfInBounds_toArray, List.set_cons_zero, List.set_cons_succ]
  refine wpAnyH_take (i := 35) (oi := { dst := some 40, op := Go.Op.load 30 (Go.Operand.tmp 2), type := 30, pos := _, after := #[{ on := 34, ground := Go.Ground.guard }], guard := some (34, true) }) (v := ?_) rfl (by kernel_rfl) (by kernel_rfl) (by kernel_rfl) (fun _ _ _ h => h) (Or.inl ⟨by rfl, ?_⟩) (by assumption) ?_
  rotate_left
  · intro w hSw; (try dsimp only at hSw); go_simp <;> first | with_reducible rfl | (rw [if_neg (by first | omega | (simp only [ByteArray.size_append] at *; omega))])
  simp only [Act.put, List.setIfInBounds_toArray, List.set_cons_zero, List.set_cons_succ]
  refine wpAnyH_take (i := 36) (oi := { dst := some 41, op := Go.Op.load 30 (Go.Operand.tmp 2), type := 30, pos := _, after := #[{ on := 34, ground := Go.Ground.guard }], guard := some (34, true) }) (v := ?_) rfl (by kernel_rfl) (by kernel_rfl) (by kernel_rfl) (fun _ _ _ h => h) (Or.inl ⟨by rfl, ?_⟩) (by assumption) ?_
  rotate_left
  · intro w hSw; (try dsimp only at hSw); go_simp <;> first | with_reducible rfl | (rw [if_neg (by first | omega | (simp only [ByteArray.size_append] at *; omega))])
  simp only [Act.put, List.setIfInBounds_toArray, List.set_cons_zero, List.set_cons_succ]
  refine wpAnyH_ready (rs := [37]) (by kernel_rfl) (by simp) ?_
  refine AllReadyH.cons (o := { dst := some 42, op := Go.Op.buildSlice 28 2 #[(0, Go.Operand.tmp 40), (1, Go.Operand.tmp 41)], type := 28, pos := _, after := #[{ on := 35, ground := Go.Ground.data }, { on := 36, ground := Go.Ground.data }, { on := 34, ground := Go.Ground.guard }], guard := some (34, true) }) rfl (fun K hK => ?_) AllReadyH.nil
  go_simp
  go_wp2_with fail
  have SX19 := hid (st2 v18 11 exB exB _ _ (by decide) (stB _) (stB _))
  have K19 := hid (K18.out.keep ((Below.refl _ _).alloc (Nat.le_refl _) (.cells #[.int .u8 3, .int .i64 0, .string ⟨#[98]⟩, .slice none 0 0, .int .u8 3, .int .i64 0, .string ⟨#[98]⟩, .slice none 0 0] 30)))
  refine hK.out _ _ ?_ (fun hHeld19 => ?_)
  · exact K19.out.cells
  clear hK K
  have HG19 : ∃ G, G = v18.heap.size := ⟨_, rfl⟩
  refine wpAnyH_ready (rs := [38]) (by kernel_rfl) (by simp) ?_
  refine AllReadyH.cons (o := { dst := some 43, op := Go.Op.call { callee := Go.Callee.value (Go.Operand.func 45), args := #[Go.Operand.const (Go.Value.int Go.IntKind.u8 11), Go.Operand.tmp 42], argTypes := #[27, 28] }, type := 30, pos := _, after := #[{ on := 37, ground := Go.Ground.data }, { on := 34, ground := Go.Ground.chain }, { on := 34, ground := Go.Ground.guard }], guard := some (34, true) }) rfl (fun K hK => ?_) AllReadyH.nil
  go_simp
  refine (of_pl 11 _ _ _ _).mono ?_
  rintro e v20 ⟨rfl, hb20⟩
  have K20 := hid (K19.out.keep hb20)
  have SY20 := hid (SX19.out.keep hb20)
  go_wp2_with fail
  refine hK.out _ _ ?_ (fun hHeld20 => ?_)
  · exact K20.out.cells
  clear hK K
  refine wpAnyH_ready (rs := [39]) (by kernel_rfl) (by simp) ?_
  refine AllReadyH.cons (o := { dst := some 44, op := Go.Op.call { callee := Go.Callee.value (Go.Operand.func 44), args := #[Go.Operand.tmp 43, Go.Operand.const (Go.Value.int Go.IntKind.u8 2), Go.Operand.const (Go.Value.int Go.IntKind.i64 0)], argTypes := #[30, 35, 36] }, type := 4, pos := _, after := #[{ on := 38, ground := Go.Ground.data }, { on := 38, ground := Go.Ground.chain }, { on := 34, ground := Go.Ground.guard }], guard := some (34, true) }) rfl (fun K hK => ?_) AllReadyH.nil
  go_simp
  refine (is_at _ _ _ t5 _ _ SY20.out K20.out.R K20.out.J).mono ?_
  rintro e v21 ⟨rfl, hb21⟩
  have K21 := hid (K20.out.keep hb21)
  go_wp2_with fail
  refine hK.out _ _ ?_ (fun hHeld21 => ?_)
  · exact K21.out.cells
  clear hK K
  clear hb21
  refine wpAnyH_take (i := 40) (oi := { dst := some 45, op := Go.Op.pick (Go.Operand.tmp 39) (Go.Operand.tmp 44) (Go.Operand.const (Go.Value.bool false)), type := 4, pos := _, after := #[{ on := 34, ground := Go.Ground.data }, { on := 39, ground := Go.Ground.data }], guard := none }) (v := ?_) rfl (by kernel_rfl) (by kernel_rfl) (by kernel_rfl) (fun _ _ _ h => h) (Or.inl ⟨by rfl, ?_⟩) (by assumption) ?_
  rotate_left
  · intro w hSw; (try dsimp only at hSw); go_simp <;> first | with_reducible rfl | (rw [if_neg (by first | omega | (simp only [ByteArray.size_append] at *; omega))])
  simp only [Act.put, List.setIfInBounds_toArray, List.set_cons_zero, List.set_cons_succ]
  refine wpAnyH_take (i := 41) (oi := { dst := some 46, op := Go.Op.move (Go.Operand.tmp 45), type := 4, pos := _, after := #[{ on := 40, ground := Go.Ground.data }, { on := 39, ground := Go.Ground.chain }], guard := none }) (v := ?_) rfl (by kernel_rfl) (by kernel_rfl) (by kernel_rfl) (fun _ _ _ h => h) (Or.inl ⟨by rfl, ?_⟩) (by assumption) ?_
  rotate_left
  · intro w hSw; (try dsimp only at hSw); go_simp <;> first | with_reducible rfl | (rw [if_neg (by first | omega | (simp only [ByteArray.size_append] at *; omega))])
  simp only [Act.put, List.setIfInBounds_toArray, List.set_cons_zero, List.set_cons_succ]
  refine wpAnyH_take (i := 42) (oi := { dst := some 47, op := Go.Op.load 30 (Go.Operand.tmp 1), type := 30, pos := _, after := #[{ on := 41, ground := Go.Ground.guard }], guard := some (41, true) }) (v := ?_) rfl (by kernel_rfl) (by kernel_rfl) (by kernel_rfl) (fun _ _ _ h => h) (Or.inl ⟨by rfl, ?_⟩) (by assumption) ?_
  rotate_left
  · intro w hSw; (try dsimp only at hSw); go_simp <;> first | with_reducible rfl | (rw [if_neg (by first | omega | (simp only [ByteArray.size_append] at *; omega))])
  simp only [Act.put, List.setIfInBounds_toArray, List.set_cons_zero, List.set_cons_succ]
  refine wpAnyH_take (i := 43) (oi := { dst := some 48, op := Go.Op.load 30 (Go.Operand.tmp 2), type := 30, pos := _, after := #[{ on := 41, ground := Go.Ground.guard }], guard := some (41, true) }) (v := ?_) rfl (by kernel_rfl) (by kernel_rfl) (by kernel_rfl) (fun _ _ _ h => h) (Or.inl ⟨by rfl, ?_⟩) (by assumption) ?_
  rotate_left
  · intro w hSw; (try dsimp only at hSw); go_simp <;> first | with_reducible rfl | (rw [if_neg (by first | omega | (simp only [ByteArray.size_append] at *; omega))])
  simp only [Act.put, List.setIfInBounds_toArray, List.set_cons_zero, List.set_cons_succ]
  refine wpAnyH_ready (rs := [44]) (by kernel_rfl) (by simp) ?_
  refine AllReadyH.cons (o := { dst := some 49, op := Go.Op.buildSlice 28 2 #[(0, Go.Operand.tmp 47), (1, Go.Operand.tmp 48)], type := 28, pos := _, after := #[{ on := 42, ground := Go.Ground.data }, { on := 43, ground := Go.Ground.data }, { on := 41, ground := Go.Ground.guard }], guard := some (41, true) }) rfl (fun K hK => ?_) AllReadyH.nil
  go_simp
  go_wp2_with fail
  have SX22 := hid (st2 v21 6 exA exB _ _ (by decide) (stA _) (stB _))
  have K22 := hid (K21.out.keep ((Below.refl _ _).alloc (Nat.le_refl _) (.cells #[.int .u8 3, .int .i64 0, .string ⟨#[97]⟩, .slice none 0 0, .int .u8 3, .int .i64 0, .string ⟨#[98]⟩, .slice none 0 0] 30)))
  refine hK.out _ _ ?_ (fun hHeld22 => ?_)
  · exact K22.out.cells
  clear hK K
  have HG22 : ∃ G, G = v21.heap.size := ⟨_, rfl⟩
  refine wpAnyH_ready (rs := [45]) (by kernel_rfl) (by simp) ?_
  refine AllReadyH.cons (o := { dst := some 50, op := Go.Op.call { callee := Go.Callee.value (Go.Operand.func 45), args := #[Go.Operand.const (Go.Value.int Go.IntKind.u8 6), Go.Operand.tmp 49], argTypes := #[27, 28] }, type := 30, pos := _, after := #[{ on := 44, ground := Go.Ground.data }, { on := 41, ground := Go.Ground.chain }, { on := 41, ground := Go.Ground.guard }], guard := some (41, true) }) rfl (fun K hK => ?_) AllReadyH.nil
  go_simp
  refine (of_pl 6 _ _ _ _).mono ?_
  rintro e v23 ⟨rfl, hb23⟩
  have K23 := hid (K22.out.keep hb23)
  have SY23 := hid (SX22.out.keep hb23)
  go_wp2_with fail
  refine hK.out _ _ ?_ (fun hHeld23 => ?_)
  · exact K23.out.cells
  clear hK K
  refine wpAnyH_ready (rs := [46]) (by kernel_rfl) (by simp) ?_
  refine AllReadyH.cons (o := { dst := some 51, op := Go.Op.call { callee := Go.Callee.value (Go.Operand.func 44), args := #[Go.Operand.tmp 50, Go.Operand.const (Go.Value.int Go.IntKind.u8 0), Go.Operand.const (Go.Value.int Go.IntKind.i64 7)], argTypes := #[30, 35, 36] }, type := 4, pos := _, after := #[{ on := 45, ground := Go.Ground.data }, { on := 45, ground := Go.Ground.chain }, { on := 41, ground := Go.Ground.guard }], guard := some (41, true) }) rfl (fun K hK => ?_) AllReadyH.nil
  go_simp
  refine (is_at _ _ _ t6 _ _ SY23.out K23.out.R K23.out.J).mono ?_
  rintro e v24 ⟨rfl, hb24⟩
  have K24 := hid (K23.out.keep hb24)
  go_wp2_with fail
  refine hK.out _ _ ?_ (fun hHeld24 => ?_)
  · exact K24.out.cells
  clear hK K
  clear hb24
  refine wpAnyH_take (i := 47) (oi := { dst := some 52, op := Go.Op.pick (Go.Operand.tmp 46) (Go.Operand.tmp 51) (Go.Operand.const (Go.Value.bool false)), type := 4, pos := _, after := #[{ on := 41, ground := Go.Ground.data }, { on := 46, ground := Go.Ground.data }], guard := none }) (v := ?_) rfl (by kernel_rfl) (by kernel_rfl) (by kernel_rfl) (fun _ _ _ h => h) (Or.inl ⟨by rfl, ?_⟩) (by assumption) ?_
  rotate_left
  · intro w hSw; (try dsimp only at hSw); go_simp <;> first | with_reducible rfl | (rw [if_neg (by first | omega | (simp only [ByteArray.size_append] at *; omega))])
  simp only [Act.put, List.setIfInBounds_toArray, List.set_cons_zero, List.set_cons_succ]
  refine wpAnyH_take (i := 48) (oi := { dst := some 53, op := Go.Op.move (Go.Operand.tmp 52), type := 4, pos := _, after := #[{ on := 47, ground := Go.Ground.data }, { on := 46, ground := Go.Ground.chain }], guard := none }) (v := ?_) rfl (by kernel_rfl) (by kernel_rfl) (by kernel_rfl) (fun _ _ _ h => h) (Or.inl ⟨by rfl, ?_⟩) (by assumption) ?_
  rotate_left
  · intro w hSw; (try dsimp only at hSw); go_simp <;> first | with_reducible rfl | (rw [if_neg (by first | omega | (simp only [ByteArray.size_append] at *; omega))])
  simp only [Act.put, List.setIfInBounds_toArray, List.set_cons_zero, List.set_cons_succ]
  refine wpAnyH_take (i := 49) (oi := { dst := some 54, op := Go.Op.load 30 (Go.Operand.tmp 1), type := 30, pos := _, after := #[{ on := 48, ground := Go.Ground.guard }], guard := some (48, true) }) (v := ?_) rfl (by kernel_rfl) (by kernel_rfl) (by kernel_rfl) (fun _ _ _ h => h) (Or.inl ⟨by rfl, ?_⟩) (by assumption) ?_
  rotate_left
  · intro w hSw; (try dsimp only at hSw); go_simp <;> first | with_reducible rfl | (rw [if_neg (by first | omega | (simp only [ByteArray.size_append] at *; omega))])
  simp only [Act.put, List.setIfInBounds_toArray, List.set_cons_zero, List.set_cons_succ]
  refine wpAnyH_take (i := 50) (oi := { dst := some 55, op := Go.Op.load 30 (Go.Operand.tmp 2), type := 30, pos := _, after := #[{ on := 48, ground := Go.Ground.guard }], guard := some (48, true) }) (v := ?_) rfl (by kernel_rfl) (by kernel_rfl) (by kernel_rfl) (fun _ _ _ h => h) (Or.inl ⟨by rfl, ?_⟩) (by assumption) ?_
  rotate_left
  · intro w hSw; (try dsimp only at hSw); go_simp <;> first | with_reducible rfl | (rw [if_neg (by first | omega | (simp only [ByteArray.size_append] at *; omega))])
  simp only [Act.put, List.setIfInBounds_toArray, List.set_cons_zero, List.set_cons_succ]
  refine wpAnyH_ready (rs := [51]) (by kernel_rfl) (by simp) ?_
  refine AllReadyH.cons (o := { dst := some 56, op := Go.Op.buildSlice 28 2 #[(0, Go.Operand.tmp 54), (1, Go.Operand.tmp 55)], type := 28, pos := _, after := #[{ on := 49, ground := Go.Ground.data }, { on := 50, ground := Go.Ground.data }, { on := 48, ground := Go.Ground.guard }], guard := some (48, true) }) rfl (fun K hK => ?_) AllReadyH.nil
  go_simp
  go_wp2_with fail
  have SX25 := hid (st2 v24 11 exA exB _ _ (by decide) (stA _) (stB _))
  have K25 := hid (K24.out.keep ((Below.refl _ _).alloc (Nat.le_refl _) (.cells #[.int .u8 3, .int .i64 0, .string ⟨#[97]⟩, .slice none 0 0, .int .u8 3, .int .i64 0, .string ⟨#[98]⟩, .slice none 0 0] 30)))
  refine hK.out _ _ ?_ (fun hHeld25 => ?_)
  · exact K25.out.cells
  clear hK K
  have HG25 : ∃ G, G = v24.heap.size := ⟨_, rfl⟩
  refine wpAnyH_ready (rs := [52]) (by kernel_rfl) (by simp) ?_
  refine AllReadyH.cons (o := { dst := some 57, op := Go.Op.call { callee := Go.Callee.value (Go.Operand.func 45), args := #[Go.Operand.const (Go.Value.int Go.IntKind.u8 11), Go.Operand.tmp 56], argTypes := #[27, 28] }, type := 30, pos := _, after := #[{ on := 51, ground := Go.Ground.data }, { on := 48, ground := Go.Ground.chain }, { on := 48, ground := Go.Ground.guard }], guard := some (48, true) }) rfl (fun K hK => ?_) AllReadyH.nil
  go_simp
  refine (of_pl 11 _ _ _ _).mono ?_
  rintro e v26 ⟨rfl, hb26⟩
  have K26 := hid (K25.out.keep hb26)
  have SY26 := hid (SX25.out.keep hb26)
  go_wp2_with fail
  refine hK.out _ _ ?_ (fun hHeld26 => ?_)
  · exact K26.out.cells
  clear hK K
  refine wpAnyH_ready (rs := [53]) (by kernel_rfl) (by simp) ?_
  refine AllReadyH.cons (o := { dst := some 58, op := Go.Op.call { callee := Go.Callee.value (Go.Operand.func 44), args := #[Go.Operand.tmp 57, Go.Operand.const (Go.Value.int Go.IntKind.u8 0), Go.Operand.const (Go.Value.int Go.IntKind.i64 7)], argTypes := #[30, 35, 36] }, type := 4, pos := _, after := #[{ on := 52, ground := Go.Ground.data }, { on := 52, ground := Go.Ground.chain }, { on := 48, ground := Go.Ground.guard }], guard := some (48, true) }) rfl (fun K hK => ?_) AllReadyH.nil
  go_simp
  refine (is_at _ _ _ t7 _ _ SY26.out K26.out.R K26.out.J).mono ?_
  rintro e v27 ⟨rfl, hb27⟩
  have K27 := hid (K26.out.keep hb27)
  go_wp2_with fail
  refine hK.out _ _ ?_ (fun hHeld27 => ?_)
  · exact K27.out.cells
  clear hK K
  clear hb27
  refine wpAnyH_take (i := 54) (oi := { dst := some 59, op := Go.Op.pick (Go.Operand.tmp 53) (Go.Operand.tmp 58) (Go.Operand.const (Go.Value.bool false)), type := 4, pos := _, after := #[{ on := 48, ground := Go.Ground.data }, { on := 53, ground := Go.Ground.data }], guard := none }) (v := ?_) rfl (by kernel_rfl) (by kernel_rfl) (by kernel_rfl) (fun _ _ _ h => h) (Or.inl ⟨by rfl, ?_⟩) (by assumption) ?_
  rotate_left
  · intro w hSw; (try dsimp only at hSw); go_simp <;> first | with_reducible rfl | (rw [if_neg (by first | omega | (simp only [ByteArray.size_append] at *; omega))])
  simp only [Act.put, List.setIfInBounds_toArray, List.set_cons_zero, List.set_cons_succ]
  refine wpAnyH_take (i := 55) (oi := { dst := some 60, op := Go.Op.move (Go.Operand.tmp 59), type := 4, pos := _, after := #[{ on := 54, ground := Go.Ground.data }, { on := 53, ground := Go.Ground.chain }], guard := none }) (v := ?_) rfl (by kernel_rfl) (by kernel_rfl) (by kernel_rfl) (fun _ _ _ h => h) (Or.inl ⟨by rfl, ?_⟩) (by assumption) ?_
  rotate_left
  · intro w hSw; (try dsimp only at hSw); go_simp <;> first | with_reducible rfl | (rw [if_neg (by first | omega | (simp only [ByteArray.size_append] at *; omega))])
  simp only [Act.put, List.setIfInBounds_toArray, List.set_cons_zero, List.set_cons_succ]
  refine wpAnyH_take (i := 57) (oi := { dst := some 62, op := Go.Op.build 30 #[(0, Go.Operand.const (Go.Value.int Go.IntKind.u8 2))], type := 30, pos := _, after := #[{ on := 55, ground := Go.Ground.guard }], guard := some (55, true) }) (v := ?_) rfl (by kernel_rfl) (by kernel_rfl) (by kernel_rfl) (fun _ _ _ h => h) (Or.inl ⟨by rfl, ?_⟩) (by assumption) ?_
  rotate_left
  · intro w hSw; (try dsimp only at hSw); go_simp <;> first | with_reducible rfl | (rw [if_neg (by first | omega | (simp only [ByteArray.size_append] at *; omega))])
  simp only [Act.put, List.setIfInBounds_toArray, List.set_cons_zero, List.set_cons_succ]
  refine wpAnyH_ready (rs := [56]) (by kernel_rfl) (by simp) ?_
  refine AllReadyH.cons (o := { dst := some 61, op := Go.Op.call { callee := Go.Callee.value (Go.Operand.func 43), args := #[Go.Operand.const (Go.Value.string { data := #[99] })], argTypes := #[9] }, type := 30, pos := _, after := #[{ on := 55, ground := Go.Ground.chain }, { on := 55, ground := Go.Ground.guard }], guard := some (55, true) }) rfl (fun K hK => ?_) AllReadyH.nil
  go_simp
  refine (name_at ⟨#[99]⟩ _).mono ?_
  rintro e v28 ⟨rfl, hb28⟩
  have K28 := hid (K27.out.keep hb28)
  go_wp2_with fail
  refine hK.out _ _ ?_ (fun hHeld28 => ?_)
  · exact K28.out.cells
  clear hK K
  refine wpAnyH_ready (rs := [58]) (by kernel_rfl) (by simp) ?_
  refine AllReadyH.cons (o := { dst := some 63, op := Go.Op.buildSlice 28 2 #[(0, Go.Operand.tmp 61), (1, Go.Operand.tmp 62)], type := 28, pos := _, after := #[{ on := 56, ground := Go.Ground.data }, { on := 57, ground := Go.Ground.data }, { on := 55, ground := Go.Ground.guard }], guard := some (55, true) }) rfl (fun K hK => ?_) AllReadyH.nil
  go_simp
  go_wp2_with fail
  have SX29 := hid (st2 v28 6 exC exD _ _ (by decide) (stC _) (stD _))
  have K29 := hid (K28.out.keep ((Below.refl _ _).alloc (Nat.le_refl _) (.cells #[.int .u8 3, .int .i64 0, .string ⟨#[99]⟩, .slice none 0 0, .int .u8 2, .int .i64 0, .string ⟨#[]⟩, .slice none 0 0] 30)))
  refine hK.out _ _ ?_ (fun hHeld29 => ?_)
  · exact K29.out.cells
  clear hK K
  have HG29 : ∃ G, G = v28.heap.size := ⟨_, rfl⟩
  refine wpAnyH_ready (rs := [59]) (by kernel_rfl) (by simp) ?_
  refine AllReadyH.cons (o := { dst := some 64, op := Go.Op.call { callee := Go.Callee.value (Go.Operand.func 45), args := #[Go.Operand.const (Go.Value.int Go.IntKind.u8 6), Go.Operand.tmp 63], argTypes := #[27, 28] }, type := 30, pos := _, after := #[{ on := 58, ground := Go.Ground.data }, { on := 56, ground := Go.Ground.chain }, { on := 55, ground := Go.Ground.guard }], guard := some (55, true) }) rfl (fun K hK => ?_) AllReadyH.nil
  go_simp
  refine (of_pl 6 _ _ _ _).mono ?_
  rintro e v30 ⟨rfl, hb30⟩
  have K30 := hid (K29.out.keep hb30)
  have SY30 := hid (SX29.out.keep hb30)
  go_wp2_with fail
  refine hK.out _ _ ?_ (fun hHeld30 => ?_)
  · exact K30.out.cells
  clear hK K
  refine wpAnyH_ready (rs := [60]) (by kernel_rfl) (by simp) ?_
  refine AllReadyH.cons (o := { dst := some 65, op := Go.Op.call { callee := Go.Callee.value (Go.Operand.func 44), args := #[Go.Operand.tmp 64, Go.Operand.const (Go.Value.int Go.IntKind.u8 0), Go.Operand.const (Go.Value.int Go.IntKind.i64 6)], argTypes := #[30, 35, 36] }, type := 4, pos := _, after := #[{ on := 59, ground := Go.Ground.data }, { on := 59, ground := Go.Ground.chain }, { on := 55, ground := Go.Ground.guard }], guard := some (55, true) }) rfl (fun K hK => ?_) AllReadyH.nil
  go_simp
  refine (is_at _ _ _ t8 _ _ SY30.out K30.out.R K30.out.J).mono ?_
  rintro e v31 ⟨rfl, hb31⟩
  have K31 := hid (K30.out.keep hb31)
  go_wp2_with fail
  refine hK.out _ _ ?_ (fun hHeld31 => ?_)
  · exact K31.out.cells
  clear hK K
  clear hb31
  refine wpAnyH_take (i := 61) (oi := { dst := some 66, op := Go.Op.pick (Go.Operand.tmp 60) (Go.Operand.tmp 65) (Go.Operand.const (Go.Value.bool false)), type := 4, pos := _, after := #[{ on := 55, ground := Go.Ground.data }, { on := 60, ground := Go.Ground.data }], guard := none }) (v := ?_) rfl (by kernel_rfl) (by kernel_rfl) (by kernel_rfl) (fun _ _ _ h => h) (Or.inl ⟨by rfl, ?_⟩) (by assumption) ?_
  rotate_left
  · intro w hSw; (try dsimp only at hSw); go_simp <;> first | with_reducible rfl | (rw [if_neg (by first | omega | (simp only [ByteArray.size_append] at *; omega))])
  simp only [Act.put, List.setIfInBounds_toArray, List.set_cons_zero, List.set_cons_succ]
  refine wpAnyH_take (i := 62) (oi := { dst := some 67, op := Go.Op.move (Go.Operand.tmp 66), type := 4, pos := _, after := #[{ on := 61, ground := Go.Ground.data }, { on := 60, ground := Go.Ground.chain }], guard := none }) (v := ?_) rfl (by kernel_rfl) (by kernel_rfl) (by kernel_rfl) (fun _ _ _ h => h) (Or.inl ⟨by rfl, ?_⟩) (by assumption) ?_
  rotate_left
  · intro w hSw; (try dsimp only at hSw); go_simp <;> first | with_reducible rfl | (rw [if_neg (by first | omega | (simp only [ByteArray.size_append] at *; omega))])
  simp only [Act.put, List.setIfInBounds_toArray, List.set_cons_zero, List.set_cons_succ]
  refine wpAnyH_take (i := 63) (oi := { dst := some 68, op := Go.Op.build 30 #[], type := 30, pos := _, after := #[{ on := 62, ground := Go.Ground.guard }], guard := some (62, true) }) (v := ?_) rfl (by kernel_rfl) (by kernel_rfl) (by kernel_rfl) (fun _ _ _ h => h) (Or.inl ⟨by rfl, ?_⟩) (by assumption) ?_
  rotate_left
  · intro w hSw; (try dsimp only at hSw); go_simp <;> first | with_reducible rfl | (rw [if_neg (by first | omega | (simp only [ByteArray.size_append] at *; omega))])
  simp only [Act.put, List.setIfInBounds_toArray, List.set_cons_zero, List.set_cons_succ]
  refine wpAnyH_ready (rs := [64]) (by kernel_rfl) (by simp) ?_
  refine AllReadyH.cons (o := { dst := some 69, op := Go.Op.call { callee := Go.Callee.value (Go.Operand.func 44), args := #[Go.Operand.tmp 68, Go.Operand.const (Go.Value.int Go.IntKind.u8 0), Go.Operand.const (Go.Value.int Go.IntKind.i64 1)], argTypes := #[30, 35, 36] }, type := 4, pos := _, after := #[{ on := 63, ground := Go.Ground.data }, { on := 62, ground := Go.Ground.chain }, { on := 62, ground := Go.Ground.guard }], guard := some (62, true) }) rfl (fun K hK => ?_) AllReadyH.nil
  go_simp
  refine (is_at _ _ _ t9 _ _ (stZ _) K31.out.R K31.out.J).mono ?_
  rintro e v32 ⟨rfl, hb32⟩
  have K32 := hid (K31.out.keep hb32)
  go_wp2_with fail
  refine hK.out _ _ ?_ (fun hHeld32 => ?_)
  · exact K32.out.cells
  clear hK K
  clear hb32
  refine wpAnyH_take (i := 65) (oi := { dst := some 70, op := Go.Op.pick (Go.Operand.tmp 67) (Go.Operand.tmp 69) (Go.Operand.const (Go.Value.bool false)), type := 4, pos := _, after := #[{ on := 62, ground := Go.Ground.data }, { on := 64, ground := Go.Ground.data }], guard := none }) (v := ?_) rfl (by kernel_rfl) (by kernel_rfl) (by kernel_rfl) (fun _ _ _ h => h) (Or.inl ⟨by rfl, ?_⟩) (by assumption) ?_
  rotate_left
  · intro w hSw; (try dsimp only at hSw); go_simp <;> first | with_reducible rfl | (rw [if_neg (by first | omega | (simp only [ByteArray.size_append] at *; omega))])
  simp only [Act.put, List.setIfInBounds_toArray, List.set_cons_zero, List.set_cons_succ]
  refine wpAnyH_take (i := 66) (oi := { dst := some 71, op := Go.Op.move (Go.Operand.tmp 70), type := 4, pos := _, after := #[{ on := 65, ground := Go.Ground.data }, { on := 64, ground := Go.Ground.chain }], guard := none }) (v := ?_) rfl (by kernel_rfl) (by kernel_rfl) (by kernel_rfl) (fun _ _ _ h => h) (Or.inl ⟨by rfl, ?_⟩) (by assumption) ?_
  rotate_left
  · intro w hSw; (try dsimp only at hSw); go_simp <;> first | with_reducible rfl | (rw [if_neg (by first | omega | (simp only [ByteArray.size_append] at *; omega))])
  simp only [Act.put, List.setIfInBounds_toArray, List.set_cons_zero, List.set_cons_succ]
  refine wpAnyH_ready (rs := [67]) (by kernel_rfl) (by simp) ?_
  refine AllReadyH.cons (o := { dst := some 72, op := Go.Op.call { callee := Go.Callee.value (Go.Operand.func 46), args := #[], argTypes := #[] }, type := 26, pos := _, after := #[{ on := 66, ground := Go.Ground.chain }, { on := 66, ground := Go.Ground.guard }], guard := some (66, true) }) rfl (fun K hK => ?_) AllReadyH.nil
  go_simp
  refine (small_at _).mono ?_
  rintro e v33 ⟨sb, rfl, hP33, hb33⟩
  have K33 := hid (K32.out.keep hb33)
  have HP := hid hP33
  clear hP33
  go_wp2_with fail
  refine hK.out _ _ ?_ (fun hHeld33 => ?_)
  · exact K33.out.cells
  clear hK K
  refine wpAnyH_ready (rs := [68]) (by kernel_rfl) (by simp) ?_
  refine AllReadyH.cons (o := { dst := some 73, op := Go.Op.call { callee := Go.Callee.value (Go.Operand.func 17), args := #[Go.Operand.tmp 72], argTypes := #[26] }, type := 36, pos := _, after := #[{ on := 67, ground := Go.Ground.data }, { on := 67, ground := Go.Ground.chain }, { on := 66, ground := Go.Ground.guard }], guard := some (66, true) }) rfl (fun K hK => ?_) AllReadyH.nil
  go_simp
  refine (types_check smQ _ _ _ _ HP.out K33.out.R K33.out.J).mono ?_
  rintro e v34 ⟨rfl, hb34⟩
  rw [ckS]
  have K34 := hid (K33.out.keep hb34)
  go_wp2_with fail
  refine hK.out _ _ ?_ (fun hHeld34 => ?_)
  · exact K34.out.cells
  clear hK K
  refine wpAnyH_take (i := 69) (oi := { dst := some 74, op := Go.Op.binOp Go.BinOp.eql 36 (Go.Operand.tmp 73) (Go.Operand.const (Go.Value.int Go.IntKind.i64 0)) 36, type := 4, pos := _, after := #[{ on := 68, ground := Go.Ground.data }, { on := 66, ground := Go.Ground.guard }], guard := some (66, true) }) (v := ?_) rfl (by kernel_rfl) (by kernel_rfl) (by kernel_rfl) (fun _ _ _ h => h) (Or.inl ⟨by rfl, ?_⟩) (by assumption) ?_
  rotate_left
  · intro w hSw; (try dsimp only at hSw); go_simp <;> first | with_reducible rfl | (rw [if_neg (by first | omega | (simp only [ByteArray.size_append] at *; omega))])
  simp only [Act.put, List.setIfInBounds_toArray, List.set_cons_zero, List.set_cons_succ]
  refine wpAnyH_take (i := 70) (oi := { dst := some 75, op := Go.Op.pick (Go.Operand.tmp 71) (Go.Operand.tmp 74) (Go.Operand.const (Go.Value.bool false)), type := 4, pos := _, after := #[{ on := 66, ground := Go.Ground.data }, { on := 69, ground := Go.Ground.data }], guard := none }) (v := ?_) rfl (by kernel_rfl) (by kernel_rfl) (by kernel_rfl) (fun _ _ _ h => h) (Or.inl ⟨by rfl, ?_⟩) (by assumption) ?_
  rotate_left
  · intro w hSw; (try dsimp only at hSw); go_simp <;> first | with_reducible rfl | (rw [if_neg (by first | omega | (simp only [ByteArray.size_append] at *; omega))])
  simp only [Act.put, List.setIfInBounds_toArray, List.set_cons_zero, List.set_cons_succ]
  refine wpAnyH_take (i := 71) (oi := { dst := some 0, op := Go.Op.assign (Go.Operand.tmp 75), type := 4, pos := _, after := ([{ on := 70, ground := Go.Ground.data }, { on := 68, ground := Go.Ground.chain }, { on := 0, ground := Go.Ground.phase }, { on := 1, ground := Go.Ground.phase }, { on := 2, ground := Go.Ground.phase }, { on := 3, ground := Go.Ground.phase }, { on := 4, ground := Go.Ground.phase }, { on := 5, ground := Go.Ground.phase }, { on := 6, ground := Go.Ground.phase }, { on := 7, ground := Go.Ground.phase }, { on := 8, ground := Go.Ground.phase }, { on := 9, ground := Go.Ground.phase }, { on := 10, ground := Go.Ground.phase }, { on := 11, ground := Go.Ground.phase }, { on := 12, ground := Go.Ground.phase }, { on := 13, ground := Go.Ground.phase }, { on := 14, ground := Go.Ground.phase }, { on := 15, ground := Go.Ground.phase }, { on := 16, ground := Go.Ground.phase }, { on := 17, ground := Go.Ground.phase }, { on := 18, ground := Go.Ground.phase }, { on := 19, ground := Go.Ground.phase }, { on := 20, ground := Go.Ground.phase }, { on := 21, ground := Go.Ground.phase }, { on := 22, ground := Go.Ground.phase }, { on := 23, ground := Go.Ground.phase }, { on := 24, ground := Go.Ground.phase }, { on := 25, ground := Go.Ground.phase }, { on := 26, ground := Go.Ground.phase }, { on := 27, ground := Go.Ground.phase }, { on := 28, ground := Go.Ground.phase }, { on := 29, ground := Go.Ground.phase }, { on := 30, ground := Go.Ground.phase }, { on := 31, ground := Go.Ground.phase }, { on := 32, ground := Go.Ground.phase }, { on := 33, ground := Go.Ground.phase }].append [{ on := 34, ground := Go.Ground.phase }, { on := 35, ground := Go.Ground.phase }, { on := 36, ground := Go.Ground.phase }, { on := 37, ground := Go.Ground.phase }, { on := 38, ground := Go.Ground.phase }, { on := 39, ground := Go.Ground.phase }, { on := 40, ground := Go.Ground.phase }, { on := 41, ground := Go.Ground.phase }, { on := 42, ground := Go.Ground.phase }, { on := 43, ground := Go.Ground.phase }, { on := 44, ground := Go.Ground.phase }, { on := 45, ground := Go.Ground.phase }, { on := 46, ground := Go.Ground.phase }, { on := 47, ground := Go.Ground.phase }, { on := 48, ground := Go.Ground.phase }, { on := 49, ground := Go.Ground.phase }, { on := 50, ground := Go.Ground.phase }, { on := 51, ground := Go.Ground.phase }, { on := 52, ground := Go.Ground.phase }, { on := 53, ground := Go.Ground.phase }, { on := 54, ground := Go.Ground.phase }, { on := 55, ground := Go.Ground.phase }, { on := 56, ground := Go.Ground.phase }, { on := 57, ground := Go.Ground.phase }, { on := 58, ground := Go.Ground.phase }, { on := 59, ground := Go.Ground.phase }, { on := 60, ground := Go.Ground.phase }, { on := 61, ground := Go.Ground.phase }, { on := 62, ground := Go.Ground.phase }, { on := 63, ground := Go.Ground.phase }, { on := 64, ground := Go.Ground.phase }, { on := 65, ground := Go.Ground.phase }, { on := 66, ground := Go.Ground.phase }, { on := 67, ground := Go.Ground.phase }, { on := 68, ground := Go.Ground.phase }, { on := 69, ground := Go.Ground.phase }, { on := 70, ground := Go.Ground.phase }]).toArray, guard := none }) (v := ?_) rfl (by kernel_rfl) (by kernel_rfl) (by kernel_rfl) (fun _ _ _ h => h) (Or.inl ⟨by rfl, ?_⟩) (by assumption) ?_
  rotate_left
  · intro w hSw; (try dsimp only at hSw); go_simp <;> first | with_reducible rfl | (rw [if_neg (by first | omega | (simp only [ByteArray.size_append] at *; omega))])
  simp only [Act.put, List.setIfInBounds_toArray, List.set_cons_zero]
  refine wpAnyH_done (by kernel_rfl) ?_ _
  have hB := K34.out.below
  go_wp2_with (fail)
  go_ret
  exact ⟨rfl, hB⟩
end Go.Proofs.YtakjkhfglihggaaDoor.Lex
