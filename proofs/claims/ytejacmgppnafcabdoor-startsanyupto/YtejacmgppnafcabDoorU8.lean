/-
  Some answers that the document fixes: the contract of alive.
-/
import Derived.Test.YtejacmgppnafcabDoorU7
import Derived.Test.YtejacmgppnafcabDoorU5
namespace Go.Proofs.YtejacmgppnafcabDoor.Lex
open Go.ChangeShapes Go.WideShapes Go.ChangeAt Go.RowKit Go.Joins
abbrev exA : Ex := ⟨3, 0, ⟨#[97]⟩, []⟩
abbrev exC : Ex := ⟨3, 0, ⟨#[99]⟩, []⟩
abbrev exX : Ex := ⟨3, 0, ⟨#[120]⟩, []⟩
abbrev exD : Ex := ⟨2, 0, ⟨#[]⟩, []⟩
abbrev pA : Ex := ⟨19, 0, ⟨#[]⟩, [exA]⟩
abbrev pX : Ex := ⟨19, 0, ⟨#[]⟩, [exX]⟩
theorem stA (W : World) : St W exA N0 := st_leaf W exA rfl (by decide) (by decide) (by show (1 : Nat) ≤ _; omega)
theorem stC (W : World) : St W exC N0 := st_leaf W exC rfl (by decide) (by decide) (by show (1 : Nat) ≤ _; omega)
theorem stX (W : World) : St W exX N0 := st_leaf W exX rfl (by decide) (by decide) (by show (1 : Nat) ≤ _; omega)
theorem stD (W : World) : St W exD N0 := st_leaf W exD rfl (by decide) (by decide) (by show (0 : Nat) ≤ _; omega)
theorem st1 (W : World) (op : Nat) (x : Ex) (s : Value) (ho : op < 256) (hx : St W x s) : St (W.alloc (.cells #[.int .u8 (x.op : Int), .int .i64 x.n, .string x.name, s] 30)) ⟨op, 0, ⟨#[]⟩, [x]⟩ (.slice (some ⟨W.heap.size, 0, none⟩) 1 1) := by
  have hb := (Below.refl W.heap.size W).alloc (Nat.le_refl _) (.cells #[.int .u8 (x.op : Int), .int .i64 x.n, .string x.name, s] 30)
  have hr := heap_alloc_new W (.cells #[.int .u8 (x.op : Int), .int .i64 x.n, .string x.name, s] 30)
  refine St.intro ⟨op, 0, ⟨#[]⟩, [x]⟩ _ 1 (fun _ => s) ho ⟨by show (-9223372036854775808 : Int) ≤ 0; omega, by show (0 : Int) ≤ _; omega⟩ (by show (0 : Nat) ≤ _; omega) (by simp) (by simp) (.inr ⟨W.heap.size, 0, rfl, fun i hi => ?_⟩) (fun i hi => ?_)
  · have hi1 : i < 1 := hi
    obtain rfl : i = 0 := by omega
    refine ⟨?_, ?_, ?_, ?_⟩ <;> (rw [cell_of_row _ _ _ _ 30 (0, 0) hr]; rfl)
  · have hi1 : i < 1 := hi
    obtain rfl : i = 0 := by omega
    exact hx.keep hb
theorem st2 (W : World) (op : Nat) (x y : Ex) (s t : Value) (ho : op < 256) (hx : St W x s) (hy : St W y t) : St (W.alloc (.cells #[.int .u8 (x.op : Int), .int .i64 x.n, .string x.name, s, .int .u8 (y.op : Int), .int .i64 y.n, .string y.name, t] 30)) ⟨op, 0, ⟨#[]⟩, [x, y]⟩ (.slice (some ⟨W.heap.size, 0, none⟩) 2 2) := by
  have hb := (Below.refl W.heap.size W).alloc (Nat.le_refl _) (.cells #[.int .u8 (x.op : Int), .int .i64 x.n, .string x.name, s, .int .u8 (y.op : Int), .int .i64 y.n, .string y.name, t] 30)
  have hr := heap_alloc_new W (.cells #[.int .u8 (x.op : Int), .int .i64 x.n, .string x.name, s, .int .u8 (y.op : Int), .int .i64 y.n, .string y.name, t] 30)
  refine St.intro ⟨op, 0, ⟨#[]⟩, [x, y]⟩ _ 2 (fun i => if i = 0 then s else t) ho ⟨by show (-9223372036854775808 : Int) ≤ 0; omega, by show (0 : Int) ≤ _; omega⟩ (by show (0 : Nat) ≤ _; omega) (by simp) (by simp) (.inr ⟨W.heap.size, 0, rfl, fun i hi => ?_⟩) (fun i hi => ?_)
  · have hi1 : i < 2 := hi
    rcases (by omega : i = 0 ∨ i = 1) with rfl | rfl <;> refine ⟨?_, ?_, ?_, ?_⟩ <;> (rw [cell_of_row _ _ _ _ 30 (0, 0) hr]; rfl)
  · have hi1 : i < 2 := hi
    rcases (by omega : i = 0 ∨ i = 1) with rfl | rfl
    · exact hx.keep hb
    · exact hy.keep hb
theorem st3 (W : World) (op : Nat) (x y z : Ex) (s t u : Value) (ho : op < 256) (hx : St W x s) (hy : St W y t) (hz : St W z u) : St (W.alloc (.cells #[.int .u8 (x.op : Int), .int .i64 x.n, .string x.name, s, .int .u8 (y.op : Int), .int .i64 y.n, .string y.name, t, .int .u8 (z.op : Int), .int .i64 z.n, .string z.name, u] 30)) ⟨op, 0, ⟨#[]⟩, [x, y, z]⟩ (.slice (some ⟨W.heap.size, 0, none⟩) 3 3) := by
  have hb := (Below.refl W.heap.size W).alloc (Nat.le_refl _) (.cells #[.int .u8 (x.op : Int), .int .i64 x.n, .string x.name, s, .int .u8 (y.op : Int), .int .i64 y.n, .string y.name, t, .int .u8 (z.op : Int), .int .i64 z.n, .string z.name, u] 30)
  have hr := heap_alloc_new W (.cells #[.int .u8 (x.op : Int), .int .i64 x.n, .string x.name, s, .int .u8 (y.op : Int), .int .i64 y.n, .string y.name, t, .int .u8 (z.op : Int), .int .i64 z.n, .string z.name, u] 30)
  refine St.intro ⟨op, 0, ⟨#[]⟩, [x, y, z]⟩ _ 3 (fun i => if i = 0 then s else if i = 1 then t else u) ho ⟨by show (-9223372036854775808 : Int) ≤ 0; omega, by show (0 : Int) ≤ _; omega⟩ (by show (0 : Nat) ≤ _; omega) (by simp) (by simp) (.inr ⟨W.heap.size, 0, rfl, fun i hi => ?_⟩) (fun i hi => ?_)
  · have hi1 : i < 3 := hi
    rcases (by omega : i = 0 ∨ i = 1 ∨ i = 2) with rfl | rfl | rfl <;> refine ⟨?_, ?_, ?_, ?_⟩ <;> (rw [cell_of_row _ _ _ _ 30 (0, 0) hr]; rfl)
  · have hi1 : i < 3 := hi
    rcases (by omega : i = 0 ∨ i = 1 ∨ i = 2) with rfl | rfl | rfl
    · exact hx.keep hb
    · exact hy.keep hb
    · exact hz.keep hb
def findD (l : List (Int × Hd)) (name : ByteArray) : Option (Int × Hd) := l.find? fun x => x.2.name.data.toList == name.data.toList
theorem findT_D (l : List (Int × Hd)) (name : ByteArray) : findT l name = findD l name := by
  unfold findT findD
  congr 1
  funext x
  rw [ByteArray.toList_eq, ByteArray.toList_eq]
theorem asks_D (p : Pg) (x : Ex) : asksAll p x = (gat 32 x 0 []).all fun r => (findD (thingsL p) r.1).isSome := by
  unfold asksAll
  congr 1
  funext r
  rw [findT_D]
theorem of_good (p : Pg) (x : Ex) (t : Nat) (h1 : chk x = true) (h2 : ((gat 32 x 0 []).all fun r => (findD (thingsL p) r.1).isSome) = true) (h3 : stE x = t) : ofV p x = (t, 0) := by
  unfold ofV
  rw [if_neg (by rw [h1]; simp), if_neg (by rw [asks_D, h2]; simp), h3]
theorem t0 : ofV (smP exO) exC = (0, 6) := by
  have h1 : chk exC = true := by decide +kernel
  unfold ofV
  rw [if_neg (by rw [h1]; simp), if_pos (by rw [asks_D]; decide +kernel)]
theorem t1 : ofV (smP exO) ⟨6, 0, ⟨#[]⟩, [exA, exO]⟩ = (0, 0) := of_good _ _ 0 (by decide +kernel) (by decide +kernel) (by simp [stE_eq, ruleS, lat])
theorem t2 : ofV (smP exO) pA = (1, 0) := of_good _ _ 1 (by decide +kernel) (by decide +kernel) (by simp [stE_eq, ruleS, lat])
theorem t3 : ofV (smP exO) ⟨18, 0, ⟨#[]⟩, [exO, pA]⟩ = (0, 0) := of_good _ _ 0 (by decide +kernel) (by decide +kernel) (by simp [stE_eq, ruleS, lat, beg])
theorem t4 : ofV (smP exO) ⟨18, 0, ⟨#[]⟩, [exO, ⟨19, 0, ⟨#[]⟩, [pA]⟩]⟩ = (2, 0) := of_good _ _ 2 (by decide +kernel) (by decide +kernel) (by simp [stE_eq, ruleS, lat, beg])
theorem t5 : ofV (smP exO) ⟨18, 0, ⟨#[]⟩, [⟨19, 0, ⟨#[]⟩, [pA]⟩, exA]⟩ = (1, 0) := of_good _ _ 1 (by decide +kernel) (by decide +kernel) (by simp [stE_eq, ruleS, lat, beg])
theorem t6 : ofV (smP exO) ⟨17, 0, ⟨#[]⟩, [exD, exA, pA]⟩ = (1, 0) := of_good _ _ 1 (by decide +kernel) (by decide +kernel) (by simp [stE_eq, ruleS, lat])
theorem c1 : ckV (smP pX) = 9 := by
  have h : nmErr (smP pX) = 0 := by decide +kernel
  unfold ckV
  rw [if_pos h]
  simp [smP, flS, stE_eq, ruleS, lat]
theorem c2 : ckV (smP ⟨18, 0, ⟨#[]⟩, [exO, pX]⟩) = 0 := by
  have h : nmErr (smP ⟨18, 0, ⟨#[]⟩, [exO, pX]⟩) = 0 := by decide +kernel
  unfold ckV
  rw [if_pos h]
  simp [smP, flS, stE_eq, ruleS, lat, beg]
/-- A world that alive has come to first. -/
structure AWp (w : World) (ka kb sa : Nat) (W : World) : Prop where
  ra : W.heap[ka]? = some (.cells #[.int .u8 3, .int .i64 0, .string ⟨#[97]⟩, .slice none 0 0] 30 (0, 0))
  rb : W.heap[kb]? = some (.cells #[.int .u8 19, .int .i64 0, .string ⟨#[]⟩, .slice (some ⟨sa, 0, none⟩) 1 1] 30 (0, 0))
  SA : St W pA (.slice (some ⟨sa, 0, none⟩) 1 1)
  R : TabR W
  J : TabJ W
  below : Below w.heap.size w W
theorem AWp.keep {w W W' : World} {ka kb sa : Nat} (h : AWp w ka kb sa W) (hb : Below W.heap.size W W') : AWp w ka kb sa W' := ⟨keep_row h.ra hb, keep_row h.rb hb, h.SA.keep hb, h.R.below hb, h.J.below hb, bstep h.below hb⟩
/-- A world that alive has come to. -/
structure AWv (w : World) (ka kb kx sa sx : Nat) (W : World) : Prop where
  ra : W.heap[ka]? = some (.cells #[.int .u8 3, .int .i64 0, .string ⟨#[97]⟩, .slice none 0 0] 30 (0, 0))
  rb : W.heap[kb]? = some (.cells #[.int .u8 19, .int .i64 0, .string ⟨#[]⟩, .slice (some ⟨sa, 0, none⟩) 1 1] 30 (0, 0))
  rx : W.heap[kx]? = some (.cells #[.int .u8 19, .int .i64 0, .string ⟨#[]⟩, .slice (some ⟨sx, 0, none⟩) 1 1] 30 (0, 0))
  SA : St W pA (.slice (some ⟨sa, 0, none⟩) 1 1)
  SXX : St W pX (.slice (some ⟨sx, 0, none⟩) 1 1)
  R : TabR W
  J : TabJ W
  below : Below w.heap.size w W
theorem AWv.keep {w W W' : World} {ka kb kx sa sx : Nat} (h : AWv w ka kb kx sa sx W) (hb : Below W.heap.size W W') : AWv w ka kb kx sa sx W' := ⟨keep_row h.ra hb, keep_row h.rb hb, keep_row h.rx hb, h.SA.keep hb, h.SXX.keep hb, h.R.below hb, h.J.below hb, bstep h.below hb⟩
theorem AWv.drew {w W : World} {ka kb kx sa sx : Nat} (h : AWv w ka kb kx sa sx W) : AWv w ka kb kx sa sx W.drew := h.keep (Below.refl _ _).drew
theorem AWv.cells {w W : World} {ka kb kx sa sx : Nat} (h : AWv w ka kb kx sa sx W) : W.cell? ⟨ka, 0, none⟩ = some (.int .u8 3) ∧ W.cell? ⟨ka, 1, none⟩ = some (.int .i64 0) ∧ W.cell? ⟨ka, 2, none⟩ = some (.string ⟨#[97]⟩) ∧ W.cell? ⟨ka, 3, none⟩ = some (.slice none 0 0) ∧ W.cell? ⟨kb, 0, none⟩ = some (.int .u8 19) ∧ W.cell? ⟨kb, 1, none⟩ = some (.int .i64 0) ∧ W.cell? ⟨kb, 2, none⟩ = some (.string ⟨#[]⟩) ∧ W.cell? ⟨kb, 3, none⟩ = some (.slice (some ⟨sa, 0, none⟩) 1 1) ∧ W.cell? ⟨kx, 0, none⟩ = some (.int .u8 19) ∧ W.cell? ⟨kx, 1, none⟩ = some (.int .i64 0) ∧ W.cell? ⟨kx, 2, none⟩ = some (.string ⟨#[]⟩) ∧ W.cell? ⟨kx, 3, none⟩ = some (.slice (some ⟨sx, 0, none⟩) 1 1) := by
  refine ⟨?_, ?_, ?_, ?_, ?_, ?_, ?_, ?_, ?_, ?_, ?_, ?_⟩ <;> first | (rw [cell_of_row _ _ _ _ 30 (0, 0) h.ra]; rfl) | (rw [cell_of_row _ _ _ _ 30 (0, 0) h.rb]; rfl) | (rw [cell_of_row _ _ _ _ 30 (0, 0) h.rx]; rfl)
set_option maxRecDepth 100000 in
set_option maxHeartbeats 8000000 in
theorem alive (w : World) (hR : TabR w) (hJ : TabJ w) : Calls Tryd.prog 4 #[] w fun e w' => e = .returned (.bool true) ∧ Below w.heap.size w w' := by
  have HT := hid (And.intro hR hJ)
  clear hR hJ
  go_enter Tryd.func4, Tryd.ntmps4
  go_wp2_with (fail)
  refine (name_at ⟨#[97]⟩ _).mono ?_
  rintro e w1 ⟨rfl, hb1⟩
  go_wp2_with (fail)
  refine (of_pl 19 _ _ _ _).mono ?_
  rintro e w2 ⟨rfl, hb2⟩
  have BB := bstep (bstep hb1 (bstep ((Below.refl w1.heap.size w1).alloc (Nat.le_refl _) (.cells #[.int .u8 3, .int .i64 0, .string ⟨#[97]⟩, .slice none 0 0] 30)) ((Below.refl _ _).alloc (Nat.le_refl _) (.cells #[.int .u8 3, .int .i64 0, .string ⟨#[97]⟩, .slice none 0 0] 30)))) (bstep hb2 ((Below.refl w2.heap.size w2).alloc (Nat.le_refl _) (.cells #[.int .u8 19, .int .i64 0, .string ⟨#[]⟩, .slice (some ⟨w1.heap.size + 1, 0, none⟩) 1 1] 30)))
  have L1 := st1 (w1.alloc (.cells #[.int .u8 3, .int .i64 0, .string ⟨#[97]⟩, .slice none 0 0] 30)) 19 exA N0 (by decide) (stA _)
  rw [show (w1.alloc (.cells #[.int .u8 3, .int .i64 0, .string ⟨#[97]⟩, .slice none 0 0] 30)).heap.size = w1.heap.size + 1 by simp] at L1
  have P0 : Hid (AWp w w1.heap.size w2.heap.size (w1.heap.size + 1) (w2.alloc (.cells #[.int .u8 19, .int .i64 0, .string ⟨#[]⟩, .slice (some ⟨w1.heap.size + 1, 0, none⟩) 1 1] 30))) := hid ⟨push_old (keep_row (push_old (heap_alloc_new w1 _)) hb2), heap_alloc_new w2 _, (L1.keep hb2).keep ((Below.refl _ _).alloc (Nat.le_refl _) _), HT.out.1.below BB, HT.out.2.below BB, BB⟩
  clear BB L1 hb1 hb2 HT
  go_wp2_with (fail)
  generalize w2.alloc (.cells #[.int .u8 19, .int .i64 0, .string ⟨#[]⟩, .slice (some ⟨w1.heap.size + 1, 0, none⟩) 1 1] 30) = V2 at *
  refine (nought_at _).mono ?_
  rintro e w3 ⟨rfl, hb3⟩
  have P3 := hid (P0.out.keep hb3)
  clear hb3 P0
  go_wp2_with (fail)
  refine (small_at exO N0 _ (stO _)).mono ?_
  rintro e w4 ⟨sb, rfl, hP, hb4⟩
  have P4 := hid (P3.out.keep hb4)
  have HP := hid hP
  clear hb4 P3 hP
  go_wp2_with (fail)
  refine (name_at ⟨#[99]⟩ _).mono ?_
  rintro e w5 ⟨rfl, hb5⟩
  have P5 := hid (P4.out.keep hb5)
  have HP5 := hid (HP.out.keep hb5)
  clear hb5 P4 HP
  go_wp2_with (fail)
  refine (of_ (smP exO) exC _ _ _ _ _ HP5.out (stC _) P5.out.R P5.out.J).mono ?_
  rintro e w6 ⟨rfl, hb6⟩
  rw [t0]
  have P6 := hid (P5.out.keep hb6)
  clear hb6 P5 HP5
  go_wp2_with (fail)
  refine (name_at ⟨#[120]⟩ _).mono ?_
  rintro e w7 ⟨rfl, hb7⟩
  have P7 := hid (P6.out.keep hb7)
  clear hb7 P6
  go_wp2_with (fail)
  refine (of_pl 19 _ _ _ _).mono ?_
  rintro e w8 ⟨rfl, hb8⟩
  have BB := bstep ((Below.refl w7.heap.size w7).alloc (Nat.le_refl _) (.cells #[.int .u8 3, .int .i64 0, .string ⟨#[120]⟩, .slice none 0 0] 30)) (bstep hb8 ((Below.refl w8.heap.size w8).alloc (Nat.le_refl _) (.cells #[.int .u8 19, .int .i64 0, .string ⟨#[]⟩, .slice (some ⟨w7.heap.size, 0, none⟩) 1 1] 30)))
  have L1 := st1 w7 19 exX N0 (by decide) (stX _)
  have Q := P7.out.keep BB
  have L0 : Hid (AWv w w1.heap.size w2.heap.size w8.heap.size (w1.heap.size + 1) w7.heap.size (w8.alloc (.cells #[.int .u8 19, .int .i64 0, .string ⟨#[]⟩, .slice (some ⟨w7.heap.size, 0, none⟩) 1 1] 30))) := hid ⟨Q.ra, Q.rb, heap_alloc_new w8 _, Q.SA, (L1.keep hb8).keep ((Below.refl _ _).alloc (Nat.le_refl _) _), Q.R, Q.J, Q.below⟩
  clear BB L1 Q hb8 P7
  go_wp2_with (fail)
  generalize w8.alloc (.cells #[.int .u8 19, .int .i64 0, .string ⟨#[]⟩, .slice (some ⟨w7.heap.size, 0, none⟩) 1 1] 30) = W0 at *
  generalize w1.heap.size + 1 = sa at *
  generalize w1.heap.size = ka at *
  generalize w2.heap.size = kb at *
  generalize w8.heap.size = kx at *
  generalize w7.heap.size = sx at *
  refine wp_region_held_drew (S := fun W => W.cell? ⟨ka, 0, none⟩ = some (.int .u8 3) ∧ W.cell? ⟨ka, 1, none⟩ = some (.int .i64 0) ∧ W.cell? ⟨ka, 2, none⟩ = some (.string ⟨#[97]⟩) ∧ W.cell? ⟨ka, 3, none⟩ = some (.slice none 0 0) ∧ W.cell? ⟨kb, 0, none⟩ = some (.int .u8 19) ∧ W.cell? ⟨kb, 1, none⟩ = some (.int .i64 0) ∧ W.cell? ⟨kb, 2, none⟩ = some (.string ⟨#[]⟩) ∧ W.cell? ⟨kb, 3, none⟩ = some (.slice (some ⟨sa, 0, none⟩) 1 1) ∧ W.cell? ⟨kx, 0, none⟩ = some (.int .u8 19) ∧ W.cell? ⟨kx, 1, none⟩ = some (.int .i64 0) ∧ W.cell? ⟨kx, 2, none⟩ = some (.string ⟨#[]⟩) ∧ W.cell? ⟨kx, 3, none⟩ = some (.slice (some ⟨sx, 0, none⟩) 1 1)) (by kernel_rfl) ?_ (fun hHeld => ?_)
  · exact L0.out.drew.cells
  have K0 := hid L0.out.drew
  refine wpAnyH_take (i := 0) (oi := { dst := some 20, op := Go.Op.move (Go.Operand.tmp 4), type := 43, pos := _, after := #[], guard := none }) (v := ?_) rfl (by kernel_rfl) (by kernel_rfl) (by kernel_rfl) (fun _ _ _ h => h) (Or.inl ⟨by rfl, ?_⟩) (by assumption) ?_
  rotate_left
  · intro w hSw; (try dsimp only at hSw); go_simp <;> first | with_reducible rfl | (rw [if_neg (by first | omega | (simp only [ByteArray.size_append] at *; omega))])
  simp only [Act.put, List.setIfInBounds_toArray, List.set_cons_zero, List.set_cons_succ]
  refine wpAnyH_take (i := 1) (oi := { dst := some 21, op := Go.Op.binOp Go.BinOp.eql 43 (Go.Operand.tmp 20) (Go.Operand.const (Go.Value.int Go.IntKind.i64 6)) 43, type := 4, pos := _, after := #[{ on := 0, ground := Go.Ground.data }], guard := none }) (v := ?_) rfl (by kernel_rfl) (by kernel_rfl) (by kernel_rfl) (fun _ _ _ h => h) (Or.inl ⟨by rfl, ?_⟩) (by assumption) ?_
  rotate_left
  · intro w hSw; (try dsimp only at hSw); go_simp <;> first | with_reducible rfl | (rw [if_neg (by first | omega | (simp only [ByteArray.size_append] at *; omega))])
  simp only [Act.put, List.setIfInBounds_toArray, List.set_cons_zero, List.set_cons_succ]
  refine wpAnyH_take (i := 2) (oi := { dst := some 22, op := Go.Op.move (Go.Operand.tmp 21), type := 4, pos := _, after := #[{ on := 1, ground := Go.Ground.data }], guard := none }) (v := ?_) rfl (by kernel_rfl) (by kernel_rfl) (by kernel_rfl) (fun _ _ _ h => h) (Or.inl ⟨by rfl, ?_⟩) (by assumption) ?_
  rotate_left
  · intro w hSw; (try dsimp only at hSw); go_simp <;> first | with_reducible rfl | (rw [if_neg (by first | omega | (simp only [ByteArray.size_append] at *; omega))])
  simp only [Act.put, List.setIfInBounds_toArray, List.set_cons_zero, List.set_cons_succ]
  refine wpAnyH_take (i := 3) (oi := { dst := some 23, op := Go.Op.load 30 (Go.Operand.tmp 1), type := 30, pos := _, after := #[{ on := 2, ground := Go.Ground.guard }], guard := some (2, true) }) (v := ?_) rfl (by kernel_rfl) (by kernel_rfl) (by kernel_rfl) (fun _ _ _ h => h) (Or.inl ⟨by rfl, ?_⟩) (by assumption) ?_
  rotate_left
  · intro w hSw; (try dsimp only at hSw); go_simp <;> first | with_reducible rfl | (rw [if_neg (by first | omega | (simp only [ByteArray.size_append] at *; omega))])
  simp only [Act.put, List.setIfInBounds_toArray, List.set_cons_zero, List.set_cons_succ]
  refine wpAnyH_ready (rs := [4]) (by kernel_rfl) (by simp) ?_
  refine AllReadyH.cons (o := { dst := some 24, op := Go.Op.call { callee := Go.Callee.value (Go.Operand.func 14), args := #[], argTypes := #[] }, type := 30, pos := _, after := #[{ on := 2, ground := Go.Ground.chain }, { on := 2, ground := Go.Ground.guard }], guard := some (2, true) }) rfl (fun K hK => ?_) AllReadyH.nil
  go_simp
  refine (nought_at _).mono ?_
  rintro e v1 ⟨rfl, hb1⟩
  have K1 := hid (K0.out.keep hb1)
  go_wp2_with fail
  refine hK.out _ _ ?_ (fun hHeld1 => ?_)
  · exact K1.out.cells
  clear hK K
  clear hb1
  refine wpAnyH_ready (rs := [5]) (by kernel_rfl) (by simp) ?_
  refine AllReadyH.cons (o := { dst := some 25, op := Go.Op.buildSlice 28 2 #[(0, Go.Operand.tmp 23), (1, Go.Operand.tmp 24)], type := 28, pos := _, after := #[{ on := 3, ground := Go.Ground.data }, { on := 4, ground := Go.Ground.data }, { on := 2, ground := Go.Ground.guard }], guard := some (2, true) }) rfl (fun K hK => ?_) AllReadyH.nil
  go_simp
  go_wp2_with fail
  have SX2 := hid (st2 v1 6 exA exO _ _ (by decide) (stA _) (stO _))
  have K2 := hid (K1.out.keep ((Below.refl _ _).alloc (Nat.le_refl _) (.cells #[.int .u8 3, .int .i64 0, .string ⟨#[97]⟩, .slice none 0 0, .int .u8 1, .int .i64 0, .string ⟨#[]⟩, .slice none 0 0] 30)))
  refine hK.out _ _ ?_ (fun hHeld2 => ?_)
  · exact K2.out.cells
  clear hK K
  refine wpAnyH_ready (rs := [6]) (by kernel_rfl) (by simp) ?_
  refine AllReadyH.cons (o := { dst := some 26, op := Go.Op.call { callee := Go.Callee.value (Go.Operand.func 12), args := #[Go.Operand.const (Go.Value.int Go.IntKind.u8 6), Go.Operand.tmp 25], argTypes := #[27, 28] }, type := 30, pos := _, after := #[{ on := 5, ground := Go.Ground.data }, { on := 4, ground := Go.Ground.chain }, { on := 2, ground := Go.Ground.guard }], guard := some (2, true) }) rfl (fun K hK => ?_) AllReadyH.nil
  go_simp
  refine (of_pl 6 _ _ _ _).mono ?_
  rintro e v3 ⟨rfl, hb3⟩
  have K3 := hid (K2.out.keep hb3)
  have SY3 := hid (SX2.out.keep hb3)
  go_wp2_with fail
  refine hK.out _ _ ?_ (fun hHeld3 => ?_)
  · exact K3.out.cells
  clear hK K
  refine wpAnyH_ready (rs := [7]) (by kernel_rfl) (by simp) ?_
  refine AllReadyH.cons (o := { dst := some 27, op := Go.Op.call { callee := Go.Callee.value (Go.Operand.func 15), args := #[Go.Operand.tmp 26, Go.Operand.const (Go.Value.int Go.IntKind.i64 0)], argTypes := #[30, 3] }, type := 4, pos := _, after := #[{ on := 6, ground := Go.Ground.data }, { on := 6, ground := Go.Ground.chain }, { on := 2, ground := Go.Ground.guard }], guard := some (2, true) }) rfl (fun K hK => ?_) AllReadyH.nil
  go_simp
  refine (is_at _ _ t1 _ _ SY3.out K3.out.R K3.out.J).mono ?_
  rintro e v4 ⟨rfl, hb4⟩
  have K4 := hid (K3.out.keep hb4)
  go_wp2_with fail
  refine hK.out _ _ ?_ (fun hHeld4 => ?_)
  · exact K4.out.cells
  clear hK K
  clear hb4
  refine wpAnyH_take (i := 8) (oi := { dst := some 28, op := Go.Op.pick (Go.Operand.tmp 22) (Go.Operand.tmp 27) (Go.Operand.const (Go.Value.bool false)), type := 4, pos := _, after := #[{ on := 2, ground := Go.Ground.data }, { on := 7, ground := Go.Ground.data }], guard := none }) (v := ?_) rfl (by kernel_rfl) (by kernel_rfl) (by kernel_rfl) (fun _ _ _ h => h) (Or.inl ⟨by rfl, ?_⟩) (by assumption) ?_
  rotate_left
  · intro w hSw; (try dsimp only at hSw); go_simp <;> first | with_reducible rfl | (rw [if_neg (by first | omega | (simp only [ByteArray.size_append] at *; omega))])
  simp only [Act.put, List.setIfInBounds_toArray, List.set_cons_zero, List.set_cons_succ]
  refine wpAnyH_take (i := 9) (oi := { dst := some 29, op := Go.Op.move (Go.Operand.tmp 28), type := 4, pos := _, after := #[{ on := 8, ground := Go.Ground.data }, { on := 7, ground := Go.Ground.chain }], guard := none }) (v := ?_) rfl (by kernel_rfl) (by kernel_rfl) (by kernel_rfl) (fun _ _ _ h => h) (Or.inl ⟨by rfl, ?_⟩) (by assumption) ?_
  rotate_left
  · intro w hSw; (try dsimp only at hSw); go_simp <;> first | with_reducible rfl | (rw [if_neg (by first | omega | (simp only [ByteArray.size_append] at *; omega))])
  simp only [Act.put, List.setIfInBounds_toArray, List.set_cons_zero, List.set_cons_succ]
  refine wpAnyH_take (i := 10) (oi := { dst := some 30, op := Go.Op.load 30 (Go.Operand.tmp 2), type := 30, pos := _, after := #[{ on := 9, ground := Go.Ground.guard }], guard := some (9, true) }) (v := ?_) rfl (by kernel_rfl) (by kernel_rfl) (by kernel_rfl) (fun _ _ _ h => h) (Or.inl ⟨by rfl, ?_⟩) (by assumption) ?_
  rotate_left
  · intro w hSw; (try dsimp only at hSw); go_simp <;> first | with_reducible rfl | (rw [if_neg (by first | omega | (simp only [ByteArray.size_append] at *; omega))])
  simp only [Act.put, List.setIfInBounds_toArray, List.set_cons_zero, List.set_cons_succ]
  refine wpAnyH_ready (rs := [11]) (by kernel_rfl) (by simp) ?_
  refine AllReadyH.cons (o := { dst := some 31, op := Go.Op.call { callee := Go.Callee.value (Go.Operand.func 15), args := #[Go.Operand.tmp 30, Go.Operand.const (Go.Value.int Go.IntKind.i64 1)], argTypes := #[30, 3] }, type := 4, pos := _, after := #[{ on := 10, ground := Go.Ground.data }, { on := 9, ground := Go.Ground.chain }, { on := 9, ground := Go.Ground.guard }], guard := some (9, true) }) rfl (fun K hK => ?_) AllReadyH.nil
  go_simp
  refine (is_at _ _ t2 _ _ K4.out.SA K4.out.R K4.out.J).mono ?_
  rintro e v5 ⟨rfl, hb5⟩
  have K5 := hid (K4.out.keep hb5)
  go_wp2_with fail
  refine hK.out _ _ ?_ (fun hHeld5 => ?_)
  · exact K5.out.cells
  clear hK K
  clear hb5
  refine wpAnyH_take (i := 12) (oi := { dst := some 32, op := Go.Op.pick (Go.Operand.tmp 29) (Go.Operand.tmp 31) (Go.Operand.const (Go.Value.bool false)), type := 4, pos := _, after := #[{ on := 9, ground := Go.Ground.data }, { on := 11, ground := Go.Ground.data }], guard := none }) (v := ?_) rfl (by kernel_rfl) (by kernel_rfl) (by kernel_rfl) (fun _ _ _ h => h) (Or.inl ⟨by rfl, ?_⟩) (by assumption) ?_
  rotate_left
  · intro w hSw; (try dsimp only at hSw); go_simp <;> first | with_reducible rfl | (rw [if_neg (by first | omega | (simp only [ByteArray.size_append] at *; omega))])
  simp only [Act.put, List.setIfInBounds_toArray, List.set_cons_zero, List.set_cons_succ]
  refine wpAnyH_take (i := 13) (oi := { dst := some 33, op := Go.Op.move (Go.Operand.tmp 32), type := 4, pos := _, after := #[{ on := 12, ground := Go.Ground.data }, { on := 11, ground := Go.Ground.chain }], guard := none }) (v := ?_) rfl (by kernel_rfl) (by kernel_rfl) (by kernel_rfl) (fun _ _ _ h => h) (Or.inl ⟨by rfl, ?_⟩) (by assumption) ?_
  rotate_left
  · intro w hSw; (try dsimp only at hSw); go_simp <;> first | with_reducible rfl | (rw [if_neg (by first | omega | (simp only [ByteArray.size_append] at *; omega))])
  simp only [Act.put, List.setIfInBounds_toArray, List.set_cons_zero, List.set_cons_succ]
  refine wpAnyH_take (i := 15) (oi := { dst := some 35, op := Go.Op.load 30 (Go.Operand.tmp 2), type := 30, pos := _, after := #[{ on := 13, ground := Go.Ground.guard }], guard := some (13, true) }) (v := ?_) rfl (by kernel_rfl) (by kernel_rfl) (by kernel_rfl) (fun _ _ _ h => h) (Or.inl ⟨by rfl, ?_⟩) (by assumption) ?_
  rotate_left
  · intro w hSw; (try dsimp only at hSw); go_simp <;> first | with_reducible rfl | (rw [if_neg (by first | omega | (simp only [ByteArray.size_append] at *; omega))])
  simp only [Act.put, List.setIfInBounds_toArray, List.set_cons_zero, List.set_cons_succ]
  refine wpAnyH_ready (rs := [14]) (by kernel_rfl) (by simp) ?_
  refine AllReadyH.cons (o := { dst := some 34, op := Go.Op.call { callee := Go.Callee.value (Go.Operand.func 14), args := #[], argTypes := #[] }, type := 30, pos := _, after := #[{ on := 13, ground := Go.Ground.chain }, { on := 13, ground := Go.Ground.guard }], guard := some (13, true) }) rfl (fun K hK => ?_) AllReadyH.nil
  go_simp
  refine (nought_at _).mono ?_
  rintro e v6 ⟨rfl, hb6⟩
  have K6 := hid (K5.out.keep hb6)
  go_wp2_with fail
  refine hK.out _ _ ?_ (fun hHeld6 => ?_)
  · exact K6.out.cells
  clear hK K
  clear hb6
  refine wpAnyH_ready (rs := [16]) (by kernel_rfl) (by simp) ?_
  refine AllReadyH.cons (o := { dst := some 36, op := Go.Op.buildSlice 28 2 #[(0, Go.Operand.tmp 34), (1, Go.Operand.tmp 35)], type := 28, pos := _, after := #[{ on := 14, ground := Go.Ground.data }, { on := 15, ground := Go.Ground.data }, { on := 13, ground := Go.Ground.guard }], guard := some (13, true) }) rfl (fun K hK => ?_) AllReadyH.nil
  go_simp
  go_wp2_with fail
  have SX7 := hid (st2 v6 18 exO pA _ _ (by decide) (stO _) K6.out.SA)
  have K7 := hid (K6.out.keep ((Below.refl _ _).alloc (Nat.le_refl _) (.cells #[.int .u8 1, .int .i64 0, .string ⟨#[]⟩, .slice none 0 0, .int .u8 19, .int .i64 0, .string ⟨#[]⟩, .slice (some ⟨sa, 0, none⟩) 1 1] 30)))
  refine hK.out _ _ ?_ (fun hHeld7 => ?_)
  · exact K7.out.cells
  clear hK K
  refine wpAnyH_ready (rs := [17]) (by kernel_rfl) (by simp) ?_
  refine AllReadyH.cons (o := { dst := some 37, op := Go.Op.call { callee := Go.Callee.value (Go.Operand.func 12), args := #[Go.Operand.const (Go.Value.int Go.IntKind.u8 18), Go.Operand.tmp 36], argTypes := #[27, 28] }, type := 30, pos := _, after := #[{ on := 16, ground := Go.Ground.data }, { on := 14, ground := Go.Ground.chain }, { on := 13, ground := Go.Ground.guard }], guard := some (13, true) }) rfl (fun K hK => ?_) AllReadyH.nil
  go_simp
  refine (of_pl 18 _ _ _ _).mono ?_
  rintro e v8 ⟨rfl, hb8⟩
  have K8 := hid (K7.out.keep hb8)
  have SY8 := hid (SX7.out.keep hb8)
  go_wp2_with fail
  refine hK.out _ _ ?_ (fun hHeld8 => ?_)
  · exact K8.out.cells
  clear hK K
  refine wpAnyH_ready (rs := [18]) (by kernel_rfl) (by simp) ?_
  refine AllReadyH.cons (o := { dst := some 38, op := Go.Op.call { callee := Go.Callee.value (Go.Operand.func 15), args := #[Go.Operand.tmp 37, Go.Operand.const (Go.Value.int Go.IntKind.i64 0)], argTypes := #[30, 3] }, type := 4, pos := _, after := #[{ on := 17, ground := Go.Ground.data }, { on := 17, ground := Go.Ground.chain }, { on := 13, ground := Go.Ground.guard }], guard := some (13, true) }) rfl (fun K hK => ?_) AllReadyH.nil
  go_simp
  refine (is_at _ _ t3 _ _ SY8.out K8.out.R K8.out.J).mono ?_
  rintro e v9 ⟨rfl, hb9⟩
  have K9 := hid (K8.out.keep hb9)
  go_wp2_with fail
  refine hK.out _ _ ?_ (fun hHeld9 => ?_)
  · exact K9.out.cells
  clear hK K
  clear hb9
  refine wpAnyH_take (i := 19) (oi := { dst := some 39, op := Go.Op.pick (Go.Operand.tmp 33) (Go.Operand.tmp 38) (Go.Operand.const (Go.Value.bool false)), type := 4, pos := _, after := #[{ on := 13, ground := Go.Ground.data }, { on := 18, ground := Go.Ground.data }], guard := none }) (v := ?_) rfl (by kernel_rfl) (by kernel_rfl) (by kernel_rfl) (fun _ _ _ h => h) (Or.inl ⟨by rfl, ?_⟩) (by assumption) ?_
  rotate_left
  · intro w hSw; (try dsimp only at hSw); go_simp <;> first | with_reducible rfl | (rw [if_neg (by first | omega | (simp only [ByteArray.size_append] at *; omega))])
  simp only [Act.put, List.setIfInBounds_toArray, List.set_cons_zero, List.set_cons_succ]
  refine wpAnyH_take (i := 20) (oi := { dst := some 40, op := Go.Op.move (Go.Operand.tmp 39), type := 4, pos := _, after := #[{ on := 19, ground := Go.Ground.data }, { on := 18, ground := Go.Ground.chain }], guard := none }) (v := ?_) rfl (by kernel_rfl) (by kernel_rfl) (by kernel_rfl) (fun _ _ _ h => h) (Or.inl ⟨by rfl, ?_⟩) (by assumption) ?_
  rotate_left
  · intro w hSw; (try dsimp only at hSw); go_simp <;> first | with_reducible rfl | (rw [if_neg (by first | omega | (simp only [ByteArray.size_append] at *; omega))])
  simp only [Act.put, List.setIfInBounds_toArray, List.set_cons_zero, List.set_cons_succ]
  refine wpAnyH_take (i := 22) (oi := { dst := some 42, op := Go.Op.load 30 (Go.Operand.tmp 2), type := 30, pos := _, after := #[{ on := 20, ground := Go.Ground.guard }], guard := some (20, true) }) (v := ?_) rfl (by kernel_rfl) (by kernel_rfl) (by kernel_rfl) (fun _ _ _ h => h) (Or.inl ⟨by rfl, ?_⟩) (by assumption) ?_
  rotate_left
  · intro w hSw; (try dsimp only at hSw); go_simp <;> first | with_reducible rfl | (rw [if_neg (by first | omega | (simp only [ByteArray.size_append] at *; omega))])
  simp only [Act.put, List.setIfInBounds_toArray, List.set_cons_zero, List.set_cons_succ]
  refine wpAnyH_ready (rs := [21, 23]) (by kernel_rfl) (by simp) ?_
  refine AllReadyH.cons (o := { dst := some 41, op := Go.Op.call { callee := Go.Callee.value (Go.Operand.func 14), args := #[], argTypes := #[] }, type := 30, pos := _, after := #[{ on := 20, ground := Go.Ground.chain }, { on := 20, ground := Go.Ground.guard }], guard := some (20, true) }) rfl (fun K hK => ?_) (AllReadyH.cons (o := { dst := some 43, op := Go.Op.buildSlice 28 1 #[(0, Go.Operand.tmp 42)], type := 28, pos := _, after := #[{ on := 22, ground := Go.Ground.data }, { on := 20, ground := Go.Ground.guard }], guard := some (20, true) }) rfl (fun K hK => ?_) AllReadyH.nil)
  · go_simp
    refine (nought_at _).mono ?_
    rintro e v10 ⟨rfl, hb10⟩
    have K10 := hid (K9.out.keep hb10)
    go_wp2_with fail
    refine hK.out _ _ ?_ (fun hHeld10 => ?_)
    · exact K10.out.cells
    clear hK K
    clear hb10
    refine wpAnyH_ready (rs := [23]) (by kernel_rfl) (by simp) ?_
    refine AllReadyH.cons (o := { dst := some 43, op := Go.Op.buildSlice 28 1 #[(0, Go.Operand.tmp 42)], type := 28, pos := _, after := #[{ on := 22, ground := Go.Ground.data }, { on := 20, ground := Go.Ground.guard }], guard := some (20, true) }) rfl (fun K hK => ?_) AllReadyH.nil
    go_simp
    go_wp2_with fail
    have SX11 := hid (st1 v10 19 pA _ (by decide) K10.out.SA)
    have K11 := hid (K10.out.keep ((Below.refl _ _).alloc (Nat.le_refl _) (.cells #[.int .u8 19, .int .i64 0, .string ⟨#[]⟩, .slice (some ⟨sa, 0, none⟩) 1 1] 30)))
    refine hK.out _ _ ?_ (fun hHeld11 => ?_)
    · exact K11.out.cells
    clear hK K
    refine wpAnyH_ready (rs := [24]) (by kernel_rfl) (by simp) ?_
    refine AllReadyH.cons (o := { dst := some 44, op := Go.Op.call { callee := Go.Callee.value (Go.Operand.func 12), args := #[Go.Operand.const (Go.Value.int Go.IntKind.u8 19), Go.Operand.tmp 43], argTypes := #[27, 28] }, type := 30, pos := _, after := #[{ on := 23, ground := Go.Ground.data }, { on := 21, ground := Go.Ground.chain }, { on := 20, ground := Go.Ground.guard }], guard := some (20, true) }) rfl (fun K hK => ?_) AllReadyH.nil
    go_simp
    refine (of_pl 19 _ _ _ _).mono ?_
    rintro e v12 ⟨rfl, hb12⟩
    have K12 := hid (K11.out.keep hb12)
    have SY12 := hid (SX11.out.keep hb12)
    go_wp2_with fail
    refine hK.out _ _ ?_ (fun hHeld12 => ?_)
    · exact K12.out.cells
    clear hK K
    refine wpAnyH_ready (rs := [25]) (by kernel_rfl) (by simp) ?_
    refine AllReadyH.cons (o := { dst := some 45, op := Go.Op.buildSlice 28 2 #[(0, Go.Operand.tmp 41), (1, Go.Operand.tmp 44)], type := 28, pos := _, after := #[{ on := 21, ground := Go.Ground.data }, { on := 24, ground := Go.Ground.data }, { on := 20, ground := Go.Ground.guard }], guard := some (20, true) }) rfl (fun K hK => ?_) AllReadyH.nil
    go_simp
    go_wp2_with fail
    have SX13 := hid (st2 v12 18 exO ⟨19, 0, ⟨#[]⟩, [pA]⟩ _ _ (by decide) (stO _) SY12.out)
    have K13 := hid (K12.out.keep ((Below.refl _ _).alloc (Nat.le_refl _) (.cells #[.int .u8 1, .int .i64 0, .string ⟨#[]⟩, .slice none 0 0, .int .u8 19, .int .i64 0, .string ⟨#[]⟩, .slice (some ⟨v10.heap.size, 0, none⟩) 1 1] 30)))
    refine hK.out _ _ ?_ (fun hHeld13 => ?_)
    · exact K13.out.cells
    clear hK K
    refine wpAnyH_ready (rs := [26]) (by kernel_rfl) (by simp) ?_
    refine AllReadyH.cons (o := { dst := some 46, op := Go.Op.call { callee := Go.Callee.value (Go.Operand.func 12), args := #[Go.Operand.const (Go.Value.int Go.IntKind.u8 18), Go.Operand.tmp 45], argTypes := #[27, 28] }, type := 30, pos := _, after := #[{ on := 25, ground := Go.Ground.data }, { on := 24, ground := Go.Ground.chain }, { on := 20, ground := Go.Ground.guard }], guard := some (20, true) }) rfl (fun K hK => ?_) AllReadyH.nil
    go_simp
    refine (of_pl 18 _ _ _ _).mono ?_
    rintro e v14 ⟨rfl, hb14⟩
    have K14 := hid (K13.out.keep hb14)
    have SY14 := hid (SX13.out.keep hb14)
    go_wp2_with fail
    refine hK.out _ _ ?_ (fun hHeld14 => ?_)
    · exact K14.out.cells
    clear hK K
    refine wpAnyH_ready (rs := [27]) (by kernel_rfl) (by simp) ?_
    refine AllReadyH.cons (o := { dst := some 47, op := Go.Op.call { callee := Go.Callee.value (Go.Operand.func 15), args := #[Go.Operand.tmp 46, Go.Operand.const (Go.Value.int Go.IntKind.i64 2)], argTypes := #[30, 3] }, type := 4, pos := _, after := #[{ on := 26, ground := Go.Ground.data }, { on := 26, ground := Go.Ground.chain }, { on := 20, ground := Go.Ground.guard }], guard := some (20, true) }) rfl (fun K hK => ?_) AllReadyH.nil
    go_simp
    refine (is_at _ _ t4 _ _ SY14.out K14.out.R K14.out.J).mono ?_
    rintro e v15 ⟨rfl, hb15⟩
    have K15 := hid (K14.out.keep hb15)
    go_wp2_with fail
    refine hK.out _ _ ?_ (fun hHeld15 => ?_)
    · exact K15.out.cells
    clear hK K
    clear hb15
    refine wpAnyH_take (i := 28) (oi := { dst := some 48, op := Go.Op.pick (Go.Operand.tmp 40) (Go.Operand.tmp 47) (Go.Operand.const (Go.Value.bool false)), type := 4, pos := _, after := #[{ on := 20, ground := Go.Ground.data }, { on := 27, ground := Go.Ground.data }], guard := none }) (v := ?_) rfl (by kernel_rfl) (by kernel_rfl) (by kernel_rfl) (fun _ _ _ h => h) (Or.inl ⟨by rfl, ?_⟩) (by assumption) ?_
    rotate_left
    · intro w hSw; (try dsimp only at hSw); go_simp <;> first | with_reducible rfl | (rw [if_neg (by first | omega | (simp only [ByteArray.size_append] at *; omega))])
    simp only [Act.put, List.setIfInBounds_toArray, List.set_cons_zero, List.set_cons_succ]
    refine wpAnyH_take (i := 29) (oi := { dst := some 49, op := Go.Op.move (Go.Operand.tmp 48), type := 4, pos := _, after := #[{ on := 28, ground := Go.Ground.data }, { on := 27, ground := Go.Ground.chain }], guard := none }) (v := ?_) rfl (by kernel_rfl) (by kernel_rfl) (by kernel_rfl) (fun _ _ _ h => h) (Or.inl ⟨by rfl, ?_⟩) (by assumption) ?_
    rotate_left
    · intro w hSw; (try dsimp only at hSw); go_simp <;> first | with_reducible rfl | (rw [if_neg (by first | omega | (simp only [ByteArray.size_append] at *; omega))])
    simp only [Act.put, List.setIfInBounds_toArray, List.set_cons_zero, List.set_cons_succ]
    refine wpAnyH_take (i := 30) (oi := { dst := some 50, op := Go.Op.load 30 (Go.Operand.tmp 2), type := 30, pos := _, after := #[{ on := 29, ground := Go.Ground.guard }], guard := some (29, true) }) (v := ?_) rfl (by kernel_rfl) (by kernel_rfl) (by kernel_rfl) (fun _ _ _ h => h) (Or.inl ⟨by rfl, ?_⟩) (by assumption) ?_
    rotate_left
    · intro w hSw; (try dsimp only at hSw); go_simp <;> first | with_reducible rfl | (rw [if_neg (by first | omega | (simp only [ByteArray.size_append] at *; omega))])
    simp only [Act.put, List.setIfInBounds_toArray, List.set_cons_zero, List.set_cons_succ]
    refine wpAnyH_take (i := 33) (oi := { dst := some 53, op := Go.Op.load 30 (Go.Operand.tmp 1), type := 30, pos := _, after := #[{ on := 29, ground := Go.Ground.guard }], guard := some (29, true) }) (v := ?_) rfl (by kernel_rfl) (by kernel_rfl) (by kernel_rfl) (fun _ _ _ h => h) (Or.inl ⟨by rfl, ?_⟩) (by assumption) ?_
    rotate_left
    · intro w hSw; (try dsimp only at hSw); go_simp <;> first | with_reducible rfl | (rw [if_neg (by first | omega | (simp only [ByteArray.size_append] at *; omega))])
    simp only [Act.put, List.setIfInBounds_toArray, List.set_cons_zero, List.set_cons_succ]
    refine wpAnyH_ready (rs := [31]) (by kernel_rfl) (by simp) ?_
    refine AllReadyH.cons (o := { dst := some 51, op := Go.Op.buildSlice 28 1 #[(0, Go.Operand.tmp 50)], type := 28, pos := _, after := #[{ on := 30, ground := Go.Ground.data }, { on := 29, ground := Go.Ground.guard }], guard := some (29, true) }) rfl (fun K hK => ?_) AllReadyH.nil
    go_simp
    go_wp2_with fail
    have SX16 := hid (st1 v15 19 pA _ (by decide) K15.out.SA)
    have K16 := hid (K15.out.keep ((Below.refl _ _).alloc (Nat.le_refl _) (.cells #[.int .u8 19, .int .i64 0, .string ⟨#[]⟩, .slice (some ⟨sa, 0, none⟩) 1 1] 30)))
    refine hK.out _ _ ?_ (fun hHeld16 => ?_)
    · exact K16.out.cells
    clear hK K
    refine wpAnyH_ready (rs := [32]) (by kernel_rfl) (by simp) ?_
    refine AllReadyH.cons (o := { dst := some 52, op := Go.Op.call { callee := Go.Callee.value (Go.Operand.func 12), args := #[Go.Operand.const (Go.Value.int Go.IntKind.u8 19), Go.Operand.tmp 51], argTypes := #[27, 28] }, type := 30, pos := _, after := #[{ on := 31, ground := Go.Ground.data }, { on := 29, ground := Go.Ground.chain }, { on := 29, ground := Go.Ground.guard }], guard := some (29, true) }) rfl (fun K hK => ?_) AllReadyH.nil
    go_simp
    refine (of_pl 19 _ _ _ _).mono ?_
    rintro e v17 ⟨rfl, hb17⟩
    have K17 := hid (K16.out.keep hb17)
    have SY17 := hid (SX16.out.keep hb17)
    go_wp2_with fail
    refine hK.out _ _ ?_ (fun hHeld17 => ?_)
    · exact K17.out.cells
    clear hK K
    refine wpAnyH_ready (rs := [34]) (by kernel_rfl) (by simp) ?_
    refine AllReadyH.cons (o := { dst := some 54, op := Go.Op.buildSlice 28 2 #[(0, Go.Operand.tmp 52), (1, Go.Operand.tmp 53)], type := 28, pos := _, after := #[{ on := 32, ground := Go.Ground.data }, { on := 33, ground := Go.Ground.data }, { on := 29, ground := Go.Ground.guard }], guard := some (29, true) }) rfl (fun K hK => ?_) AllReadyH.nil
    go_simp
    go_wp2_with fail
    have SX18 := hid (st2 v17 18 ⟨19, 0, ⟨#[]⟩, [pA]⟩ exA _ _ (by decide) SY17.out (stA _))
    have K18 := hid (K17.out.keep ((Below.refl _ _).alloc (Nat.le_refl _) (.cells #[.int .u8 19, .int .i64 0, .string ⟨#[]⟩, .slice (some ⟨v15.heap.size, 0, none⟩) 1 1, .int .u8 3, .int .i64 0, .string ⟨#[97]⟩, .slice none 0 0] 30)))
    refine hK.out _ _ ?_ (fun hHeld18 => ?_)
    · exact K18.out.cells
    clear hK K
    refine wpAnyH_ready (rs := [35]) (by kernel_rfl) (by simp) ?_
    refine AllReadyH.cons (o := { dst := some 55, op := Go.Op.call { callee := Go.Callee.value (Go.Operand.func 12), args := #[Go.Operand.const (Go.Value.int Go.IntKind.u8 18), Go.Operand.tmp 54], argTypes := #[27, 28] }, type := 30, pos := _, after := #[{ on := 34, ground := Go.Ground.data }, { on := 32, ground := Go.Ground.chain }, { on := 29, ground := Go.Ground.guard }], guard := some (29, true) }) rfl (fun K hK => ?_) AllReadyH.nil
    go_simp
    refine (of_pl 18 _ _ _ _).mono ?_
    rintro e v19 ⟨rfl, hb19⟩
    have K19 := hid (K18.out.keep hb19)
    have SY19 := hid (SX18.out.keep hb19)
    go_wp2_with fail
    refine hK.out _ _ ?_ (fun hHeld19 => ?_)
    · exact K19.out.cells
    clear hK K
    refine wpAnyH_ready (rs := [36]) (by kernel_rfl) (by simp) ?_
    refine AllReadyH.cons (o := { dst := some 56, op := Go.Op.call { callee := Go.Callee.value (Go.Operand.func 15), args := #[Go.Operand.tmp 55, Go.Operand.const (Go.Value.int Go.IntKind.i64 1)], argTypes := #[30, 3] }, type := 4, pos := _, after := #[{ on := 35, ground := Go.Ground.data }, { on := 35, ground := Go.Ground.chain }, { on := 29, ground := Go.Ground.guard }], guard := some (29, true) }) rfl (fun K hK => ?_) AllReadyH.nil
    go_simp
    refine (is_at _ _ t5 _ _ SY19.out K19.out.R K19.out.J).mono ?_
    rintro e v20 ⟨rfl, hb20⟩
    have K20 := hid (K19.out.keep hb20)
    go_wp2_with fail
    refine hK.out _ _ ?_ (fun hHeld20 => ?_)
    · exact K20.out.cells
    clear hK K
    clear hb20
    refine wpAnyH_take (i := 37) (oi := { dst := some 57, op := Go.Op.pick (Go.Operand.tmp 49) (Go.Operand.tmp 56) (Go.Operand.const (Go.Value.bool false)), type := 4, pos := _, after := #[{ on := 29, ground := Go.Ground.data }, { on := 36, ground := Go.Ground.data }], guard := none }) (v := ?_) rfl (by kernel_rfl) (by kernel_rfl) (by kernel_rfl) (fun _ _ _ h => h) (Or.inl ⟨by rfl, ?_⟩) (by assumption) ?_
    rotate_left
    · intro w hSw; (try dsimp only at hSw); go_simp <;> first | with_reducible rfl | (rw [if_neg (by first | omega | (simp only [ByteArray.size_append] at *; omega))])
    simp only [Act.put, List.setIfInBounds_toArray, List.set_cons_zero, List.set_cons_succ]
    refine wpAnyH_take (i := 38) (oi := { dst := some 58, op := Go.Op.move (Go.Operand.tmp 57), type := 4, pos := _, after := #[{ on := 37, ground := Go.Ground.data }, { on := 36, ground := Go.Ground.chain }], guard := none }) (v := ?_) rfl (by kernel_rfl) (by kernel_rfl) (by kernel_rfl) (fun _ _ _ h => h) (Or.inl ⟨by rfl, ?_⟩) (by assumption) ?_
    rotate_left
    · intro w hSw; (try dsimp only at hSw); go_simp <;> first | with_reducible rfl | (rw [if_neg (by first | omega | (simp only [ByteArray.size_append] at *; omega))])
    simp only [Act.put, List.setIfInBounds_toArray, List.set_cons_zero, List.set_cons_succ]
    refine wpAnyH_take (i := 39) (oi := { dst := some 59, op := Go.Op.build 30 #[(0, Go.Operand.const (Go.Value.int Go.IntKind.u8 2))], type := 30, pos := _, after := #[{ on := 38, ground := Go.Ground.guard }], guard := some (38, true) }) (v := ?_) rfl (by kernel_rfl) (by kernel_rfl) (by kernel_rfl) (fun _ _ _ h => h) (Or.inl ⟨by rfl, ?_⟩) (by assumption) ?_
    rotate_left
    · intro w hSw; (try dsimp only at hSw); go_simp <;> first | with_reducible rfl | (rw [if_neg (by first | omega | (simp only [ByteArray.size_append] at *; omega))])
    simp only [Act.put, List.setIfInBounds_toArray, List.set_cons_zero, List.set_cons_succ]
    refine wpAnyH_take (i := 40) (oi := { dst := some 60, op := Go.Op.load 30 (Go.Operand.tmp 1), type := 30, pos := _, after := #[{ on := 38, ground := Go.Ground.guard }], guard := some (38, true) }) (v := ?_) rfl (by kernel_rfl) (by kernel_rfl) (by kernel_rfl) (fun _ _ _ h => h) (Or.inl ⟨by rfl, ?_⟩) (by assumption) ?_
    rotate_left
    · intro w hSw; (try dsimp only at hSw); go_simp <;> first | with_reducible rfl | (rw [if_neg (by first | omega | (simp only [ByteArray.size_append] at *; omega))])
    simp only [Act.put, List.setIfInBounds_toArray, List.set_cons_zero, List.set_cons_succ]
    refine wpAnyH_take (i := 41) (oi := { dst := some 61, op := Go.Op.load 30 (Go.Operand.tmp 2), type := 30, pos := _, after := #[{ on := 38, ground := Go.Ground.guard }], guard := some (38, true) }) (v := ?_) rfl (by kernel_rfl) (by kernel_rfl) (by kernel_rfl) (fun _ _ _ h => h) (Or.inl ⟨by rfl, ?_⟩) (by assumption) ?_
    rotate_left
    · intro w hSw; (try dsimp only at hSw); go_simp <;> first | with_reducible rfl | (rw [if_neg (by first | omega | (simp only [ByteArray.size_append] at *; omega))])
    simp only [Act.put, List.setIfInBounds_toArray, List.set_cons_zero, List.set_cons_succ]
    refine wpAnyH_ready (rs := [42]) (by kernel_rfl) (by simp) ?_
    refine AllReadyH.cons (o := { dst := some 62, op := Go.Op.buildSlice 28 3 #[(0, Go.Operand.tmp 59), (1, Go.Operand.tmp 60), (2, Go.Operand.tmp 61)], type := 28, pos := _, after := #[{ on := 39, ground := Go.Ground.data }, { on := 40, ground := Go.Ground.data }, { on := 41, ground := Go.Ground.data }, { on := 38, ground := Go.Ground.guard }], guard := some (38, true) }) rfl (fun K hK => ?_) AllReadyH.nil
    go_simp
    go_wp2_with fail
    have SX21 := hid (st3 v20 17 exD exA pA _ _ _ (by decide) (stD _) (stA _) K20.out.SA)
    have K21 := hid (K20.out.keep ((Below.refl _ _).alloc (Nat.le_refl _) (.cells #[.int .u8 2, .int .i64 0, .string ⟨#[]⟩, .slice none 0 0, .int .u8 3, .int .i64 0, .string ⟨#[97]⟩, .slice none 0 0, .int .u8 19, .int .i64 0, .string ⟨#[]⟩, .slice (some ⟨sa, 0, none⟩) 1 1] 30)))
    refine hK.out _ _ ?_ (fun hHeld21 => ?_)
    · exact K21.out.cells
    clear hK K
    refine wpAnyH_ready (rs := [43]) (by kernel_rfl) (by simp) ?_
    refine AllReadyH.cons (o := { dst := some 63, op := Go.Op.call { callee := Go.Callee.value (Go.Operand.func 12), args := #[Go.Operand.const (Go.Value.int Go.IntKind.u8 17), Go.Operand.tmp 62], argTypes := #[27, 28] }, type := 30, pos := _, after := #[{ on := 42, ground := Go.Ground.data }, { on := 38, ground := Go.Ground.chain }, { on := 38, ground := Go.Ground.guard }], guard := some (38, true) }) rfl (fun K hK => ?_) AllReadyH.nil
    go_simp
    refine (of_pl 17 _ _ _ _).mono ?_
    rintro e v22 ⟨rfl, hb22⟩
    have K22 := hid (K21.out.keep hb22)
    have SY22 := hid (SX21.out.keep hb22)
    go_wp2_with fail
    refine hK.out _ _ ?_ (fun hHeld22 => ?_)
    · exact K22.out.cells
    clear hK K
    refine wpAnyH_ready (rs := [44]) (by kernel_rfl) (by simp) ?_
    refine AllReadyH.cons (o := { dst := some 64, op := Go.Op.call { callee := Go.Callee.value (Go.Operand.func 15), args := #[Go.Operand.tmp 63, Go.Operand.const (Go.Value.int Go.IntKind.i64 1)], argTypes := #[30, 3] }, type := 4, pos := _, after := #[{ on := 43, ground := Go.Ground.data }, { on := 43, ground := Go.Ground.chain }, { on := 38, ground := Go.Ground.guard }], guard := some (38, true) }) rfl (fun K hK => ?_) AllReadyH.nil
    go_simp
    refine (is_at _ _ t6 _ _ SY22.out K22.out.R K22.out.J).mono ?_
    rintro e v23 ⟨rfl, hb23⟩
    have K23 := hid (K22.out.keep hb23)
    go_wp2_with fail
    refine hK.out _ _ ?_ (fun hHeld23 => ?_)
    · exact K23.out.cells
    clear hK K
    clear hb23
    refine wpAnyH_take (i := 45) (oi := { dst := some 65, op := Go.Op.pick (Go.Operand.tmp 58) (Go.Operand.tmp 64) (Go.Operand.const (Go.Value.bool false)), type := 4, pos := _, after := #[{ on := 38, ground := Go.Ground.data }, { on := 44, ground := Go.Ground.data }], guard := none }) (v := ?_) rfl (by kernel_rfl) (by kernel_rfl) (by kernel_rfl) (fun _ _ _ h => h) (Or.inl ⟨by rfl, ?_⟩) (by assumption) ?_
    rotate_left
    · intro w hSw; (try dsimp only at hSw); go_simp <;> first | with_reducible rfl | (rw [if_neg (by first | omega | (simp only [ByteArray.size_append] at *; omega))])
    simp only [Act.put, List.setIfInBounds_toArray, List.set_cons_zero, List.set_cons_succ]
    refine wpAnyH_take (i := 46) (oi := { dst := some 66, op := Go.Op.move (Go.Operand.tmp 65), type := 4, pos := _, after := #[{ on := 45, ground := Go.Ground.data }, { on := 44, ground := Go.Ground.chain }], guard := none }) (v := ?_) rfl (by kernel_rfl) (by kernel_rfl) (by kernel_rfl) (fun _ _ _ h => h) (Or.inl ⟨by rfl, ?_⟩) (by assumption) ?_
    rotate_left
    · intro w hSw; (try dsimp only at hSw); go_simp <;> first | with_reducible rfl | (rw [if_neg (by first | omega | (simp only [ByteArray.size_append] at *; omega))])
    simp only [Act.put, List.setIfInBounds_toArray, List.set_cons_zero, List.set_cons_succ]
    refine wpAnyH_take (i := 47) (oi := { dst := some 67, op := Go.Op.load 30 (Go.Operand.tmp 5), type := 30, pos := _, after := #[{ on := 46, ground := Go.Ground.guard }], guard := some (46, true) }) (v := ?_) rfl (by kernel_rfl) (by kernel_rfl) (by kernel_rfl) (fun _ _ _ h => h) (Or.inl ⟨by rfl, ?_⟩) (by assumption) ?_
    rotate_left
    · intro w hSw; (try dsimp only at hSw); go_simp <;> first | with_reducible rfl | (rw [if_neg (by first | omega | (simp only [ByteArray.size_append] at *; omega))])
    simp only [Act.put, List.setIfInBounds_toArray, List.set_cons_zero, List.set_cons_succ]
    refine wpAnyH_ready (rs := [48]) (by kernel_rfl) (by simp) ?_
    refine AllReadyH.cons (o := { dst := some 68, op := Go.Op.call { callee := Go.Callee.value (Go.Operand.func 13), args := #[Go.Operand.tmp 67], argTypes := #[30] }, type := 26, pos := _, after := #[{ on := 47, ground := Go.Ground.data }, { on := 46, ground := Go.Ground.chain }, { on := 46, ground := Go.Ground.guard }], guard := some (46, true) }) rfl (fun K hK => ?_) AllReadyH.nil
    go_simp
    refine (small_at pX _ _ K23.out.SXX).mono ?_
    rintro e v24 ⟨sb24, rfl, hP24, hb24⟩
    have K24 := hid (K23.out.keep hb24)
    have HP24 := hid hP24
    clear hP24
    go_wp2_with fail
    refine hK.out _ _ ?_ (fun hHeld24 => ?_)
    · exact K24.out.cells
    clear hK K
    refine wpAnyH_ready (rs := [49]) (by kernel_rfl) (by simp) ?_
    refine AllReadyH.cons (o := { dst := some 69, op := Go.Op.call { callee := Go.Callee.value (Go.Operand.func 16), args := #[Go.Operand.tmp 68], argTypes := #[26] }, type := 43, pos := _, after := #[{ on := 48, ground := Go.Ground.data }, { on := 48, ground := Go.Ground.chain }, { on := 46, ground := Go.Ground.guard }], guard := some (46, true) }) rfl (fun K hK => ?_) AllReadyH.nil
    go_simp
    refine (starts_check (smP pX) _ _ _ _ HP24.out K24.out.R K24.out.J).mono ?_
    rintro e v25 ⟨rfl, hb25⟩
    rw [c1]
    have K25 := hid (K24.out.keep hb25)
    go_wp2_with fail
    refine hK.out _ _ ?_ (fun hHeld25 => ?_)
    · exact K25.out.cells
    clear hK K
    refine wpAnyH_take (i := 50) (oi := { dst := some 70, op := Go.Op.binOp Go.BinOp.eql 43 (Go.Operand.tmp 69) (Go.Operand.const (Go.Value.int Go.IntKind.i64 9)) 43, type := 4, pos := _, after := #[{ on := 49, ground := Go.Ground.data }, { on := 46, ground := Go.Ground.guard }], guard := some (46, true) }) (v := ?_) rfl (by kernel_rfl) (by kernel_rfl) (by kernel_rfl) (fun _ _ _ h => h) (Or.inl ⟨by rfl, ?_⟩) (by assumption) ?_
    rotate_left
    · intro w hSw; (try dsimp only at hSw); go_simp <;> first | with_reducible rfl | (rw [if_neg (by first | omega | (simp only [ByteArray.size_append] at *; omega))])
    simp only [Act.put, List.setIfInBounds_toArray, List.set_cons_zero, List.set_cons_succ]
    refine wpAnyH_take (i := 51) (oi := { dst := some 71, op := Go.Op.pick (Go.Operand.tmp 66) (Go.Operand.tmp 70) (Go.Operand.const (Go.Value.bool false)), type := 4, pos := _, after := #[{ on := 46, ground := Go.Ground.data }, { on := 50, ground := Go.Ground.data }], guard := none }) (v := ?_) rfl (by kernel_rfl) (by kernel_rfl) (by kernel_rfl) (fun _ _ _ h => h) (Or.inl ⟨by rfl, ?_⟩) (by assumption) ?_
    rotate_left
    · intro w hSw; (try dsimp only at hSw); go_simp <;> first | with_reducible rfl | (rw [if_neg (by first | omega | (simp only [ByteArray.size_append] at *; omega))])
    simp only [Act.put, List.setIfInBounds_toArray, List.set_cons_zero, List.set_cons_succ]
    refine wpAnyH_take (i := 52) (oi := { dst := some 72, op := Go.Op.move (Go.Operand.tmp 71), type := 4, pos := _, after := #[{ on := 51, ground := Go.Ground.data }, { on := 49, ground := Go.Ground.chain }], guard := none }) (v := ?_) rfl (by kernel_rfl) (by kernel_rfl) (by kernel_rfl) (fun _ _ _ h => h) (Or.inl ⟨by rfl, ?_⟩) (by assumption) ?_
    rotate_left
    · intro w hSw; (try dsimp only at hSw); go_simp <;> first | with_reducible rfl | (rw [if_neg (by first | omega | (simp only [ByteArray.size_append] at *; omega))])
    simp only [Act.put, List.setIfInBounds_toArray, List.set_cons_zero, List.set_cons_succ]
    refine wpAnyH_take (i := 54) (oi := { dst := some 74, op := Go.Op.load 30 (Go.Operand.tmp 5), type := 30, pos := _, after := #[{ on := 52, ground := Go.Ground.guard }], guard := some (52, true) }) (v := ?_) rfl (by kernel_rfl) (by kernel_rfl) (by kernel_rfl) (fun _ _ _ h => h) (Or.inl ⟨by rfl, ?_⟩) (by assumption) ?_
    rotate_left
    · intro w hSw; (try dsimp only at hSw); go_simp <;> first | with_reducible rfl | (rw [if_neg (by first | omega | (simp only [ByteArray.size_append] at *; omega))])
    simp only [Act.put, List.setIfInBounds_toArray, List.set_cons_zero, List.set_cons_succ]
    refine wpAnyH_ready (rs := [53]) (by kernel_rfl) (by simp) ?_
    refine AllReadyH.cons (o := { dst := some 73, op := Go.Op.call { callee := Go.Callee.value (Go.Operand.func 14), args := #[], argTypes := #[] }, type := 30, pos := _, after := #[{ on := 52, ground := Go.Ground.chain }, { on := 52, ground := Go.Ground.guard }], guard := some (52, true) }) rfl (fun K hK => ?_) AllReadyH.nil
    go_simp
    refine (nought_at _).mono ?_
    rintro e v26 ⟨rfl, hb26⟩
    have K26 := hid (K25.out.keep hb26)
    go_wp2_with fail
    refine hK.out _ _ ?_ (fun hHeld26 => ?_)
    · exact K26.out.cells
    clear hK K
    clear hb26
    refine wpAnyH_ready (rs := [55]) (by kernel_rfl) (by simp) ?_
    refine AllReadyH.cons (o := { dst := some 75, op := Go.Op.buildSlice 28 2 #[(0, Go.Operand.tmp 73), (1, Go.Operand.tmp 74)], type := 28, pos := _, after := #[{ on := 53, ground := Go.Ground.data }, { on := 54, ground := Go.Ground.data }, { on := 52, ground := Go.Ground.guard }], guard := some (52, true) }) rfl (fun K hK => ?_) AllReadyH.nil
    go_simp
    go_wp2_with fail
    have SX27 := hid (st2 v26 18 exO pX _ _ (by decide) (stO _) K26.out.SXX)
    have K27 := hid (K26.out.keep ((Below.refl _ _).alloc (Nat.le_refl _) (.cells #[.int .u8 1, .int .i64 0, .string ⟨#[]⟩, .slice none 0 0, .int .u8 19, .int .i64 0, .string ⟨#[]⟩, .slice (some ⟨sx, 0, none⟩) 1 1] 30)))
    refine hK.out _ _ ?_ (fun hHeld27 => ?_)
    · exact K27.out.cells
    clear hK K
    refine wpAnyH_ready (rs := [56]) (by kernel_rfl) (by simp) ?_
    refine AllReadyH.cons (o := { dst := some 76, op := Go.Op.call { callee := Go.Callee.value (Go.Operand.func 12), args := #[Go.Operand.const (Go.Value.int Go.IntKind.u8 18), Go.Operand.tmp 75], argTypes := #[27, 28] }, type := 30, pos := _, after := #[{ on := 55, ground := Go.Ground.data }, { on := 53, ground := Go.Ground.chain }, { on := 52, ground := Go.Ground.guard }], guard := some (52, true) }) rfl (fun K hK => ?_) AllReadyH.nil
    go_simp
    refine (of_pl 18 _ _ _ _).mono ?_
    rintro e v28 ⟨rfl, hb28⟩
    have K28 := hid (K27.out.keep hb28)
    have SY28 := hid (SX27.out.keep hb28)
    go_wp2_with fail
    refine hK.out _ _ ?_ (fun hHeld28 => ?_)
    · exact K28.out.cells
    clear hK K
    refine wpAnyH_ready (rs := [57]) (by kernel_rfl) (by simp) ?_
    refine AllReadyH.cons (o := { dst := some 77, op := Go.Op.call { callee := Go.Callee.value (Go.Operand.func 13), args := #[Go.Operand.tmp 76], argTypes := #[30] }, type := 26, pos := _, after := #[{ on := 56, ground := Go.Ground.data }, { on := 56, ground := Go.Ground.chain }, { on := 52, ground := Go.Ground.guard }], guard := some (52, true) }) rfl (fun K hK => ?_) AllReadyH.nil
    go_simp
    refine (small_at ⟨18, 0, ⟨#[]⟩, [exO, pX]⟩ _ _ SY28.out).mono ?_
    rintro e v29 ⟨sb29, rfl, hP29, hb29⟩
    have K29 := hid (K28.out.keep hb29)
    have HP29 := hid hP29
    clear hP29
    go_wp2_with fail
    refine hK.out _ _ ?_ (fun hHeld29 => ?_)
    · exact K29.out.cells
    clear hK K
    refine wpAnyH_ready (rs := [58]) (by kernel_rfl) (by simp) ?_
    refine AllReadyH.cons (o := { dst := some 78, op := Go.Op.call { callee := Go.Callee.value (Go.Operand.func 16), args := #[Go.Operand.tmp 77], argTypes := #[26] }, type := 43, pos := _, after := #[{ on := 57, ground := Go.Ground.data }, { on := 57, ground := Go.Ground.chain }, { on := 52, ground := Go.Ground.guard }], guard := some (52, true) }) rfl (fun K hK => ?_) AllReadyH.nil
    go_simp
    refine (starts_check (smP ⟨18, 0, ⟨#[]⟩, [exO, pX]⟩) _ _ _ _ HP29.out K29.out.R K29.out.J).mono ?_
    rintro e v30 ⟨rfl, hb30⟩
    rw [c2]
    have K30 := hid (K29.out.keep hb30)
    go_wp2_with fail
    refine hK.out _ _ ?_ (fun hHeld30 => ?_)
    · exact K30.out.cells
    clear hK K
    refine wpAnyH_take (i := 59) (oi := { dst := some 79, op := Go.Op.binOp Go.BinOp.eql 43 (Go.Operand.tmp 78) (Go.Operand.const (Go.Value.int Go.IntKind.i64 0)) 43, type := 4, pos := _, after := #[{ on := 58, ground := Go.Ground.data }, { on := 52, ground := Go.Ground.guard }], guard := some (52, true) }) (v := ?_) rfl (by kernel_rfl) (by kernel_rfl) (by kernel_rfl) (fun _ _ _ h => h) (Or.inl ⟨by rfl, ?_⟩) (by assumption) ?_
    rotate_left
    · intro w hSw; (try dsimp only at hSw); go_simp <;> first | with_reducible rfl | (rw [if_neg (by first | omega | (simp only [ByteArray.size_append] at *; omega))])
    simp only [Act.put, List.setIfInBounds_toArray, List.set_cons_zero, List.set_cons_succ]
    refine wpAnyH_take (i := 60) (oi := { dst := some 80, op := Go.Op.pick (Go.Operand.tmp 72) (Go.Operand.tmp 79) (Go.Operand.const (Go.Value.bool false)), type := 4, pos := _, after := #[{ on := 52, ground := Go.Ground.data }, { on := 59, ground := Go.Ground.data }], guard := none }) (v := ?_) rfl (by kernel_rfl) (by kernel_rfl) (by kernel_rfl) (fun _ _ _ h => h) (Or.inl ⟨by rfl, ?_⟩) (by assumption) ?_
    rotate_left
    · intro w hSw; (try dsimp only at hSw); go_simp <;> first | with_reducible rfl | (rw [if_neg (by first | omega | (simp only [ByteArray.size_append] at *; omega))])
    simp only [Act.put, List.setIfInBounds_toArray, List.set_cons_zero, List.set_cons_succ]
    refine wpAnyH_take (i := 61) (oi := { dst := some 0, op := Go.Op.assign (Go.Operand.tmp 80), type := 4, pos := _, after := #[{ on := 60, ground := Go.Ground.data }, { on := 58, ground := Go.Ground.chain }, { on := 0, ground := Go.Ground.phase }, { on := 1, ground := Go.Ground.phase }, { on := 2, ground := Go.Ground.phase }, { on := 3, ground := Go.Ground.phase }, { on := 4, ground := Go.Ground.phase }, { on := 5, ground := Go.Ground.phase }, { on := 6, ground := Go.Ground.phase }, { on := 7, ground := Go.Ground.phase }, { on := 8, ground := Go.Ground.phase }, { on := 9, ground := Go.Ground.phase }, { on := 10, ground := Go.Ground.phase }, { on := 11, ground := Go.Ground.phase }, { on := 12, ground := Go.Ground.phase }, { on := 13, ground := Go.Ground.phase }, { on := 14, ground := Go.Ground.phase }, { on := 15, ground := Go.Ground.phase }, { on := 16, ground := Go.Ground.phase }, { on := 17, ground := Go.Ground.phase }, { on := 18, ground := Go.Ground.phase }, { on := 19, ground := Go.Ground.phase }, { on := 20, ground := Go.Ground.phase }, { on := 21, ground := Go.Ground.phase }, { on := 22, ground := Go.Ground.phase }, { on := 23, ground := Go.Ground.phase }, { on := 24, ground := Go.Ground.phase }, { on := 25, ground := Go.Ground.phase }, { on := 26, ground := Go.Ground.phase }, { on := 27, ground := Go.Ground.phase }, { on := 28, ground := Go.Ground.phase }, { on := 29, ground := Go.Ground.phase }, { on := 30, ground := Go.Ground.phase }, { on := 31, ground := Go.Ground.phase }, { on := 32, ground := Go.Ground.phase }, { on := 33, ground := Go.Ground.phase }, { on := 34, ground := Go.Ground.phase }, { on := 35, ground := Go.Ground.phase }, { on := 36, ground := Go.Ground.phase }, { on := 37, ground := Go.Ground.phase }, { on := 38, ground := Go.Ground.phase }, { on := 39, ground := Go.Ground.phase }, { on := 40, ground := Go.Ground.phase }, { on := 41, ground := Go.Ground.phase }, { on := 42, ground := Go.Ground.phase }, { on := 43, ground := Go.Ground.phase }, { on := 44, ground := Go.Ground.phase }, { on := 45, ground := Go.Ground.phase }, { on := 46, ground := Go.Ground.phase }, { on := 47, ground := Go.Ground.phase }, { on := 48, ground := Go.Ground.phase }, { on := 49, ground := Go.Ground.phase }, { on := 50, ground := Go.Ground.phase }, { on := 51, ground := Go.Ground.phase }, { on := 52, ground := Go.Ground.phase }, { on := 53, ground := Go.Ground.phase }, { on := 54, ground := Go.Ground.phase }, { on := 55, ground := Go.Ground.phase }, { on := 56, ground := Go.Ground.phase }, { on := 57, ground := Go.Ground.phase }, { on := 58, ground := Go.Ground.phase }, { on := 59, ground := Go.Ground.phase }, { on := 60, ground := Go.Ground.phase }], guard := none }) (v := ?_) rfl (by kernel_rfl) (by kernel_rfl) (by kernel_rfl) (fun _ _ _ h => h) (Or.inl ⟨by rfl, ?_⟩) (by assumption) ?_
    rotate_left
    · intro w hSw; (try dsimp only at hSw); go_simp <;> first | with_reducible rfl | (rw [if_neg (by first | omega | (simp only [ByteArray.size_append] at *; omega))])
    simp only [Act.put, List.setIfInBounds_toArray, List.set_cons_zero]
    refine wpAnyH_done (by kernel_rfl) ?_ _
    have hB := K30.out.below
    go_wp2_with (fail)
    go_ret
    exact ⟨rfl, hB⟩
  · go_simp
    go_wp2_with fail
    have SX10 := hid (st1 v9 19 pA _ (by decide) K9.out.SA)
    have K10 := hid (K9.out.keep ((Below.refl _ _).alloc (Nat.le_refl _) (.cells #[.int .u8 19, .int .i64 0, .string ⟨#[]⟩, .slice (some ⟨sa, 0, none⟩) 1 1] 30)))
    refine hK.out _ _ ?_ (fun hHeld10 => ?_)
    · exact K10.out.cells
    clear hK K
    refine wpAnyH_ready (rs := [21]) (by kernel_rfl) (by simp) ?_
    refine AllReadyH.cons (o := { dst := some 41, op := Go.Op.call { callee := Go.Callee.value (Go.Operand.func 14), args := #[], argTypes := #[] }, type := 30, pos := _, after := #[{ on := 20, ground := Go.Ground.chain }, { on := 20, ground := Go.Ground.guard }], guard := some (20, true) }) rfl (fun K hK => ?_) AllReadyH.nil
    go_simp
    refine (nought_at _).mono ?_
    rintro e v11 ⟨rfl, hb11⟩
    have K11 := hid (K10.out.keep hb11)
    have SX10k11 := hid (SX10.out.keep hb11)
    go_wp2_with fail
    refine hK.out _ _ ?_ (fun hHeld11 => ?_)
    · exact K11.out.cells
    clear hK K
    clear hb11
    refine wpAnyH_ready (rs := [24]) (by kernel_rfl) (by simp) ?_
    refine AllReadyH.cons (o := { dst := some 44, op := Go.Op.call { callee := Go.Callee.value (Go.Operand.func 12), args := #[Go.Operand.const (Go.Value.int Go.IntKind.u8 19), Go.Operand.tmp 43], argTypes := #[27, 28] }, type := 30, pos := _, after := #[{ on := 23, ground := Go.Ground.data }, { on := 21, ground := Go.Ground.chain }, { on := 20, ground := Go.Ground.guard }], guard := some (20, true) }) rfl (fun K hK => ?_) AllReadyH.nil
    go_simp
    refine (of_pl 19 _ _ _ _).mono ?_
    rintro e v12 ⟨rfl, hb12⟩
    have K12 := hid (K11.out.keep hb12)
    have SY12 := hid (SX10k11.out.keep hb12)
    go_wp2_with fail
    refine hK.out _ _ ?_ (fun hHeld12 => ?_)
    · exact K12.out.cells
    clear hK K
    refine wpAnyH_ready (rs := [25]) (by kernel_rfl) (by simp) ?_
    refine AllReadyH.cons (o := { dst := some 45, op := Go.Op.buildSlice 28 2 #[(0, Go.Operand.tmp 41), (1, Go.Operand.tmp 44)], type := 28, pos := _, after := #[{ on := 21, ground := Go.Ground.data }, { on := 24, ground := Go.Ground.data }, { on := 20, ground := Go.Ground.guard }], guard := some (20, true) }) rfl (fun K hK => ?_) AllReadyH.nil
    go_simp
    go_wp2_with fail
    have SX13 := hid (st2 v12 18 exO ⟨19, 0, ⟨#[]⟩, [pA]⟩ _ _ (by decide) (stO _) SY12.out)
    have K13 := hid (K12.out.keep ((Below.refl _ _).alloc (Nat.le_refl _) (.cells #[.int .u8 1, .int .i64 0, .string ⟨#[]⟩, .slice none 0 0, .int .u8 19, .int .i64 0, .string ⟨#[]⟩, .slice (some ⟨v9.heap.size, 0, none⟩) 1 1] 30)))
    refine hK.out _ _ ?_ (fun hHeld13 => ?_)
    · exact K13.out.cells
    clear hK K
    refine wpAnyH_ready (rs := [26]) (by kernel_rfl) (by simp) ?_
    refine AllReadyH.cons (o := { dst := some 46, op := Go.Op.call { callee := Go.Callee.value (Go.Operand.func 12), args := #[Go.Operand.const (Go.Value.int Go.IntKind.u8 18), Go.Operand.tmp 45], argTypes := #[27, 28] }, type := 30, pos := _, after := #[{ on := 25, ground := Go.Ground.data }, { on := 24, ground := Go.Ground.chain }, { on := 20, ground := Go.Ground.guard }], guard := some (20, true) }) rfl (fun K hK => ?_) AllReadyH.nil
    go_simp
    refine (of_pl 18 _ _ _ _).mono ?_
    rintro e v14 ⟨rfl, hb14⟩
    have K14 := hid (K13.out.keep hb14)
    have SY14 := hid (SX13.out.keep hb14)
    go_wp2_with fail
    refine hK.out _ _ ?_ (fun hHeld14 => ?_)
    · exact K14.out.cells
    clear hK K
    refine wpAnyH_ready (rs := [27]) (by kernel_rfl) (by simp) ?_
    refine AllReadyH.cons (o := { dst := some 47, op := Go.Op.call { callee := Go.Callee.value (Go.Operand.func 15), args := #[Go.Operand.tmp 46, Go.Operand.const (Go.Value.int Go.IntKind.i64 2)], argTypes := #[30, 3] }, type := 4, pos := _, after := #[{ on := 26, ground := Go.Ground.data }, { on := 26, ground := Go.Ground.chain }, { on := 20, ground := Go.Ground.guard }], guard := some (20, true) }) rfl (fun K hK => ?_) AllReadyH.nil
    go_simp
    refine (is_at _ _ t4 _ _ SY14.out K14.out.R K14.out.J).mono ?_
    rintro e v15 ⟨rfl, hb15⟩
    have K15 := hid (K14.out.keep hb15)
    go_wp2_with fail
    refine hK.out _ _ ?_ (fun hHeld15 => ?_)
    · exact K15.out.cells
    clear hK K
    clear hb15
    refine wpAnyH_take (i := 28) (oi := { dst := some 48, op := Go.Op.pick (Go.Operand.tmp 40) (Go.Operand.tmp 47) (Go.Operand.const (Go.Value.bool false)), type := 4, pos := _, after := #[{ on := 20, ground := Go.Ground.data }, { on := 27, ground := Go.Ground.data }], guard := none }) (v := ?_) rfl (by kernel_rfl) (by kernel_rfl) (by kernel_rfl) (fun _ _ _ h => h) (Or.inl ⟨by rfl, ?_⟩) (by assumption) ?_
    rotate_left
    · intro w hSw; (try dsimp only at hSw); go_simp <;> first | with_reducible rfl | (rw [if_neg (by first | omega | (simp only [ByteArray.size_append] at *; omega))])
    simp only [Act.put, List.setIfInBounds_toArray, List.set_cons_zero, List.set_cons_succ]
    refine wpAnyH_take (i := 29) (oi := { dst := some 49, op := Go.Op.move (Go.Operand.tmp 48), type := 4, pos := _, after := #[{ on := 28, ground := Go.Ground.data }, { on := 27, ground := Go.Ground.chain }], guard := none }) (v := ?_) rfl (by kernel_rfl) (by kernel_rfl) (by kernel_rfl) (fun _ _ _ h => h) (Or.inl ⟨by rfl, ?_⟩) (by assumption) ?_
    rotate_left
    · intro w hSw; (try dsimp only at hSw); go_simp <;> first | with_reducible rfl | (rw [if_neg (by first | omega | (simp only [ByteArray.size_append] at *; omega))])
    simp only [Act.put, List.setIfInBounds_toArray, List.set_cons_zero, List.set_cons_succ]
    refine wpAnyH_take (i := 30) (oi := { dst := some 50, op := Go.Op.load 30 (Go.Operand.tmp 2), type := 30, pos := _, after := #[{ on := 29, ground := Go.Ground.guard }], guard := some (29, true) }) (v := ?_) rfl (by kernel_rfl) (by kernel_rfl) (by kernel_rfl) (fun _ _ _ h => h) (Or.inl ⟨by rfl, ?_⟩) (by assumption) ?_
    rotate_left
    · intro w hSw; (try dsimp only at hSw); go_simp <;> first | with_reducible rfl | (rw [if_neg (by first | omega | (simp only [ByteArray.size_append] at *; omega))])
    simp only [Act.put, List.setIfInBounds_toArray, List.set_cons_zero, List.set_cons_succ]
    refine wpAnyH_take (i := 33) (oi := { dst := some 53, op := Go.Op.load 30 (Go.Operand.tmp 1), type := 30, pos := _, after := #[{ on := 29, ground := Go.Ground.guard }], guard := some (29, true) }) (v := ?_) rfl (by kernel_rfl) (by kernel_rfl) (by kernel_rfl) (fun _ _ _ h => h) (Or.inl ⟨by rfl, ?_⟩) (by assumption) ?_
    rotate_left
    · intro w hSw; (try dsimp only at hSw); go_simp <;> first | with_reducible rfl | (rw [if_neg (by first | omega | (simp only [ByteArray.size_append] at *; omega))])
    simp only [Act.put, List.setIfInBounds_toArray, List.set_cons_zero, List.set_cons_succ]
    refine wpAnyH_ready (rs := [31]) (by kernel_rfl) (by simp) ?_
    refine AllReadyH.cons (o := { dst := some 51, op := Go.Op.buildSlice 28 1 #[(0, Go.Operand.tmp 50)], type := 28, pos := _, after := #[{ on := 30, ground := Go.Ground.data }, { on := 29, ground := Go.Ground.guard }], guard := some (29, true) }) rfl (fun K hK => ?_) AllReadyH.nil
    go_simp
    go_wp2_with fail
    have SX16 := hid (st1 v15 19 pA _ (by decide) K15.out.SA)
    have K16 := hid (K15.out.keep ((Below.refl _ _).alloc (Nat.le_refl _) (.cells #[.int .u8 19, .int .i64 0, .string ⟨#[]⟩, .slice (some ⟨sa, 0, none⟩) 1 1] 30)))
    refine hK.out _ _ ?_ (fun hHeld16 => ?_)
    · exact K16.out.cells
    clear hK K
    refine wpAnyH_ready (rs := [32]) (by kernel_rfl) (by simp) ?_
    refine AllReadyH.cons (o := { dst := some 52, op := Go.Op.call { callee := Go.Callee.value (Go.Operand.func 12), args := #[Go.Operand.const (Go.Value.int Go.IntKind.u8 19), Go.Operand.tmp 51], argTypes := #[27, 28] }, type := 30, pos := _, after := #[{ on := 31, ground := Go.Ground.data }, { on := 29, ground := Go.Ground.chain }, { on := 29, ground := Go.Ground.guard }], guard := some (29, true) }) rfl (fun K hK => ?_) AllReadyH.nil
    go_simp
    refine (of_pl 19 _ _ _ _).mono ?_
    rintro e v17 ⟨rfl, hb17⟩
    have K17 := hid (K16.out.keep hb17)
    have SY17 := hid (SX16.out.keep hb17)
    go_wp2_with fail
    refine hK.out _ _ ?_ (fun hHeld17 => ?_)
    · exact K17.out.cells
    clear hK K
    refine wpAnyH_ready (rs := [34]) (by kernel_rfl) (by simp) ?_
    refine AllReadyH.cons (o := { dst := some 54, op := Go.Op.buildSlice 28 2 #[(0, Go.Operand.tmp 52), (1, Go.Operand.tmp 53)], type := 28, pos := _, after := #[{ on := 32, ground := Go.Ground.data }, { on := 33, ground := Go.Ground.data }, { on := 29, ground := Go.Ground.guard }], guard := some (29, true) }) rfl (fun K hK => ?_) AllReadyH.nil
    go_simp
    go_wp2_with fail
    have SX18 := hid (st2 v17 18 ⟨19, 0, ⟨#[]⟩, [pA]⟩ exA _ _ (by decide) SY17.out (stA _))
    have K18 := hid (K17.out.keep ((Below.refl _ _).alloc (Nat.le_refl _) (.cells #[.int .u8 19, .int .i64 0, .string ⟨#[]⟩, .slice (some ⟨v15.heap.size, 0, none⟩) 1 1, .int .u8 3, .int .i64 0, .string ⟨#[97]⟩, .slice none 0 0] 30)))
    refine hK.out _ _ ?_ (fun hHeld18 => ?_)
    · exact K18.out.cells
    clear hK K
    refine wpAnyH_ready (rs := [35]) (by kernel_rfl) (by simp) ?_
    refine AllReadyH.cons (o := { dst := some 55, op := Go.Op.call { callee := Go.Callee.value (Go.Operand.func 12), args := #[Go.Operand.const (Go.Value.int Go.IntKind.u8 18), Go.Operand.tmp 54], argTypes := #[27, 28] }, type := 30, pos := _, after := #[{ on := 34, ground := Go.Ground.data }, { on := 32, ground := Go.Ground.chain }, { on := 29, ground := Go.Ground.guard }], guard := some (29, true) }) rfl (fun K hK => ?_) AllReadyH.nil
    go_simp
    refine (of_pl 18 _ _ _ _).mono ?_
    rintro e v19 ⟨rfl, hb19⟩
    have K19 := hid (K18.out.keep hb19)
    have SY19 := hid (SX18.out.keep hb19)
    go_wp2_with fail
    refine hK.out _ _ ?_ (fun hHeld19 => ?_)
    · exact K19.out.cells
    clear hK K
    refine wpAnyH_ready (rs := [36]) (by kernel_rfl) (by simp) ?_
    refine AllReadyH.cons (o := { dst := some 56, op := Go.Op.call { callee := Go.Callee.value (Go.Operand.func 15), args := #[Go.Operand.tmp 55, Go.Operand.const (Go.Value.int Go.IntKind.i64 1)], argTypes := #[30, 3] }, type := 4, pos := _, after := #[{ on := 35, ground := Go.Ground.data }, { on := 35, ground := Go.Ground.chain }, { on := 29, ground := Go.Ground.guard }], guard := some (29, true) }) rfl (fun K hK => ?_) AllReadyH.nil
    go_simp
    refine (is_at _ _ t5 _ _ SY19.out K19.out.R K19.out.J).mono ?_
    rintro e v20 ⟨rfl, hb20⟩
    have K20 := hid (K19.out.keep hb20)
    go_wp2_with fail
    refine hK.out _ _ ?_ (fun hHeld20 => ?_)
    · exact K20.out.cells
    clear hK K
    clear hb20
    refine wpAnyH_take (i := 37) (oi := { dst := some 57, op := Go.Op.pick (Go.Operand.tmp 49) (Go.Operand.tmp 56) (Go.Operand.const (Go.Value.bool false)), type := 4, pos := _, after := #[{ on := 29, ground := Go.Ground.data }, { on := 36, ground := Go.Ground.data }], guard := none }) (v := ?_) rfl (by kernel_rfl) (by kernel_rfl) (by kernel_rfl) (fun _ _ _ h => h) (Or.inl ⟨by rfl, ?_⟩) (by assumption) ?_
    rotate_left
    · intro w hSw; (try dsimp only at hSw); go_simp <;> first | with_reducible rfl | (rw [if_neg (by first | omega | (simp only [ByteArray.size_append] at *; omega))])
    simp only [Act.put, List.setIfInBounds_toArray, List.set_cons_zero, List.set_cons_succ]
    refine wpAnyH_take (i := 38) (oi := { dst := some 58, op := Go.Op.move (Go.Operand.tmp 57), type := 4, pos := _, after := #[{ on := 37, ground := Go.Ground.data }, { on := 36, ground := Go.Ground.chain }], guard := none }) (v := ?_) rfl (by kernel_rfl) (by kernel_rfl) (by kernel_rfl) (fun _ _ _ h => h) (Or.inl ⟨by rfl, ?_⟩) (by assumption) ?_
    rotate_left
    · intro w hSw; (try dsimp only at hSw); go_simp <;> first | with_reducible rfl | (rw [if_neg (by first | omega | (simp only [ByteArray.size_append] at *; omega))])
    simp only [Act.put, List.setIfInBounds_toArray, List.set_cons_zero, List.set_cons_succ]
    refine wpAnyH_take (i := 39) (oi := { dst := some 59, op := Go.Op.build 30 #[(0, Go.Operand.const (Go.Value.int Go.IntKind.u8 2))], type := 30, pos := _, after := #[{ on := 38, ground := Go.Ground.guard }], guard := some (38, true) }) (v := ?_) rfl (by kernel_rfl) (by kernel_rfl) (by kernel_rfl) (fun _ _ _ h => h) (Or.inl ⟨by rfl, ?_⟩) (by assumption) ?_
    rotate_left
    · intro w hSw; (try dsimp only at hSw); go_simp <;> first | with_reducible rfl | (rw [if_neg (by first | omega | (simp only [ByteArray.size_append] at *; omega))])
    simp only [Act.put, List.setIfInBounds_toArray, List.set_cons_zero, List.set_cons_succ]
    refine wpAnyH_take (i := 40) (oi := { dst := some 60, op := Go.Op.load 30 (Go.Operand.tmp 1), type := 30, pos := _, after := #[{ on := 38, ground := Go.Ground.guard }], guard := some (38, true) }) (v := ?_) rfl (by kernel_rfl) (by kernel_rfl) (by kernel_rfl) (fun _ _ _ h => h) (Or.inl ⟨by rfl, ?_⟩) (by assumption) ?_
    rotate_left
    · intro w hSw; (try dsimp only at hSw); go_simp <;> first | with_reducible rfl | (rw [if_neg (by first | omega | (simp only [ByteArray.size_append] at *; omega))])
    simp only [Act.put, List.setIfInBounds_toArray, List.set_cons_zero, List.set_cons_succ]
    refine wpAnyH_take (i := 41) (oi := { dst := some 61, op := Go.Op.load 30 (Go.Operand.tmp 2), type := 30, pos := _, after := #[{ on := 38, ground := Go.Ground.guard }], guard := some (38, true) }) (v := ?_) rfl (by kernel_rfl) (by kernel_rfl) (by kernel_rfl) (fun _ _ _ h => h) (Or.inl ⟨by rfl, ?_⟩) (by assumption) ?_
    rotate_left
    · intro w hSw; (try dsimp only at hSw); go_simp <;> first | with_reducible rfl | (rw [if_neg (by first | omega | (simp only [ByteArray.size_append] at *; omega))])
    simp only [Act.put, List.setIfInBounds_toArray, List.set_cons_zero, List.set_cons_succ]
    refine wpAnyH_ready (rs := [42]) (by kernel_rfl) (by simp) ?_
    refine AllReadyH.cons (o := { dst := some 62, op := Go.Op.buildSlice 28 3 #[(0, Go.Operand.tmp 59), (1, Go.Operand.tmp 60), (2, Go.Operand.tmp 61)], type := 28, pos := _, after := #[{ on := 39, ground := Go.Ground.data }, { on := 40, ground := Go.Ground.data }, { on := 41, ground := Go.Ground.data }, { on := 38, ground := Go.Ground.guard }], guard := some (38, true) }) rfl (fun K hK => ?_) AllReadyH.nil
    go_simp
    go_wp2_with fail
    have SX21 := hid (st3 v20 17 exD exA pA _ _ _ (by decide) (stD _) (stA _) K20.out.SA)
    have K21 := hid (K20.out.keep ((Below.refl _ _).alloc (Nat.le_refl _) (.cells #[.int .u8 2, .int .i64 0, .string ⟨#[]⟩, .slice none 0 0, .int .u8 3, .int .i64 0, .string ⟨#[97]⟩, .slice none 0 0, .int .u8 19, .int .i64 0, .string ⟨#[]⟩, .slice (some ⟨sa, 0, none⟩) 1 1] 30)))
    refine hK.out _ _ ?_ (fun hHeld21 => ?_)
    · exact K21.out.cells
    clear hK K
    refine wpAnyH_ready (rs := [43]) (by kernel_rfl) (by simp) ?_
    refine AllReadyH.cons (o := { dst := some 63, op := Go.Op.call { callee := Go.Callee.value (Go.Operand.func 12), args := #[Go.Operand.const (Go.Value.int Go.IntKind.u8 17), Go.Operand.tmp 62], argTypes := #[27, 28] }, type := 30, pos := _, after := #[{ on := 42, ground := Go.Ground.data }, { on := 38, ground := Go.Ground.chain }, { on := 38, ground := Go.Ground.guard }], guard := some (38, true) }) rfl (fun K hK => ?_) AllReadyH.nil
    go_simp
    refine (of_pl 17 _ _ _ _).mono ?_
    rintro e v22 ⟨rfl, hb22⟩
    have K22 := hid (K21.out.keep hb22)
    have SY22 := hid (SX21.out.keep hb22)
    go_wp2_with fail
    refine hK.out _ _ ?_ (fun hHeld22 => ?_)
    · exact K22.out.cells
    clear hK K
    refine wpAnyH_ready (rs := [44]) (by kernel_rfl) (by simp) ?_
    refine AllReadyH.cons (o := { dst := some 64, op := Go.Op.call { callee := Go.Callee.value (Go.Operand.func 15), args := #[Go.Operand.tmp 63, Go.Operand.const (Go.Value.int Go.IntKind.i64 1)], argTypes := #[30, 3] }, type := 4, pos := _, after := #[{ on := 43, ground := Go.Ground.data }, { on := 43, ground := Go.Ground.chain }, { on := 38, ground := Go.Ground.guard }], guard := some (38, true) }) rfl (fun K hK => ?_) AllReadyH.nil
    go_simp
    refine (is_at _ _ t6 _ _ SY22.out K22.out.R K22.out.J).mono ?_
    rintro e v23 ⟨rfl, hb23⟩
    have K23 := hid (K22.out.keep hb23)
    go_wp2_with fail
    refine hK.out _ _ ?_ (fun hHeld23 => ?_)
    · exact K23.out.cells
    clear hK K
    clear hb23
    refine wpAnyH_take (i := 45) (oi := { dst := some 65, op := Go.Op.pick (Go.Operand.tmp 58) (Go.Operand.tmp 64) (Go.Operand.const (Go.Value.bool false)), type := 4, pos := _, after := #[{ on := 38, ground := Go.Ground.data }, { on := 44, ground := Go.Ground.data }], guard := none }) (v := ?_) rfl (by kernel_rfl) (by kernel_rfl) (by kernel_rfl) (fun _ _ _ h => h) (Or.inl ⟨by rfl, ?_⟩) (by assumption) ?_
    rotate_left
    · intro w hSw; (try dsimp only at hSw); go_simp <;> first | with_reducible rfl | (rw [if_neg (by first | omega | (simp only [ByteArray.size_append] at *; omega))])
    simp only [Act.put, List.setIfInBounds_toArray, List.set_cons_zero, List.set_cons_succ]
    refine wpAnyH_take (i := 46) (oi := { dst := some 66, op := Go.Op.move (Go.Operand.tmp 65), type := 4, pos := _, after := #[{ on := 45, ground := Go.Ground.data }, { on := 44, ground := Go.Ground.chain }], guard := none }) (v := ?_) rfl (by kernel_rfl) (by kernel_rfl) (by kernel_rfl) (fun _ _ _ h => h) (Or.inl ⟨by rfl, ?_⟩) (by assumption) ?_
    rotate_left
    · intro w hSw; (try dsimp only at hSw); go_simp <;> first | with_reducible rfl | (rw [if_neg (by first | omega | (simp only [ByteArray.size_append] at *; omega))])
    simp only [Act.put, List.setIfInBounds_toArray, List.set_cons_zero, List.set_cons_succ]
    refine wpAnyH_take (i := 47) (oi := { dst := some 67, op := Go.Op.load 30 (Go.Operand.tmp 5), type := 30, pos := _, after := #[{ on := 46, ground := Go.Ground.guard }], guard := some (46, true) }) (v := ?_) rfl (by kernel_rfl) (by kernel_rfl) (by kernel_rfl) (fun _ _ _ h => h) (Or.inl ⟨by rfl, ?_⟩) (by assumption) ?_
    rotate_left
    · intro w hSw; (try dsimp only at hSw); go_simp <;> first | with_reducible rfl | (rw [if_neg (by first | omega | (simp only [ByteArray.size_append] at *; omega))])
    simp only [Act.put, List.setIfInBounds_toArray, List.set_cons_zero, List.set_cons_succ]
    refine wpAnyH_ready (rs := [48]) (by kernel_rfl) (by simp) ?_
    refine AllReadyH.cons (o := { dst := some 68, op := Go.Op.call { callee := Go.Callee.value (Go.Operand.func 13), args := #[Go.Operand.tmp 67], argTypes := #[30] }, type := 26, pos := _, after := #[{ on := 47, ground := Go.Ground.data }, { on := 46, ground := Go.Ground.chain }, { on := 46, ground := Go.Ground.guard }], guard := some (46, true) }) rfl (fun K hK => ?_) AllReadyH.nil
    go_simp
    refine (small_at pX _ _ K23.out.SXX).mono ?_
    rintro e v24 ⟨sb24, rfl, hP24, hb24⟩
    have K24 := hid (K23.out.keep hb24)
    have HP24 := hid hP24
    clear hP24
    go_wp2_with fail
    refine hK.out _ _ ?_ (fun hHeld24 => ?_)
    · exact K24.out.cells
    clear hK K
    refine wpAnyH_ready (rs := [49]) (by kernel_rfl) (by simp) ?_
    refine AllReadyH.cons (o := { dst := some 69, op := Go.Op.call { callee := Go.Callee.value (Go.Operand.func 16), args := #[Go.Operand.tmp 68], argTypes := #[26] }, type := 43, pos := _, after := #[{ on := 48, ground := Go.Ground.data }, { on := 48, ground := Go.Ground.chain }, { on := 46, ground := Go.Ground.guard }], guard := some (46, true) }) rfl (fun K hK => ?_) AllReadyH.nil
    go_simp
    refine (starts_check (smP pX) _ _ _ _ HP24.out K24.out.R K24.out.J).mono ?_
    rintro e v25 ⟨rfl, hb25⟩
    rw [c1]
    have K25 := hid (K24.out.keep hb25)
    go_wp2_with fail
    refine hK.out _ _ ?_ (fun hHeld25 => ?_)
    · exact K25.out.cells
    clear hK K
    refine wpAnyH_take (i := 50) (oi := { dst := some 70, op := Go.Op.binOp Go.BinOp.eql 43 (Go.Operand.tmp 69) (Go.Operand.const (Go.Value.int Go.IntKind.i64 9)) 43, type := 4, pos := _, after := #[{ on := 49, ground := Go.Ground.data }, { on := 46, ground := Go.Ground.guard }], guard := some (46, true) }) (v := ?_) rfl (by kernel_rfl) (by kernel_rfl) (by kernel_rfl) (fun _ _ _ h => h) (Or.inl ⟨by rfl, ?_⟩) (by assumption) ?_
    rotate_left
    · intro w hSw; (try dsimp only at hSw); go_simp <;> first | with_reducible rfl | (rw [if_neg (by first | omega | (simp only [ByteArray.size_append] at *; omega))])
    simp only [Act.put, List.setIfInBounds_toArray, List.set_cons_zero, List.set_cons_succ]
    refine wpAnyH_take (i := 51) (oi := { dst := some 71, op := Go.Op.pick (Go.Operand.tmp 66) (Go.Operand.tmp 70) (Go.Operand.const (Go.Value.bool false)), type := 4, pos := _, after := #[{ on := 46, ground := Go.Ground.data }, { on := 50, ground := Go.Ground.data }], guard := none }) (v := ?_) rfl (by kernel_rfl) (by kernel_rfl) (by kernel_rfl) (fun _ _ _ h => h) (Or.inl ⟨by rfl, ?_⟩) (by assumption) ?_
    rotate_left
    · intro w hSw; (try dsimp only at hSw); go_simp <;> first | with_reducible rfl | (rw [if_neg (by first | omega | (simp only [ByteArray.size_append] at *; omega))])
    simp only [Act.put, List.setIfInBounds_toArray, List.set_cons_zero, List.set_cons_succ]
    refine wpAnyH_take (i := 52) (oi := { dst := some 72, op := Go.Op.move (Go.Operand.tmp 71), type := 4, pos := _, after := #[{ on := 51, ground := Go.Ground.data }, { on := 49, ground := Go.Ground.chain }], guard := none }) (v := ?_) rfl (by kernel_rfl) (by kernel_rfl) (by kernel_rfl) (fun _ _ _ h => h) (Or.inl ⟨by rfl, ?_⟩) (by assumption) ?_
    rotate_left
    · intro w hSw; (try dsimp only at hSw); go_simp <;> first | with_reducible rfl | (rw [if_neg (by first | omega | (simp only [ByteArray.size_append] at *; omega))])
    simp only [Act.put, List.setIfInBounds_toArray, List.set_cons_zero, List.set_cons_succ]
    refine wpAnyH_take (i := 54) (oi := { dst := some 74, op := Go.Op.load 30 (Go.Operand.tmp 5), type := 30, pos := _, after := #[{ on := 52, ground := Go.Ground.guard }], guard := some (52, true) }) (v := ?_) rfl (by kernel_rfl) (by kernel_rfl) (by kernel_rfl) (fun _ _ _ h => h) (Or.inl ⟨by rfl, ?_⟩) (by assumption) ?_
    rotate_left
    · intro w hSw; (try dsimp only at hSw); go_simp <;> first | with_reducible rfl | (rw [if_neg (by first | omega | (simp only [ByteArray.size_append] at *; omega))])
    simp only [Act.put, List.setIfInBounds_toArray, List.set_cons_zero, List.set_cons_succ]
    refine wpAnyH_ready (rs := [53]) (by kernel_rfl) (by simp) ?_
    refine AllReadyH.cons (o := { dst := some 73, op := Go.Op.call { callee := Go.Callee.value (Go.Operand.func 14), args := #[], argTypes := #[] }, type := 30, pos := _, after := #[{ on := 52, ground := Go.Ground.chain }, { on := 52, ground := Go.Ground.guard }], guard := some (52, true) }) rfl (fun K hK => ?_) AllReadyH.nil
    go_simp
    refine (nought_at _).mono ?_
    rintro e v26 ⟨rfl, hb26⟩
    have K26 := hid (K25.out.keep hb26)
    go_wp2_with fail
    refine hK.out _ _ ?_ (fun hHeld26 => ?_)
    · exact K26.out.cells
    clear hK K
    clear hb26
    refine wpAnyH_ready (rs := [55]) (by kernel_rfl) (by simp) ?_
    refine AllReadyH.cons (o := { dst := some 75, op := Go.Op.buildSlice 28 2 #[(0, Go.Operand.tmp 73), (1, Go.Operand.tmp 74)], type := 28, pos := _, after := #[{ on := 53, ground := Go.Ground.data }, { on := 54, ground := Go.Ground.data }, { on := 52, ground := Go.Ground.guard }], guard := some (52, true) }) rfl (fun K hK => ?_) AllReadyH.nil
    go_simp
    go_wp2_with fail
    have SX27 := hid (st2 v26 18 exO pX _ _ (by decide) (stO _) K26.out.SXX)
    have K27 := hid (K26.out.keep ((Below.refl _ _).alloc (Nat.le_refl _) (.cells #[.int .u8 1, .int .i64 0, .string ⟨#[]⟩, .slice none 0 0, .int .u8 19, .int .i64 0, .string ⟨#[]⟩, .slice (some ⟨sx, 0, none⟩) 1 1] 30)))
    refine hK.out _ _ ?_ (fun hHeld27 => ?_)
    · exact K27.out.cells
    clear hK K
    refine wpAnyH_ready (rs := [56]) (by kernel_rfl) (by simp) ?_
    refine AllReadyH.cons (o := { dst := some 76, op := Go.Op.call { callee := Go.Callee.value (Go.Operand.func 12), args := #[Go.Operand.const (Go.Value.int Go.IntKind.u8 18), Go.Operand.tmp 75], argTypes := #[27, 28] }, type := 30, pos := _, after := #[{ on := 55, ground := Go.Ground.data }, { on := 53, ground := Go.Ground.chain }, { on := 52, ground := Go.Ground.guard }], guard := some (52, true) }) rfl (fun K hK => ?_) AllReadyH.nil
    go_simp
    refine (of_pl 18 _ _ _ _).mono ?_
    rintro e v28 ⟨rfl, hb28⟩
    have K28 := hid (K27.out.keep hb28)
    have SY28 := hid (SX27.out.keep hb28)
    go_wp2_with fail
    refine hK.out _ _ ?_ (fun hHeld28 => ?_)
    · exact K28.out.cells
    clear hK K
    refine wpAnyH_ready (rs := [57]) (by kernel_rfl) (by simp) ?_
    refine AllReadyH.cons (o := { dst := some 77, op := Go.Op.call { callee := Go.Callee.value (Go.Operand.func 13), args := #[Go.Operand.tmp 76], argTypes := #[30] }, type := 26, pos := _, after := #[{ on := 56, ground := Go.Ground.data }, { on := 56, ground := Go.Ground.chain }, { on := 52, ground := Go.Ground.guard }], guard := some (52, true) }) rfl (fun K hK => ?_) AllReadyH.nil
    go_simp
    refine (small_at ⟨18, 0, ⟨#[]⟩, [exO, pX]⟩ _ _ SY28.out).mono ?_
    rintro e v29 ⟨sb29, rfl, hP29, hb29⟩
    have K29 := hid (K28.out.keep hb29)
    have HP29 := hid hP29
    clear hP29
    go_wp2_with fail
    refine hK.out _ _ ?_ (fun hHeld29 => ?_)
    · exact K29.out.cells
    clear hK K
    refine wpAnyH_ready (rs := [58]) (by kernel_rfl) (by simp) ?_
    refine AllReadyH.cons (o := { dst := some 78, op := Go.Op.call { callee := Go.Callee.value (Go.Operand.func 16), args := #[Go.Operand.tmp 77], argTypes := #[26] }, type := 43, pos := _, after := #[{ on := 57, ground := Go.Ground.data }, { on := 57, ground := Go.Ground.chain }, { on := 52, ground := Go.Ground.guard }], guard := some (52, true) }) rfl (fun K hK => ?_) AllReadyH.nil
    go_simp
    refine (starts_check (smP ⟨18, 0, ⟨#[]⟩, [exO, pX]⟩) _ _ _ _ HP29.out K29.out.R K29.out.J).mono ?_
    rintro e v30 ⟨rfl, hb30⟩
    rw [c2]
    have K30 := hid (K29.out.keep hb30)
    go_wp2_with fail
    refine hK.out _ _ ?_ (fun hHeld30 => ?_)
    · exact K30.out.cells
    clear hK K
    refine wpAnyH_take (i := 59) (oi := { dst := some 79, op := Go.Op.binOp Go.BinOp.eql 43 (Go.Operand.tmp 78) (Go.Operand.const (Go.Value.int Go.IntKind.i64 0)) 43, type := 4, pos := _, after := #[{ on := 58, ground := Go.Ground.data }, { on := 52, ground := Go.Ground.guard }], guard := some (52, true) }) (v := ?_) rfl (by kernel_rfl) (by kernel_rfl) (by kernel_rfl) (fun _ _ _ h => h) (Or.inl ⟨by rfl, ?_⟩) (by assumption) ?_
    rotate_left
    · intro w hSw; (try dsimp only at hSw); go_simp <;> first | with_reducible rfl | (rw [if_neg (by first | omega | (simp only [ByteArray.size_append] at *; omega))])
    simp only [Act.put, List.setIfInBounds_toArray, List.set_cons_zero, List.set_cons_succ]
    refine wpAnyH_take (i := 60) (oi := { dst := some 80, op := Go.Op.pick (Go.Operand.tmp 72) (Go.Operand.tmp 79) (Go.Operand.const (Go.Value.bool false)), type := 4, pos := _, after := #[{ on := 52, ground := Go.Ground.data }, { on := 59, ground := Go.Ground.data }], guard := none }) (v := ?_) rfl (by kernel_rfl) (by kernel_rfl) (by kernel_rfl) (fun _ _ _ h => h) (Or.inl ⟨by rfl, ?_⟩) (by assumption) ?_
    rotate_left
    · intro w hSw; (try dsimp only at hSw); go_simp <;> first | with_reducible rfl | (rw [if_neg (by first | omega | (simp only [ByteArray.size_append] at *; omega))])
    simp only [Act.put, List.setIfInBounds_toArray, List.set_cons_zero, List.set_cons_succ]
    refine wpAnyH_take (i := 61) (oi := { dst := some 0, op := Go.Op.assign (Go.Operand.tmp 80), type := 4, pos := _, after := #[{ on := 60, ground := Go.Ground.data }, { on := 58, ground := Go.Ground.chain }, { on := 0, ground := Go.Ground.phase }, { on := 1, ground := Go.Ground.phase }, { on := 2, ground := Go.Ground.phase }, { on := 3, ground := Go.Ground.phase }, { on := 4, ground := Go.Ground.phase }, { on := 5, ground := Go.Ground.phase }, { on := 6, ground := Go.Ground.phase }, { on := 7, ground := Go.Ground.phase }, { on := 8, ground := Go.Ground.phase }, { on := 9, ground := Go.Ground.phase }, { on := 10, ground := Go.Ground.phase }, { on := 11, ground := Go.Ground.phase }, { on := 12, ground := Go.Ground.phase }, { on := 13, ground := Go.Ground.phase }, { on := 14, ground := Go.Ground.phase }, { on := 15, ground := Go.Ground.phase }, { on := 16, ground := Go.Ground.phase }, { on := 17, ground := Go.Ground.phase }, { on := 18, ground := Go.Ground.phase }, { on := 19, ground := Go.Ground.phase }, { on := 20, ground := Go.Ground.phase }, { on := 21, ground := Go.Ground.phase }, { on := 22, ground := Go.Ground.phase }, { on := 23, ground := Go.Ground.phase }, { on := 24, ground := Go.Ground.phase }, { on := 25, ground := Go.Ground.phase }, { on := 26, ground := Go.Ground.phase }, { on := 27, ground := Go.Ground.phase }, { on := 28, ground := Go.Ground.phase }, { on := 29, ground := Go.Ground.phase }, { on := 30, ground := Go.Ground.phase }, { on := 31, ground := Go.Ground.phase }, { on := 32, ground := Go.Ground.phase }, { on := 33, ground := Go.Ground.phase }, { on := 34, ground := Go.Ground.phase }, { on := 35, ground := Go.Ground.phase }, { on := 36, ground := Go.Ground.phase }, { on := 37, ground := Go.Ground.phase }, { on := 38, ground := Go.Ground.phase }, { on := 39, ground := Go.Ground.phase }, { on := 40, ground := Go.Ground.phase }, { on := 41, ground := Go.Ground.phase }, { on := 42, ground := Go.Ground.phase }, { on := 43, ground := Go.Ground.phase }, { on := 44, ground := Go.Ground.phase }, { on := 45, ground := Go.Ground.phase }, { on := 46, ground := Go.Ground.phase }, { on := 47, ground := Go.Ground.phase }, { on := 48, ground := Go.Ground.phase }, { on := 49, ground := Go.Ground.phase }, { on := 50, ground := Go.Ground.phase }, { on := 51, ground := Go.Ground.phase }, { on := 52, ground := Go.Ground.phase }, { on := 53, ground := Go.Ground.phase }, { on := 54, ground := Go.Ground.phase }, { on := 55, ground := Go.Ground.phase }, { on := 56, ground := Go.Ground.phase }, { on := 57, ground := Go.Ground.phase }, { on := 58, ground := Go.Ground.phase }, { on := 59, ground := Go.Ground.phase }, { on := 60, ground := Go.Ground.phase }], guard := none }) (v := ?_) rfl (by kernel_rfl) (by kernel_rfl) (by kernel_rfl) (fun _ _ _ h => h) (Or.inl ⟨by rfl, ?_⟩) (by assumption) ?_
    rotate_left
    · intro w hSw; (try dsimp only at hSw); go_simp <;> first | with_reducible rfl | (rw [if_neg (by first | omega | (simp only [ByteArray.size_append] at *; omega))])
    simp only [Act.put, List.setIfInBounds_toArray, List.set_cons_zero]
    refine wpAnyH_done (by kernel_rfl) ?_ _
    have hB := K30.out.below
    go_wp2_with (fail)
    go_ret
    exact ⟨rfl, hB⟩
end Go.Proofs.YtejacmgppnafcabDoor.Lex
