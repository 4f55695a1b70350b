/-
  A row of ExPre, and each within a beginning of its own: the walk of the law.
-/
import Derived.Test.YtejacmgppnafcaaDoorG7
import Derived.Test.YtejacmgppnafcaaDoorG6
namespace Go.Proofs.YtejacmgppnafcaaDoor.Lex
open Go.ChangeShapes Go.WideShapes Go.ChangeAt Go.RowKit Go.Joins
/-- So many ExPre; each within a beginning of its own. -/
def rowE : Nat → Ex
  | 0 => exA
  | k + 1 => ⟨19, 0, ⟨#[]⟩, [rowE k]⟩
def eachE : Nat → Ex
  | 0 => exA
  | k + 1 => ⟨18, 0, ⟨#[]⟩, [exO, ⟨19, 0, ⟨#[]⟩, [eachE k]⟩]⟩
theorem st_row : ∀ k, stE (rowE k) = k
  | 0 => by rw [rowE, stE_eq]; rfl
  | k + 1 => by
    rw [rowE, stE_eq]
    simp [ruleS, lat, st_row k]
theorem st_each : ∀ k, stE (eachE k) = 0
  | 0 => by rw [eachE, stE_eq]; rfl
  | k + 1 => by
    rw [eachE, stE_eq]
    have h1 : stE exO = 0 := by rw [stE_eq]; rfl
    have h2 : stE ⟨19, 0, ⟨#[]⟩, [eachE k]⟩ = 1 := by rw [stE_eq]; simp [ruleS, lat, st_each k]
    simp [ruleS, beg, h1, h2]
abbrev fnd (x : Ex) : Bool := (gat 32 x 0 []).all fun r => (findD (thingsL (smP exO)) r.1).isSome
theorem rows_chk : ∀ k : Fin 14, (chk (rowE k.1) && chk ⟨18, 0, ⟨#[]⟩, [exO, rowE k.1]⟩ && chk ⟨6, 0, ⟨#[]⟩, [rowE k.1, eachE k.1]⟩ && chk (eachE k.1)) = true := by decide +kernel
theorem rows_fnd : ∀ k : Fin 14, (fnd (rowE k.1) && fnd ⟨18, 0, ⟨#[]⟩, [exO, rowE k.1]⟩ && fnd ⟨6, 0, ⟨#[]⟩, [rowE k.1, eachE k.1]⟩ && fnd (eachE k.1)) = true := by decide +kernel
theorem rows_of {k : Nat} (hk : k < 14) : ofV (smP exO) (rowE k) = (k, 0) ∧ ofV (smP exO) ⟨18, 0, ⟨#[]⟩, [exO, rowE k]⟩ = ((if k ≤ 1 then 0 else k : Nat), 0) ∧ ofV (smP exO) ⟨6, 0, ⟨#[]⟩, [rowE k, eachE k]⟩ = (k, 0) ∧ ofV (smP exO) (eachE k) = (0, 0) := by
  have h1 := rows_chk ⟨k, hk⟩
  have h2 := rows_fnd ⟨k, hk⟩
  simp only [Bool.and_eq_true] at h1 h2
  obtain ⟨⟨⟨a1, a2⟩, a3⟩, a4⟩ := h1
  obtain ⟨⟨⟨b1, b2⟩, b3⟩, b4⟩ := h2
  have hO : stE exO = 0 := by rw [stE_eq]; rfl
  refine ⟨of_good _ _ _ a1 b1 (st_row k), of_good _ _ _ a2 b2 ?_, of_good _ _ _ a3 b3 ?_, of_good _ _ _ a4 b4 (st_each k)⟩
  · rw [stE_eq]
    simp only [ruleS, List.map_cons, List.map_nil, hO, st_row, List.length_cons, List.length_nil, beg, List.headD_cons, List.drop_succ_cons, List.drop_zero, if_pos]
    by_cases h : k ≤ 1
    · simp [h]
    · simp [h]; omega
  · rw [stE_eq]
    simp [ruleS, lat, st_row, st_each]
/-- It lies in blocks from one on. -/
def Hi (lo : Nat) (W : World) (x : Ex) (s : Value) : Prop := ∀ V : World, (∀ b, lo ≤ b → b < W.heap.size → V.heap[b]? = W.heap[b]?) → St V x s
theorem Hi.st {lo : Nat} {W : World} {x : Ex} {s : Value} (h : Hi lo W x s) : St W x s := h W (fun _ _ _ => rfl)
theorem Hi.keep {lo : Nat} {W W' : World} {x : Ex} {s : Value} (h : Hi lo W x s) (hb : Below W.heap.size W W') (_ : lo ≤ W.heap.size) : Hi lo W' x s := fun V hV => h V (fun b h1 h2 => (hV b h1 (Nat.lt_of_lt_of_le h2 hb.size)).trans (hb.block b h2))
theorem Hi.set {lo : Nat} {W : World} {x : Ex} {s : Value} (h : Hi lo W x s) {g : Nat} (hg : g < lo) (c : Array Value) : Hi lo (W.setRow g c) x s := fun V hV => h V (fun b h1 h2 => (hV b h1 (by simpa [World.setRow] using h2)).trans (setRow_other _ _ _ _ (by omega)))
theorem Hi.one {lo : Nat} {W : World} {x : Ex} {s : Value} (h : Hi lo W x s) (op : Nat) (ho : op < 256) (hlo : lo ≤ W.heap.size) : Hi lo (W.alloc (.cells #[.int .u8 (x.op : Int), .int .i64 x.n, .string x.name, s] 30)) ⟨op, 0, ⟨#[]⟩, [x]⟩ (.slice (some ⟨W.heap.size, 0, none⟩) 1 1) := by
  intro V hV
  have hr := (hV W.heap.size hlo (by simp)).trans (heap_alloc_new W (.cells #[.int .u8 (x.op : Int), .int .i64 x.n, .string x.name, s] 30))
  have hx : St V x s := h V (fun b h1 h2 => (hV b h1 (by simp; omega)).trans (Below.heap_alloc _ _ _ h2))
  refine St.intro ⟨op, 0, ⟨#[]⟩, [x]⟩ _ 1 (fun _ => s) ho ⟨by show (-9223372036854775808 : Int) ≤ 0; omega, by show (0 : Int) ≤ _; omega⟩ (by show (0 : Nat) ≤ _; omega) (by simp) (by simp) (.inr ⟨W.heap.size, 0, rfl, fun i hi => ?_⟩) (fun i hi => ?_)
  · have hi1 : i < 1 := hi
    obtain rfl : i = 0 := by omega
    refine ⟨?_, ?_, ?_, ?_⟩ <;> (rw [cell_of_row _ _ _ _ 30 (0, 0) hr]; rfl)
  · have hi1 : i < 1 := hi
    obtain rfl : i = 0 := by omega
    exact hx
theorem Hi.two {lo : Nat} {W : World} {x y : Ex} {s t : Value} (h : Hi lo W x s) (op : Nat) (ho : op < 256) (h2 : Hi lo W y t) (hlo : lo ≤ W.heap.size) : Hi lo (W.alloc (.cells #[.int .u8 (x.op : Int), .int .i64 x.n, .string x.name, s, .int .u8 (y.op : Int), .int .i64 y.n, .string y.name, t] 30)) ⟨op, 0, ⟨#[]⟩, [x, y]⟩ (.slice (some ⟨W.heap.size, 0, none⟩) 2 2) := by
  intro V hV
  have hr := (hV W.heap.size hlo (by simp)).trans (heap_alloc_new W (.cells #[.int .u8 (x.op : Int), .int .i64 x.n, .string x.name, s, .int .u8 (y.op : Int), .int .i64 y.n, .string y.name, t] 30))
  have hx : St V x s := h V (fun b h1 h2 => (hV b h1 (by simp; omega)).trans (Below.heap_alloc _ _ _ h2))
  have hy : St V y t := h2 V (fun b h1 h2 => (hV b h1 (by simp; omega)).trans (Below.heap_alloc _ _ _ h2))
  refine St.intro ⟨op, 0, ⟨#[]⟩, [x, y]⟩ _ 2 (fun i => if i = 0 then s else t) ho ⟨by show (-9223372036854775808 : Int) ≤ 0; omega, by show (0 : Int) ≤ _; omega⟩ (by show (0 : Nat) ≤ _; omega) (by simp) (by simp) (.inr ⟨W.heap.size, 0, rfl, fun i hi => ?_⟩) (fun i hi => ?_)
  · have hi1 : i < 2 := hi
    rcases (by omega : i = 0 ∨ i = 1) with rfl | rfl <;> refine ⟨?_, ?_, ?_, ?_⟩ <;> (rw [cell_of_row _ _ _ _ 30 (0, 0) hr]; rfl)
  · have hi1 : i < 2 := hi
    rcases (by omega : i = 0 ∨ i = 1) with rfl | rfl
    · exact hx
    · exact hy
/-- Both, in their variables. -/
structure RV (w : World) (kr ke : Nat) (x y : Ex) (ra : Option Addr) (rn rc : Nat) (ea : Option Addr) (en ec : Nat) (W : World) : Prop where
  rr : W.heap[kr]? = some (.cells #[.int .u8 (x.op : Int), .int .i64 x.n, .string x.name, .slice ra rn rc] 30 (0, 0))
  re : W.heap[ke]? = some (.cells #[.int .u8 (y.op : Int), .int .i64 y.n, .string y.name, .slice ea en ec] 30 (0, 0))
  HR : Hi (ke + 1) W x (.slice ra rn rc)
  HE : Hi (ke + 1) W y (.slice ea en ec)
  lt : w.heap.size ≤ kr ∧ kr < ke
  below : Below w.heap.size w W
theorem RV.low {w W : World} {kr ke : Nat} {x y : Ex} {ra : Option Addr} {rn rc : Nat} {ea : Option Addr} {en ec : Nat} (h : RV w kr ke x y ra rn rc ea en ec W) : ke + 1 ≤ W.heap.size := (Array.getElem?_eq_some_iff.1 h.re).1
theorem RV.leafO {w W : World} {kr ke : Nat} {x y : Ex} {ra : Option Addr} {rn rc : Nat} {ea : Option Addr} {en ec : Nat} (_ : RV w kr ke x y ra rn rc ea en ec W) : Hi (ke + 1) W exO N0 := fun V _ => stO V
theorem RV.keep {w W W' : World} {kr ke : Nat} {x y : Ex} {ra : Option Addr} {rn rc : Nat} {ea : Option Addr} {en ec : Nat} (h : RV w kr ke x y ra rn rc ea en ec W) (hb : Below W.heap.size W W') : RV w kr ke x y ra rn rc ea en ec W' := ⟨keep_row h.rr hb, keep_row h.re hb, h.HR.keep hb h.low, h.HE.keep hb h.low, h.lt, bstep h.below hb⟩
theorem RV.ecells {w W : World} {kr ke : Nat} {x y : Ex} {ra : Option Addr} {rn rc : Nat} {ea : Option Addr} {en ec : Nat} (h : RV w kr ke x y ra rn rc ea en ec W) : W.cell? ⟨ke, 0, none⟩ = some (.int .u8 (y.op : Int)) ∧ W.cell? ⟨ke, 1, none⟩ = some (.int .i64 y.n) ∧ W.cell? ⟨ke, 2, none⟩ = some (.string y.name) ∧ W.cell? ⟨ke, 3, none⟩ = some (.slice ea en ec) := row4e h.re
theorem RV.rcells {w W : World} {kr ke : Nat} {x y : Ex} {ra : Option Addr} {rn rc : Nat} {ea : Option Addr} {en ec : Nat} (h : RV w kr ke x y ra rn rc ea en ec W) : W.cell? ⟨kr, 0, none⟩ = some (.int .u8 (x.op : Int)) ∧ W.cell? ⟨kr, 1, none⟩ = some (.int .i64 x.n) ∧ W.cell? ⟨kr, 2, none⟩ = some (.string x.name) ∧ W.cell? ⟨kr, 3, none⟩ = some (.slice ra rn rc) := row4e h.rr
theorem RV.setr {w W : World} {kr ke : Nat} {x y z : Ex} {ra : Option Addr} {rn rc : Nat} {ea : Option Addr} {en ec : Nat} {za : Option Addr} {zn zc : Nat} (h : RV w kr ke x y ra rn rc ea en ec W) (hz : Hi (ke + 1) W z (.slice za zn zc)) : RV w kr ke z y za zn zc ea en ec (W.setRow kr #[.int .u8 (z.op : Int), .int .i64 z.n, .string z.name, .slice za zn zc]) := by
  have hl := h.lt
  exact ⟨setRow_heap _ _ _ _ _ _ h.rr, (setRow_other _ _ _ _ (by omega)).trans h.re, hz.set (by omega) _, h.HE.set (by omega) _, h.lt, below_row h.below h.below.size (by omega) _⟩
theorem RV.sete {w W : World} {kr ke : Nat} {x y z : Ex} {ra : Option Addr} {rn rc : Nat} {ea : Option Addr} {en ec : Nat} {za : Option Addr} {zn zc : Nat} (h : RV w kr ke x y ra rn rc ea en ec W) (hz : Hi (ke + 1) W z (.slice za zn zc)) : RV w kr ke x z ra rn rc za zn zc (W.setRow ke #[.int .u8 (z.op : Int), .int .i64 z.n, .string z.name, .slice za zn zc]) := by
  have hl := h.lt
  exact ⟨(setRow_other _ _ _ _ (by omega)).trans h.rr, setRow_heap _ _ _ _ _ _ h.re, h.HR.set (by omega) _, hz.set (by omega) _, h.lt, below_row h.below h.below.size (by omega) _⟩
/-- Both, and the tables, where nothing is stored any more. -/
structure RW (w : World) (kr ke : Nat) (x y : Ex) (ra : Option Addr) (rn rc : Nat) (ea : Option Addr) (en ec : Nat) (W : World) : Prop where
  rr : W.heap[kr]? = some (.cells #[.int .u8 (x.op : Int), .int .i64 x.n, .string x.name, .slice ra rn rc] 30 (0, 0))
  re : W.heap[ke]? = some (.cells #[.int .u8 (y.op : Int), .int .i64 y.n, .string y.name, .slice ea en ec] 30 (0, 0))
  SX : St W x (.slice ra rn rc)
  SY : St W y (.slice ea en ec)
  R : TabR W
  J : TabJ W
  below : Below w.heap.size w W
theorem RW.keep {w W W' : World} {kr ke : Nat} {x y : Ex} {ra : Option Addr} {rn rc : Nat} {ea : Option Addr} {en ec : Nat} (h : RW w kr ke x y ra rn rc ea en ec W) (hb : Below W.heap.size W W') : RW w kr ke x y ra rn rc ea en ec W' := ⟨keep_row h.rr hb, keep_row h.re hb, h.SX.keep hb, h.SY.keep hb, h.R.below hb, h.J.below hb, bstep h.below hb⟩
theorem RW.drew {w W : World} {kr ke : Nat} {x y : Ex} {ra : Option Addr} {rn rc : Nat} {ea : Option Addr} {en ec : Nat} (h : RW w kr ke x y ra rn rc ea en ec W) : RW w kr ke x y ra rn rc ea en ec W.drew := h.keep (Below.refl _ _).drew
theorem RW.cells {w W : World} {kr ke : Nat} {x y : Ex} {ra : Option Addr} {rn rc : Nat} {ea : Option Addr} {en ec : Nat} (h : RW w kr ke x y ra rn rc ea en ec W) : W.cell? ⟨kr, 0, none⟩ = some (.int .u8 (x.op : Int)) ∧ W.cell? ⟨kr, 1, none⟩ = some (.int .i64 x.n) ∧ W.cell? ⟨kr, 2, none⟩ = some (.string x.name) ∧ W.cell? ⟨kr, 3, none⟩ = some (.slice ra rn rc) ∧ W.cell? ⟨ke, 0, none⟩ = some (.int .u8 (y.op : Int)) ∧ W.cell? ⟨ke, 1, none⟩ = some (.int .i64 y.n) ∧ W.cell? ⟨ke, 2, none⟩ = some (.string y.name) ∧ W.cell? ⟨ke, 3, none⟩ = some (.slice ea en ec) := by
  refine ⟨?_, ?_, ?_, ?_, ?_, ?_, ?_, ?_⟩ <;> first | (rw [cell_of_row _ _ _ _ 30 (0, 0) h.rr]; rfl) | (rw [cell_of_row _ _ _ _ 30 (0, 0) h.re]; rfl)
set_option maxRecDepth 100000 in
set_option maxHeartbeats 4000000 in
theorem walk5 (n : Nat) (w : World) (hn : n < 256) (hR : TabR w) (hJ : TabJ w) : Calls Tryd.prog 5 #[.int .u8 (n : Int)] w fun e w' => e = .returned (.bool true) ∧ Below w.heap.size w w' := by
  have HT := hid (And.intro hR hJ)
  clear hR hJ
  obtain ⟨m, hm⟩ : ∃ m, n % 14 = m := ⟨_, rfl⟩
  have hm14 : m < 14 := by omega
  have hmod : (n : Int) % 14 = (m : Int) := by omega
  have hmod' : Int.tmod (n : Int) 14 = (m : Int) := by rw [← hmod]; exact Int.tmod_eq_emod_of_nonneg (by omega)
  have hwu : IntKind.u8.wrap (m : Int) = (m : Int) := by rw [show IntKind.u8.wrap (m : Int) = (m : Int) % 256 from rfl]; omega
  have hwi : IntKind.i64.wrap (m : Int) = (m : Int) := by rw [IntKind.wrap_i64]; omega
  go_enter Tryd.func5, Tryd.ntmps5
  go_wp2_with (fail)
  refine (name_at ⟨#[97]⟩ _).mono ?_
  rintro e w1 ⟨rfl, hb1⟩
  go_wp2_with (fail)
  refine (name_at ⟨#[97]⟩ _).mono ?_
  rintro e w2 ⟨rfl, hb2⟩
  have BB := bstep (bstep hb1 (bstep ((Below.refl w1.heap.size w1).alloc (Nat.le_refl _) (.cells #[.int .u8 3, .int .i64 0, .string ⟨#[97]⟩, .slice none 0 0] 30)) hb2)) ((Below.refl w2.heap.size w2).alloc (Nat.le_refl _) (.cells #[.int .u8 3, .int .i64 0, .string ⟨#[97]⟩, .slice none 0 0] 30))
  have V0 : Hid (RV w w1.heap.size w2.heap.size exA exA none 0 0 none 0 0 (w2.alloc (.cells #[.int .u8 3, .int .i64 0, .string ⟨#[97]⟩, .slice none 0 0] 30))) := hid ⟨push_old (keep_row (heap_alloc_new w1 _) hb2), heap_alloc_new w2 _, fun V _ => stA V, fun V _ => stA V, ⟨hb1.size, by have := hb2.size; simp at this; omega⟩, BB⟩
  clear BB hb1 hb2
  go_wp2_with (fail)
  generalize w2.alloc (.cells #[.int .u8 3, .int .i64 0, .string ⟨#[97]⟩, .slice none 0 0] 30) = W0 at *
  generalize w1.heap.size = kr at *
  generalize w2.heap.size = ke at *
  go_loopw [6] (fun i wr => ∃ k : Nat, k ≤ m ∧ i = .int .i64 (k : Int) ∧ Hid (∃ ra rn rc ea en ec, RV w kr ke (rowE k) (eachE k) ra rn rc ea en ec wr)) (fun i _ => m - (intOf i).toNat)
  case atStart => exact ⟨0, Nat.zero_le _, rfl, hid ⟨_, _, _, _, _, _, V0.out⟩⟩
  case round =>
    obtain ⟨k, hk, rfl, HV⟩ := hrel
    obtain ⟨ra, rn, rc, ea, en, ec, hv⟩ := HV.out
    have K9 := hid hv
    clear hv HV V0
    by_cases hlt : k < m
    · have hlt' : (k : Int) < (m : Int) := by omega
      have hx : Hid (rowE (k + 1) = ⟨19, 0, ⟨#[]⟩, [rowE k]⟩) := hid rfl
      have hy : Hid (eachE (k + 1) = ⟨18, 0, ⟨#[]⟩, [exO, ⟨19, 0, ⟨#[]⟩, [eachE k]⟩]⟩) := hid rfl
      generalize rowE k = x at *
      generalize eachE k = y at *
      obtain ⟨q0, q1, q2, q3⟩ := K9.out.rcells
      go_wp2_with (fail)
      refine (of_pl 19 _ _ _ _).mono ?_
      rintro e w3 ⟨rfl, hb3⟩
      have L3 := hid ((K9.out.HR.one 19 (by decide) K9.out.low).keep hb3 (by have := K9.out.low; simp; omega))
      have K3 := hid ((K9.out.keep ((Below.refl _ _).alloc (Nat.le_refl _) (.cells #[.int .u8 (x.op : Int), .int .i64 x.n, .string x.name, .slice ra rn rc] 30))).keep hb3)
      clear hb3 q0 q1 q2 q3
      have KS := hid (K3.out.setr L3.out)
      go_wp2_with (refine wpList_store_row rfl 30 _ _ rfl kr #[.int .u8 19, .int .i64 0, .string ⟨#[]⟩, .slice (some ⟨wr.heap.size, 0, none⟩) 1 1] rfl rfl 30 _ K3.out.rr info30 rfl (by simp [Value.oneCell']) ?_)
      have K0 := hid (KS.out.keep (Below.refl _ _).drew)
      clear KS K3 L3 K9
      generalize (w3.setRow kr #[.int .u8 19, .int .i64 0, .string ⟨#[]⟩, .slice (some ⟨wr.heap.size, 0, none⟩) 1 1]) = V1 at *
      generalize hV : V1.drew = V at K0
      refine wp_region_held_drew (S := fun _ => True) (by kernel_rfl) trivial (fun _ => ?_)
      refine wpAnyH_ready (rs := [0, 1]) (by kernel_rfl) (by simp) ?_
      refine AllReadyH.cons (o := { dst := some 21, op := Go.Op.call { callee := Go.Callee.value (Go.Operand.func 21), args := #[], argTypes := #[] }, type := 30, pos := _, after := #[], guard := none }) rfl (fun K hK => ?_) (AllReadyH.cons (o := { dst := some 22, op := Go.Op.load 30 (Go.Operand.tmp 5), type := 30, pos := _, after := #[], guard := none }) rfl (fun K hK => ?_) AllReadyH.nil)
      · go_simp
        refine (nought_at _).mono ?_
        rintro e v1 ⟨rfl, hb1⟩
        have K1 := hid (K0.out.keep hb1)
        go_wp2_with fail
        refine hK.out _ _ trivial (fun _ => ?_)
        clear hK K
        clear hb1
        refine wpAnyH_ready (rs := [1]) (by kernel_rfl) (by simp) ?_
        refine AllReadyH.cons (o := { dst := some 22, op := Go.Op.load 30 (Go.Operand.tmp 5), type := 30, pos := _, after := #[], guard := none }) rfl (fun K hK => ?_) AllReadyH.nil
        obtain ⟨q0, q1, q2, q3⟩ := K1.out.ecells
        go_simp
        go_wp2_with fail
        refine hK.out _ _ trivial (fun _ => ?_)
        clear hK K
        clear q0 q1 q2 q3
        refine wpAnyH_ready (rs := [2]) (by kernel_rfl) (by simp) ?_
        refine AllReadyH.cons (o := { dst := some 23, op := Go.Op.buildSlice 28 1 #[(0, Go.Operand.tmp 22)], type := 28, pos := _, after := #[{ on := 1, ground := Go.Ground.data }], guard := none }) rfl (fun K hK => ?_) AllReadyH.nil
        go_simp
        go_wp2_with fail
        have L3 := hid (K1.out.HE.one 19 (by decide) K1.out.low)
        have K3 := hid (K1.out.keep ((Below.refl _ _).alloc (Nat.le_refl _) (.cells #[.int .u8 (y.op : Int), .int .i64 y.n, .string y.name, .slice ea en ec] 30)))
        refine hK.out _ _ trivial (fun _ => ?_)
        clear hK K
        refine wpAnyH_ready (rs := [3]) (by kernel_rfl) (by simp) ?_
        refine AllReadyH.cons (o := { dst := some 24, op := Go.Op.call { callee := Go.Callee.value (Go.Operand.func 20), args := #[Go.Operand.const (Go.Value.int Go.IntKind.u8 19), Go.Operand.tmp 23], argTypes := #[27, 28] }, type := 30, pos := _, after := #[{ on := 2, ground := Go.Ground.data }, { on := 0, ground := Go.Ground.chain }], guard := none }) rfl (fun K hK => ?_) AllReadyH.nil
        go_simp
        refine (of_pl 19 _ _ _ _).mono ?_
        rintro e v4 ⟨rfl, hb4⟩
        have L4 := hid (L3.out.keep hb4 K3.out.low)
        have K4 := hid (K3.out.keep hb4)
        go_wp2_with fail
        refine hK.out _ _ trivial (fun _ => ?_)
        clear hK K
        clear hb4
        refine wpAnyH_ready (rs := [4]) (by kernel_rfl) (by simp) ?_
        refine AllReadyH.cons (o := { dst := some 25, op := Go.Op.buildSlice 28 2 #[(0, Go.Operand.tmp 21), (1, Go.Operand.tmp 24)], type := 28, pos := _, after := #[{ on := 0, ground := Go.Ground.data }, { on := 3, ground := Go.Ground.data }], guard := none }) rfl (fun K hK => ?_) AllReadyH.nil
        go_simp
        go_wp2_with fail
        have L5 := hid (K4.out.leafO.two (x := exO) 18 (by decide) L4.out K4.out.low)
        have K5 := hid (K4.out.keep ((Below.refl _ _).alloc (Nat.le_refl _) (.cells #[.int .u8 1, .int .i64 0, .string ⟨#[]⟩, .slice none 0 0, .int .u8 19, .int .i64 0, .string ⟨#[]⟩, .slice (some ⟨v1.heap.size, 0, none⟩) 1 1] 30)))
        refine hK.out _ _ trivial (fun _ => ?_)
        clear hK K
        refine wpAnyH_ready (rs := [5]) (by kernel_rfl) (by simp) ?_
        refine AllReadyH.cons (o := { dst := some 26, op := Go.Op.call { callee := Go.Callee.value (Go.Operand.func 20), args := #[Go.Operand.const (Go.Value.int Go.IntKind.u8 18), Go.Operand.tmp 25], argTypes := #[27, 28] }, type := 30, pos := _, after := #[{ on := 4, ground := Go.Ground.data }, { on := 3, ground := Go.Ground.chain }], guard := none }) rfl (fun K hK => ?_) AllReadyH.nil
        go_simp
        refine (of_pl 18 _ _ _ _).mono ?_
        rintro e v6 ⟨rfl, hb6⟩
        have L6 := hid (L5.out.keep hb6 K5.out.low)
        have K6 := hid (K5.out.keep hb6)
        go_wp2_with fail
        refine hK.out _ _ trivial (fun _ => ?_)
        clear hK K
        clear hb6
        refine wpAnyH_ready (rs := [6]) (by kernel_rfl) (by simp) ?_
        refine AllReadyH.cons (o := { dst := none, op := Go.Op.store 30 (Go.Operand.tmp 5) (Go.Operand.tmp 26), type := 0, pos := _, after := #[{ on := 5, ground := Go.Ground.data }, { on := 5, ground := Go.Ground.chain }, { on := 0, ground := Go.Ground.phase }, { on := 1, ground := Go.Ground.phase }, { on := 2, ground := Go.Ground.phase }, { on := 3, ground := Go.Ground.phase }, { on := 4, ground := Go.Ground.phase }, { on := 5, ground := Go.Ground.phase }], guard := none }) rfl (fun K hK => ?_) AllReadyH.nil
        refine if_take (by rfl) ?_
        refine wp_store_row 30 _ _ rfl ke #[.int .u8 18, .int .i64 0, .string ⟨#[]⟩, .slice (some ⟨v4.heap.size, 0, none⟩) 2 2] rfl rfl 30 _ K6.out.re info30 rfl (by simp [Value.oneCell']) ?_
        have NX := hid (K6.out.sete L6.out)
        refine hK.out _ _ trivial (fun _ => ?_)
        clear hK K
        refine wpAnyH_done (by kernel_rfl) ?_ _
        generalize v6.setRow ke #[.int .u8 18, .int .i64 0, .string ⟨#[]⟩, .slice (some ⟨v4.heap.size, 0, none⟩) 2 2] = V9 at *
        go_wp2_with (fail)
        go_roundw
        case rel => exact ⟨k + 1, by omega, by go_num, hid (by rw [hx.out, hy.out]; exact ⟨_, _, _, _, _, _, NX.out⟩)⟩
        case measure => simp [intOf]; omega
      · obtain ⟨q0, q1, q2, q3⟩ := K0.out.ecells
        go_simp
        go_wp2_with fail
        refine hK.out _ _ trivial (fun _ => ?_)
        clear hK K
        clear q0 q1 q2 q3
        refine wpAnyH_ready (rs := [0, 2]) (by kernel_rfl) (by simp) ?_
        refine AllReadyH.cons (o := { dst := some 21, op := Go.Op.call { callee := Go.Callee.value (Go.Operand.func 21), args := #[], argTypes := #[] }, type := 30, pos := _, after := #[], guard := none }) rfl (fun K hK => ?_) (AllReadyH.cons (o := { dst := some 23, op := Go.Op.buildSlice 28 1 #[(0, Go.Operand.tmp 22)], type := 28, pos := _, after := #[{ on := 1, ground := Go.Ground.data }], guard := none }) rfl (fun K hK => ?_) AllReadyH.nil)
        · go_simp
          refine (nought_at _).mono ?_
          rintro e v2 ⟨rfl, hb2⟩
          have K2 := hid (K0.out.keep hb2)
          go_wp2_with fail
          refine hK.out _ _ trivial (fun _ => ?_)
          clear hK K
          clear hb2
          refine wpAnyH_ready (rs := [2]) (by kernel_rfl) (by simp) ?_
          refine AllReadyH.cons (o := { dst := some 23, op := Go.Op.buildSlice 28 1 #[(0, Go.Operand.tmp 22)], type := 28, pos := _, after := #[{ on := 1, ground := Go.Ground.data }], guard := none }) rfl (fun K hK => ?_) AllReadyH.nil
          go_simp
          go_wp2_with fail
          have L3 := hid (K2.out.HE.one 19 (by decide) K2.out.low)
          have K3 := hid (K2.out.keep ((Below.refl _ _).alloc (Nat.le_refl _) (.cells #[.int .u8 (y.op : Int), .int .i64 y.n, .string y.name, .slice ea en ec] 30)))
          refine hK.out _ _ trivial (fun _ => ?_)
          clear hK K
          refine wpAnyH_ready (rs := [3]) (by kernel_rfl) (by simp) ?_
          refine AllReadyH.cons (o := { dst := some 24, op := Go.Op.call { callee := Go.Callee.value (Go.Operand.func 20), args := #[Go.Operand.const (Go.Value.int Go.IntKind.u8 19), Go.Operand.tmp 23], argTypes := #[27, 28] }, type := 30, pos := _, after := #[{ on := 2, ground := Go.Ground.data }, { on := 0, ground := Go.Ground.chain }], guard := none }) rfl (fun K hK => ?_) AllReadyH.nil
          go_simp
          refine (of_pl 19 _ _ _ _).mono ?_
          rintro e v4 ⟨rfl, hb4⟩
          have L4 := hid (L3.out.keep hb4 K3.out.low)
          have K4 := hid (K3.out.keep hb4)
          go_wp2_with fail
          refine hK.out _ _ trivial (fun _ => ?_)
          clear hK K
          clear hb4
          refine wpAnyH_ready (rs := [4]) (by kernel_rfl) (by simp) ?_
          refine AllReadyH.cons (o := { dst := some 25, op := Go.Op.buildSlice 28 2 #[(0, Go.Operand.tmp 21), (1, Go.Operand.tmp 24)], type := 28, pos := _, after := #[{ on := 0, ground := Go.Ground.data }, { on := 3, ground := Go.Ground.data }], guard := none }) rfl (fun K hK => ?_) AllReadyH.nil
          go_simp
          go_wp2_with fail
          have L5 := hid (K4.out.leafO.two (x := exO) 18 (by decide) L4.out K4.out.low)
          have K5 := hid (K4.out.keep ((Below.refl _ _).alloc (Nat.le_refl _) (.cells #[.int .u8 1, .int .i64 0, .string ⟨#[]⟩, .slice none 0 0, .int .u8 19, .int .i64 0, .string ⟨#[]⟩, .slice (some ⟨v2.heap.size, 0, none⟩) 1 1] 30)))
          refine hK.out _ _ trivial (fun _ => ?_)
          clear hK K
          refine wpAnyH_ready (rs := [5]) (by kernel_rfl) (by simp) ?_
          refine AllReadyH.cons (o := { dst := some 26, op := Go.Op.call { callee := Go.Callee.value (Go.Operand.func 20), args := #[Go.Operand.const (Go.Value.int Go.IntKind.u8 18), Go.Operand.tmp 25], argTypes := #[27, 28] }, type := 30, pos := _, after := #[{ on := 4, ground := Go.Ground.data }, { on := 3, ground := Go.Ground.chain }], guard := none }) rfl (fun K hK => ?_) AllReadyH.nil
          go_simp
          refine (of_pl 18 _ _ _ _).mono ?_
          rintro e v6 ⟨rfl, hb6⟩
          have L6 := hid (L5.out.keep hb6 K5.out.low)
          have K6 := hid (K5.out.keep hb6)
          go_wp2_with fail
          refine hK.out _ _ trivial (fun _ => ?_)
          clear hK K
          clear hb6
          refine wpAnyH_ready (rs := [6]) (by kernel_rfl) (by simp) ?_
          refine AllReadyH.cons (o := { dst := none, op := Go.Op.store 30 (Go.Operand.tmp 5) (Go.Operand.tmp 26), type := 0, pos := _, after := #[{ on := 5, ground := Go.Ground.data }, { on := 5, ground := Go.Ground.chain }, { on := 0, ground := Go.Ground.phase }, { on := 1, ground := Go.Ground.phase }, { on := 2, ground := Go.Ground.phase }, { on := 3, ground := Go.Ground.phase }, { on := 4, ground := Go.Ground.phase }, { on := 5, ground := Go.Ground.phase }], guard := none }) rfl (fun K hK => ?_) AllReadyH.nil
          refine if_take (by rfl) ?_
          refine wp_store_row 30 _ _ rfl ke #[.int .u8 18, .int .i64 0, .string ⟨#[]⟩, .slice (some ⟨v4.heap.size, 0, none⟩) 2 2] rfl rfl 30 _ K6.out.re info30 rfl (by simp [Value.oneCell']) ?_
          have NX := hid (K6.out.sete L6.out)
          refine hK.out _ _ trivial (fun _ => ?_)
          clear hK K
          refine wpAnyH_done (by kernel_rfl) ?_ _
          generalize v6.setRow ke #[.int .u8 18, .int .i64 0, .string ⟨#[]⟩, .slice (some ⟨v4.heap.size, 0, none⟩) 2 2] = V9 at *
          go_wp2_with (fail)
          go_roundw
          case rel => exact ⟨k + 1, by omega, by go_num, hid (by rw [hx.out, hy.out]; exact ⟨_, _, _, _, _, _, NX.out⟩)⟩
          case measure => simp [intOf]; omega
        · go_simp
          go_wp2_with fail
          have L2 := hid (K0.out.HE.one 19 (by decide) K0.out.low)
          have K2 := hid (K0.out.keep ((Below.refl _ _).alloc (Nat.le_refl _) (.cells #[.int .u8 (y.op : Int), .int .i64 y.n, .string y.name, .slice ea en ec] 30)))
          refine hK.out _ _ trivial (fun _ => ?_)
          clear hK K
          refine wpAnyH_ready (rs := [0]) (by kernel_rfl) (by simp) ?_
          refine AllReadyH.cons (o := { dst := some 21, op := Go.Op.call { callee := Go.Callee.value (Go.Operand.func 21), args := #[], argTypes := #[] }, type := 30, pos := _, after := #[], guard := none }) rfl (fun K hK => ?_) AllReadyH.nil
          go_simp
          refine (nought_at _).mono ?_
          rintro e v3 ⟨rfl, hb3⟩
          have K3 := hid (K2.out.keep hb3)
          have L3 := hid (L2.out.keep hb3 K2.out.low)
          go_wp2_with fail
          refine hK.out _ _ trivial (fun _ => ?_)
          clear hK K
          clear hb3
          refine wpAnyH_ready (rs := [3]) (by kernel_rfl) (by simp) ?_
          refine AllReadyH.cons (o := { dst := some 24, op := Go.Op.call { callee := Go.Callee.value (Go.Operand.func 20), args := #[Go.Operand.const (Go.Value.int Go.IntKind.u8 19), Go.Operand.tmp 23], argTypes := #[27, 28] }, type := 30, pos := _, after := #[{ on := 2, ground := Go.Ground.data }, { on := 0, ground := Go.Ground.chain }], guard := none }) rfl (fun K hK => ?_) AllReadyH.nil
          go_simp
          refine (of_pl 19 _ _ _ _).mono ?_
          rintro e v4 ⟨rfl, hb4⟩
          have L4 := hid (L3.out.keep hb4 K3.out.low)
          have K4 := hid (K3.out.keep hb4)
          go_wp2_with fail
          refine hK.out _ _ trivial (fun _ => ?_)
          clear hK K
          clear hb4
          refine wpAnyH_ready (rs := [4]) (by kernel_rfl) (by simp) ?_
          refine AllReadyH.cons (o := { dst := some 25, op := Go.Op.buildSlice 28 2 #[(0, Go.Operand.tmp 21), (1, Go.Operand.tmp 24)], type := 28, pos := _, after := #[{ on := 0, ground := Go.Ground.data }, { on := 3, ground := Go.Ground.data }], guard := none }) rfl (fun K hK => ?_) AllReadyH.nil
          go_simp
          go_wp2_with fail
          have L5 := hid (K4.out.leafO.two (x := exO) 18 (by decide) L4.out K4.out.low)
          have K5 := hid (K4.out.keep ((Below.refl _ _).alloc (Nat.le_refl _) (.cells #[.int .u8 1, .int .i64 0, .string ⟨#[]⟩, .slice none 0 0, .int .u8 19, .int .i64 0, .string ⟨#[]⟩, .slice (some ⟨V.heap.size, 0, none⟩) 1 1] 30)))
          refine hK.out _ _ trivial (fun _ => ?_)
          clear hK K
          refine wpAnyH_ready (rs := [5]) (by kernel_rfl) (by simp) ?_
          refine AllReadyH.cons (o := { dst := some 26, op := Go.Op.call { callee := Go.Callee.value (Go.Operand.func 20), args := #[Go.Operand.const (Go.Value.int Go.IntKind.u8 18), Go.Operand.tmp 25], argTypes := #[27, 28] }, type := 30, pos := _, after := #[{ on := 4, ground := Go.Ground.data }, { on := 3, ground := Go.Ground.chain }], guard := none }) rfl (fun K hK => ?_) AllReadyH.nil
          go_simp
          refine (of_pl 18 _ _ _ _).mono ?_
          rintro e v6 ⟨rfl, hb6⟩
          have L6 := hid (L5.out.keep hb6 K5.out.low)
          have K6 := hid (K5.out.keep hb6)
          go_wp2_with fail
          refine hK.out _ _ trivial (fun _ => ?_)
          clear hK K
          clear hb6
          refine wpAnyH_ready (rs := [6]) (by kernel_rfl) (by simp) ?_
          refine AllReadyH.cons (o := { dst := none, op := Go.Op.store 30 (Go.Operand.tmp 5) (Go.Operand.tmp 26), type := 0, pos := _, after := #[{ on := 5, ground := Go.Ground.data }, { on := 5, ground := Go.Ground.chain }, { on := 0, ground := Go.Ground.phase }, { on := 1, ground := Go.Ground.phase }, { on := 2, ground := Go.Ground.phase }, { on := 3, ground := Go.Ground.phase }, { on := 4, ground := Go.Ground.phase }, { on := 5, ground := Go.Ground.phase }], guard := none }) rfl (fun K hK => ?_) AllReadyH.nil
          refine if_take (by rfl) ?_
          refine wp_store_row 30 _ _ rfl ke #[.int .u8 18, .int .i64 0, .string ⟨#[]⟩, .slice (some ⟨v4.heap.size, 0, none⟩) 2 2] rfl rfl 30 _ K6.out.re info30 rfl (by simp [Value.oneCell']) ?_
          have NX := hid (K6.out.sete L6.out)
          refine hK.out _ _ trivial (fun _ => ?_)
          clear hK K
          refine wpAnyH_done (by kernel_rfl) ?_ _
          generalize v6.setRow ke #[.int .u8 18, .int .i64 0, .string ⟨#[]⟩, .slice (some ⟨v4.heap.size, 0, none⟩) 2 2] = V9 at *
          go_wp2_with (fail)
          go_roundw
          case rel => exact ⟨k + 1, by omega, by go_num, hid (by rw [hx.out, hy.out]; exact ⟨_, _, _, _, _, _, NX.out⟩)⟩
          case measure => simp [intOf]; omega
    · have hlt' : ¬ (k : Int) < (m : Int) := by omega
      obtain rfl : k = m := by omega
      have HF := hid (rows_of hm14)
      have L9 : Hid (RW w kr ke (rowE k) (eachE k) ra rn rc ea en ec wr) := hid ⟨K9.out.rr, K9.out.re, K9.out.HR.st, K9.out.HE.st, HT.out.1.below K9.out.below, HT.out.2.below K9.out.below, K9.out.below⟩
      clear K9 HT hlt hk
      generalize rowE k = x at *
      generalize eachE k = y at *
      generalize wr = W9 at *
      by_cases h1 : k ≤ 1
      · have h1' : (k : Int) ≤ 1 := by omega
        rw [if_pos h1] at HF
        clear h1
        go_wp2_with (fail)
        refine wp_region_held_drew (S := fun W => W.cell? ⟨kr, 0, none⟩ = some (.int .u8 (x.op : Int)) ∧ W.cell? ⟨kr, 1, none⟩ = some (.int .i64 x.n) ∧ W.cell? ⟨kr, 2, none⟩ = some (.string x.name) ∧ W.cell? ⟨kr, 3, none⟩ = some (.slice ra rn rc) ∧ W.cell? ⟨ke, 0, none⟩ = some (.int .u8 (y.op : Int)) ∧ W.cell? ⟨ke, 1, none⟩ = some (.int .i64 y.n) ∧ W.cell? ⟨ke, 2, none⟩ = some (.string y.name) ∧ W.cell? ⟨ke, 3, none⟩ = some (.slice ea en ec)) (by kernel_rfl) ?_ (fun hHeld => ?_)
        · exact L9.out.drew.cells
        have K0 := hid L9.out.drew
        refine wpAnyH_ready (rs := [0]) (by kernel_rfl) (by simp) ?_
        refine AllReadyH.cons (o := { dst := some 30, op := Go.Op.call { callee := Go.Callee.value (Go.Operand.func 22), args := #[], argTypes := #[] }, type := 4, pos := _, after := #[], guard := none }) rfl (fun K hK => ?_) AllReadyH.nil
        go_simp
        refine (alive _ K0.out.R K0.out.J).mono ?_
        rintro e v1 ⟨rfl, hb1⟩
        have K1 := hid (K0.out.keep hb1)
        go_wp2_with fail
        refine hK.out _ _ ?_ (fun hHeld1 => ?_)
        · exact K1.out.cells
        clear hK K
        clear hb1
        refine wpAnyH_take (i := 1) (oi := { dst := some 31, op := Go.Op.move (Go.Operand.tmp 30), type := 4, pos := _, after := #[{ on := 0, ground := Go.Ground.data }, { on := 0, ground := Go.Ground.chain }], guard := none }) (v := ?_) rfl (by kernel_rfl) (by kernel_rfl) (by kernel_rfl) (fun _ _ _ h => h) (Or.inl ⟨by rfl, ?_⟩) (by assumption) ?_
        rotate_left
        · intro w hSw; (try dsimp only at hSw); go_simp <;> first | with_reducible rfl | (rw [if_neg (by first | omega | (simp only [ByteArray.size_append] at *; omega))])
        simp only [Act.put, List.setIfInBounds_toArray, List.set_cons_zero, List.set_cons_succ]
        refine wpAnyH_take (i := 2) (oi := { dst := some 32, op := Go.Op.load 30 (Go.Operand.tmp 4), type := 30, pos := _, after := #[{ on := 1, ground := Go.Ground.guard }], guard := some (1, true) }) (v := ?_) rfl (by kernel_rfl) (by kernel_rfl) (by kernel_rfl) (fun _ _ _ h => h) (Or.inl ⟨by rfl, ?_⟩) (by assumption) ?_
        rotate_left
        · intro w hSw; (try dsimp only at hSw); go_simp <;> first | with_reducible rfl | (rw [if_neg (by first | omega | (simp only [ByteArray.size_append] at *; omega))])
        simp only [Act.put, List.setIfInBounds_toArray, List.set_cons_zero, List.set_cons_succ]
        refine wpAnyH_take (i := 3) (oi := { dst := some 33, op := Go.Op.move (Go.Operand.tmp 3), type := 3, pos := _, after := #[{ on := 1, ground := Go.Ground.guard }], guard := some (1, true) }) (v := ?_) rfl (by kernel_rfl) (by kernel_rfl) (by kernel_rfl) (fun _ _ _ h => h) (Or.inl ⟨by rfl, ?_⟩) (by assumption) ?_
        rotate_left
        · intro w hSw; (try dsimp only at hSw); go_simp <;> first | with_reducible rfl | (rw [if_neg (by first | omega | (simp only [ByteArray.size_append] at *; omega))])
        simp only [Act.put, List.setIfInBounds_toArray, List.set_cons_zero, List.set_cons_succ]
        refine wpAnyH_ready (rs := [4]) (by kernel_rfl) (by simp) ?_
        refine AllReadyH.cons (o := { dst := some 34, op := Go.Op.call { callee := Go.Callee.value (Go.Operand.func 23), args := #[Go.Operand.tmp 32, Go.Operand.tmp 33], argTypes := #[30, 3] }, type := 4, pos := _, after := #[{ on := 2, ground := Go.Ground.data }, { on := 3, ground := Go.Ground.data }, { on := 1, ground := Go.Ground.chain }, { on := 1, ground := Go.Ground.guard }], guard := some (1, true) }) rfl (fun K hK => ?_) AllReadyH.nil
        go_simp
        refine (is_at _ _ HF.out.1 _ _ K1.out.SX K1.out.R K1.out.J).mono ?_
        rintro e v2 ⟨rfl, hb2⟩
        have K2 := hid (K1.out.keep hb2)
        go_wp2_with fail
        refine hK.out _ _ ?_ (fun hHeld2 => ?_)
        · exact K2.out.cells
        clear hK K
        clear hb2
        refine wpAnyH_take (i := 5) (oi := { dst := some 35, op := Go.Op.pick (Go.Operand.tmp 31) (Go.Operand.tmp 34) (Go.Operand.const (Go.Value.bool false)), type := 4, pos := _, after := #[{ on := 1, ground := Go.Ground.data }, { on := 4, ground := Go.Ground.data }], guard := none }) (v := ?_) rfl (by kernel_rfl) (by kernel_rfl) (by kernel_rfl) (fun _ _ _ h => h) (Or.inl ⟨by rfl, ?_⟩) (by assumption) ?_
        rotate_left
        · intro w hSw; (try dsimp only at hSw); go_simp <;> first | with_reducible rfl | (rw [if_neg (by first | omega | (simp only [ByteArray.size_append] at *; omega))])
        simp only [Act.put, List.setIfInBounds_toArray, List.set_cons_zero, List.set_cons_succ]
        refine wpAnyH_take (i := 6) (oi := { dst := some 36, op := Go.Op.move (Go.Operand.tmp 35), type := 4, pos := _, after := #[{ on := 5, ground := Go.Ground.data }, { on := 4, ground := Go.Ground.chain }], guard := none }) (v := ?_) rfl (by kernel_rfl) (by kernel_rfl) (by kernel_rfl) (fun _ _ _ h => h) (Or.inl ⟨by rfl, ?_⟩) (by assumption) ?_
        rotate_left
        · intro w hSw; (try dsimp only at hSw); go_simp <;> first | with_reducible rfl | (rw [if_neg (by first | omega | (simp only [ByteArray.size_append] at *; omega))])
        simp only [Act.put, List.setIfInBounds_toArray, List.set_cons_zero, List.set_cons_succ]
        refine wpAnyH_take (i := 8) (oi := { dst := some 38, op := Go.Op.load 30 (Go.Operand.tmp 4), type := 30, pos := _, after := #[{ on := 6, ground := Go.Ground.guard }], guard := some (6, true) }) (v := ?_) rfl (by kernel_rfl) (by kernel_rfl) (by kernel_rfl) (fun _ _ _ h => h) (Or.inl ⟨by rfl, ?_⟩) (by assumption) ?_
        rotate_left
        · intro w hSw; (try dsimp only at hSw); go_simp <;> first | with_reducible rfl | (rw [if_neg (by first | omega | (simp only [ByteArray.size_append] at *; omega))])
        simp only [Act.put, List.setIfInBounds_toArray, List.set_cons_zero, List.set_cons_succ]
        refine wpAnyH_take (i := 11) (oi := { dst := some 41, op := Go.Op.move (Go.Operand.tmp 7), type := 3, pos := _, after := #[{ on := 6, ground := Go.Ground.guard }], guard := some (6, true) }) (v := ?_) rfl (by kernel_rfl) (by kernel_rfl) (by kernel_rfl) (fun _ _ _ h => h) (Or.inl ⟨by rfl, ?_⟩) (by assumption) ?_
        rotate_left
        · intro w hSw; (try dsimp only at hSw); go_simp <;> first | with_reducible rfl | (rw [if_neg (by first | omega | (simp only [ByteArray.size_append] at *; omega))])
        simp only [Act.put, List.setIfInBounds_toArray, List.set_cons_zero, List.set_cons_succ]
        refine wpAnyH_ready (rs := [7]) (by kernel_rfl) (by simp) ?_
        refine AllReadyH.cons (o := { dst := some 37, op := Go.Op.call { callee := Go.Callee.value (Go.Operand.func 21), args := #[], argTypes := #[] }, type := 30, pos := _, after := #[{ on := 6, ground := Go.Ground.chain }, { on := 6, ground := Go.Ground.guard }], guard := some (6, true) }) rfl (fun K hK => ?_) AllReadyH.nil
        go_simp
        refine (nought_at _).mono ?_
        rintro e v3 ⟨rfl, hb3⟩
        have K3 := hid (K2.out.keep hb3)
        go_wp2_with fail
        refine hK.out _ _ ?_ (fun hHeld3 => ?_)
        · exact K3.out.cells
        clear hK K
        clear hb3
        refine wpAnyH_ready (rs := [9]) (by kernel_rfl) (by simp) ?_
        refine AllReadyH.cons (o := { dst := some 39, op := Go.Op.buildSlice 28 2 #[(0, Go.Operand.tmp 37), (1, Go.Operand.tmp 38)], type := 28, pos := _, after := #[{ on := 7, ground := Go.Ground.data }, { on := 8, ground := Go.Ground.data }, { on := 6, ground := Go.Ground.guard }], guard := some (6, true) }) rfl (fun K hK => ?_) AllReadyH.nil
        go_simp
        go_wp2_with fail
        have SX4 := hid (st2 v3 18 exO x _ _ (by decide) (stO _) K3.out.SX)
        have K4 := hid (K3.out.keep ((Below.refl _ _).alloc (Nat.le_refl _) (.cells #[.int .u8 1, .int .i64 0, .string ⟨#[]⟩, .slice none 0 0, .int .u8 (x.op : Int), .int .i64 x.n, .string x.name, .slice ra rn rc] 30)))
        refine hK.out _ _ ?_ (fun hHeld4 => ?_)
        · exact K4.out.cells
        clear hK K
        refine wpAnyH_ready (rs := [10]) (by kernel_rfl) (by simp) ?_
        refine AllReadyH.cons (o := { dst := some 40, op := Go.Op.call { callee := Go.Callee.value (Go.Operand.func 20), args := #[Go.Operand.const (Go.Value.int Go.IntKind.u8 18), Go.Operand.tmp 39], argTypes := #[27, 28] }, type := 30, pos := _, after := #[{ on := 9, ground := Go.Ground.data }, { on := 7, ground := Go.Ground.chain }, { on := 6, ground := Go.Ground.guard }], guard := some (6, true) }) rfl (fun K hK => ?_) AllReadyH.nil
        go_simp
        refine (of_pl 18 _ _ _ _).mono ?_
        rintro e v5 ⟨rfl, hb5⟩
        have K5 := hid (K4.out.keep hb5)
        have SY5 := hid (SX4.out.keep hb5)
        go_wp2_with fail
        refine hK.out _ _ ?_ (fun hHeld5 => ?_)
        · exact K5.out.cells
        clear hK K
        clear hb5
        refine wpAnyH_ready (rs := [12]) (by kernel_rfl) (by simp) ?_
        refine AllReadyH.cons (o := { dst := some 42, op := Go.Op.call { callee := Go.Callee.value (Go.Operand.func 23), args := #[Go.Operand.tmp 40, Go.Operand.tmp 41], argTypes := #[30, 3] }, type := 4, pos := _, after := #[{ on := 10, ground := Go.Ground.data }, { on := 11, ground := Go.Ground.data }, { on := 10, ground := Go.Ground.chain }, { on := 6, ground := Go.Ground.guard }], guard := some (6, true) }) rfl (fun K hK => ?_) AllReadyH.nil
        go_simp
        refine (is_at _ _ HF.out.2.1 _ _ SY5.out K5.out.R K5.out.J).mono ?_
        rintro e v6 ⟨rfl, hb6⟩
        have K6 := hid (K5.out.keep hb6)
        go_wp2_with fail
        refine hK.out _ _ ?_ (fun hHeld6 => ?_)
        · exact K6.out.cells
        clear hK K
        clear hb6
        refine wpAnyH_take (i := 13) (oi := { dst := some 43, op := Go.Op.pick (Go.Operand.tmp 36) (Go.Operand.tmp 42) (Go.Operand.const (Go.Value.bool false)), type := 4, pos := _, after := #[{ on := 6, ground := Go.Ground.data }, { on := 12, ground := Go.Ground.data }], guard := none }) (v := ?_) rfl (by kernel_rfl) (by kernel_rfl) (by kernel_rfl) (fun _ _ _ h => h) (Or.inl ⟨by rfl, ?_⟩) (by assumption) ?_
        rotate_left
        · intro w hSw; (try dsimp only at hSw); go_simp <;> first | with_reducible rfl | (rw [if_neg (by first | omega | (simp only [ByteArray.size_append] at *; omega))])
        simp only [Act.put, List.setIfInBounds_toArray, List.set_cons_zero, List.set_cons_succ]
        refine wpAnyH_take (i := 14) (oi := { dst := some 44, op := Go.Op.move (Go.Operand.tmp 43), type := 4, pos := _, after := #[{ on := 13, ground := Go.Ground.data }, { on := 12, ground := Go.Ground.chain }], guard := none }) (v := ?_) rfl (by kernel_rfl) (by kernel_rfl) (by kernel_rfl) (fun _ _ _ h => h) (Or.inl ⟨by rfl, ?_⟩) (by assumption) ?_
        rotate_left
        · intro w hSw; (try dsimp only at hSw); go_simp <;> first | with_reducible rfl | (rw [if_neg (by first | omega | (simp only [ByteArray.size_append] at *; omega))])
        simp only [Act.put, List.setIfInBounds_toArray, List.set_cons_zero, List.set_cons_succ]
        refine wpAnyH_take (i := 15) (oi := { dst := some 45, op := Go.Op.load 30 (Go.Operand.tmp 4), type := 30, pos := _, after := #[{ on := 14, ground := Go.Ground.guard }], guard := some (14, true) }) (v := ?_) rfl (by kernel_rfl) (by kernel_rfl) (by kernel_rfl) (fun _ _ _ h => h) (Or.inl ⟨by rfl, ?_⟩) (by assumption) ?_
        rotate_left
        · intro w hSw; (try dsimp only at hSw); go_simp <;> first | with_reducible rfl | (rw [if_neg (by first | omega | (simp only [ByteArray.size_append] at *; omega))])
        simp only [Act.put, List.setIfInBounds_toArray, List.set_cons_zero, List.set_cons_succ]
        refine wpAnyH_take (i := 16) (oi := { dst := some 46, op := Go.Op.load 30 (Go.Operand.tmp 5), type := 30, pos := _, after := #[{ on := 14, ground := Go.Ground.guard }], guard := some (14, true) }) (v := ?_) rfl (by kernel_rfl) (by kernel_rfl) (by kernel_rfl) (fun _ _ _ h => h) (Or.inl ⟨by rfl, ?_⟩) (by assumption) ?_
        rotate_left
        · intro w hSw; (try dsimp only at hSw); go_simp <;> first | with_reducible rfl | (rw [if_neg (by first | omega | (simp only [ByteArray.size_append] at *; omega))])
        simp only [Act.put, List.setIfInBounds_toArray, List.set_cons_zero, List.set_cons_succ]
        refine wpAnyH_take (i := 19) (oi := { dst := some 49, op := Go.Op.move (Go.Operand.tmp 3), type := 3, pos := _, after := #[{ on := 14, ground := Go.Ground.guard }], guard := some (14, true) }) (v := ?_) rfl (by kernel_rfl) (by kernel_rfl) (by kernel_rfl) (fun _ _ _ h => h) (Or.inl ⟨by rfl, ?_⟩) (by assumption) ?_
        rotate_left
        · intro w hSw; (try dsimp only at hSw); go_simp <;> first | with_reducible rfl | (rw [if_neg (by first | omega | (simp only [ByteArray.size_append] at *; omega))])
        simp only [Act.put, List.setIfInBounds_toArray, List.set_cons_zero, List.set_cons_succ]
        refine wpAnyH_ready (rs := [17]) (by kernel_rfl) (by simp) ?_
        refine AllReadyH.cons (o := { dst := some 47, op := Go.Op.buildSlice 28 2 #[(0, Go.Operand.tmp 45), (1, Go.Operand.tmp 46)], type := 28, pos := _, after := #[{ on := 15, ground := Go.Ground.data }, { on := 16, ground := Go.Ground.data }, { on := 14, ground := Go.Ground.guard }], guard := some (14, true) }) rfl (fun K hK => ?_) AllReadyH.nil
        go_simp
        go_wp2_with fail
        have SX7 := hid (st2 v6 6 x y _ _ (by decide) K6.out.SX K6.out.SY)
        have K7 := hid (K6.out.keep ((Below.refl _ _).alloc (Nat.le_refl _) (.cells #[.int .u8 (x.op : Int), .int .i64 x.n, .string x.name, .slice ra rn rc, .int .u8 (y.op : Int), .int .i64 y.n, .string y.name, .slice ea en ec] 30)))
        refine hK.out _ _ ?_ (fun hHeld7 => ?_)
        · exact K7.out.cells
        clear hK K
        refine wpAnyH_ready (rs := [18]) (by kernel_rfl) (by simp) ?_
        refine AllReadyH.cons (o := { dst := some 48, op := Go.Op.call { callee := Go.Callee.value (Go.Operand.func 20), args := #[Go.Operand.const (Go.Value.int Go.IntKind.u8 6), Go.Operand.tmp 47], argTypes := #[27, 28] }, type := 30, pos := _, after := #[{ on := 17, ground := Go.Ground.data }, { on := 14, ground := Go.Ground.chain }, { on := 14, ground := Go.Ground.guard }], guard := some (14, true) }) rfl (fun K hK => ?_) AllReadyH.nil
        go_simp
        refine (of_pl 6 _ _ _ _).mono ?_
        rintro e v8 ⟨rfl, hb8⟩
        have K8 := hid (K7.out.keep hb8)
        have SY8 := hid (SX7.out.keep hb8)
        go_wp2_with fail
        refine hK.out _ _ ?_ (fun hHeld8 => ?_)
        · exact K8.out.cells
        clear hK K
        clear hb8
        refine wpAnyH_ready (rs := [20]) (by kernel_rfl) (by simp) ?_
        refine AllReadyH.cons (o := { dst := some 50, op := Go.Op.call { callee := Go.Callee.value (Go.Operand.func 23), args := #[Go.Operand.tmp 48, Go.Operand.tmp 49], argTypes := #[30, 3] }, type := 4, pos := _, after := #[{ on := 18, ground := Go.Ground.data }, { on := 19, ground := Go.Ground.data }, { on := 18, ground := Go.Ground.chain }, { on := 14, ground := Go.Ground.guard }], guard := some (14, true) }) rfl (fun K hK => ?_) AllReadyH.nil
        go_simp
        refine (is_at _ _ HF.out.2.2.1 _ _ SY8.out K8.out.R K8.out.J).mono ?_
        rintro e v9 ⟨rfl, hb9⟩
        have K9 := hid (K8.out.keep hb9)
        go_wp2_with fail
        refine hK.out _ _ ?_ (fun hHeld9 => ?_)
        · exact K9.out.cells
        clear hK K
        clear hb9
        refine wpAnyH_take (i := 21) (oi := { dst := some 51, op := Go.Op.pick (Go.Operand.tmp 44) (Go.Operand.tmp 50) (Go.Operand.const (Go.Value.bool false)), type := 4, pos := _, after := #[{ on := 14, ground := Go.Ground.data }, { on := 20, ground := Go.Ground.data }], guard := none }) (v := ?_) rfl (by kernel_rfl) (by kernel_rfl) (by kernel_rfl) (fun _ _ _ h => h) (Or.inl ⟨by rfl, ?_⟩) (by assumption) ?_
        rotate_left
        · intro w hSw; (try dsimp only at hSw); go_simp <;> first | with_reducible rfl | (rw [if_neg (by first | omega | (simp only [ByteArray.size_append] at *; omega))])
        simp only [Act.put, List.setIfInBounds_toArray, List.set_cons_zero, List.set_cons_succ]
        refine wpAnyH_take (i := 22) (oi := { dst := some 52, op := Go.Op.move (Go.Operand.tmp 51), type := 4, pos := _, after := #[{ on := 21, ground := Go.Ground.data }, { on := 20, ground := Go.Ground.chain }], guard := none }) (v := ?_) rfl (by kernel_rfl) (by kernel_rfl) (by kernel_rfl) (fun _ _ _ h => h) (Or.inl ⟨by rfl, ?_⟩) (by assumption) ?_
        rotate_left
        · intro w hSw; (try dsimp only at hSw); go_simp <;> first | with_reducible rfl | (rw [if_neg (by first | omega | (simp only [ByteArray.size_append] at *; omega))])
        simp only [Act.put, List.setIfInBounds_toArray, List.set_cons_zero, List.set_cons_succ]
        refine wpAnyH_take (i := 23) (oi := { dst := some 53, op := Go.Op.load 30 (Go.Operand.tmp 5), type := 30, pos := _, after := #[{ on := 22, ground := Go.Ground.guard }], guard := some (22, true) }) (v := ?_) rfl (by kernel_rfl) (by kernel_rfl) (by kernel_rfl) (fun _ _ _ h => h) (Or.inl ⟨by rfl, ?_⟩) (by assumption) ?_
        rotate_left
        · intro w hSw; (try dsimp only at hSw); go_simp <;> first | with_reducible rfl | (rw [if_neg (by first | omega | (simp only [ByteArray.size_append] at *; omega))])
        simp only [Act.put, List.setIfInBounds_toArray, List.set_cons_zero, List.set_cons_succ]
        refine wpAnyH_ready (rs := [24]) (by kernel_rfl) (by simp) ?_
        refine AllReadyH.cons (o := { dst := some 54, op := Go.Op.call { callee := Go.Callee.value (Go.Operand.func 23), args := #[Go.Operand.tmp 53, Go.Operand.const (Go.Value.int Go.IntKind.i64 0)], argTypes := #[30, 3] }, type := 4, pos := _, after := #[{ on := 23, ground := Go.Ground.data }, { on := 22, ground := Go.Ground.chain }, { on := 22, ground := Go.Ground.guard }], guard := some (22, true) }) rfl (fun K hK => ?_) AllReadyH.nil
        go_simp
        refine (is_at _ _ HF.out.2.2.2 _ _ K9.out.SY K9.out.R K9.out.J).mono ?_
        rintro e v10 ⟨rfl, hb10⟩
        have K10 := hid (K9.out.keep hb10)
        go_wp2_with fail
        refine hK.out _ _ ?_ (fun hHeld10 => ?_)
        · exact K10.out.cells
        clear hK K
        clear hb10
        refine wpAnyH_take (i := 25) (oi := { dst := some 55, op := Go.Op.pick (Go.Operand.tmp 52) (Go.Operand.tmp 54) (Go.Operand.const (Go.Value.bool false)), type := 4, pos := _, after := #[{ on := 22, ground := Go.Ground.data }, { on := 24, ground := Go.Ground.data }], guard := none }) (v := ?_) rfl (by kernel_rfl) (by kernel_rfl) (by kernel_rfl) (fun _ _ _ h => h) (Or.inl ⟨by rfl, ?_⟩) (by assumption) ?_
        rotate_left
        · intro w hSw; (try dsimp only at hSw); go_simp <;> first | with_reducible rfl | (rw [if_neg (by first | omega | (simp only [ByteArray.size_append] at *; omega))])
        simp only [Act.put, List.setIfInBounds_toArray, List.set_cons_zero, List.set_cons_succ]
        refine wpAnyH_take (i := 26) (oi := { dst := some 2, op := Go.Op.assign (Go.Operand.tmp 55), type := 4, pos := _, after := #[{ on := 25, ground := Go.Ground.data }, { on := 24, ground := Go.Ground.chain }, { on := 0, ground := Go.Ground.phase }, { on := 1, ground := Go.Ground.phase }, { on := 2, ground := Go.Ground.phase }, { on := 3, ground := Go.Ground.phase }, { on := 4, ground := Go.Ground.phase }, { on := 5, ground := Go.Ground.phase }, { on := 6, ground := Go.Ground.phase }, { on := 7, ground := Go.Ground.phase }, { on := 8, ground := Go.Ground.phase }, { on := 9, ground := Go.Ground.phase }, { on := 10, ground := Go.Ground.phase }, { on := 11, ground := Go.Ground.phase }, { on := 12, ground := Go.Ground.phase }, { on := 13, ground := Go.Ground.phase }, { on := 14, ground := Go.Ground.phase }, { on := 15, ground := Go.Ground.phase }, { on := 16, ground := Go.Ground.phase }, { on := 17, ground := Go.Ground.phase }, { on := 18, ground := Go.Ground.phase }, { on := 19, ground := Go.Ground.phase }, { on := 20, ground := Go.Ground.phase }, { on := 21, ground := Go.Ground.phase }, { on := 22, ground := Go.Ground.phase }, { on := 23, ground := Go.Ground.phase }, { on := 24, ground := Go.Ground.phase }, { on := 25, ground := Go.Ground.phase }], guard := none }) (v := ?_) rfl (by kernel_rfl) (by kernel_rfl) (by kernel_rfl) (fun _ _ _ h => h) (Or.inl ⟨by rfl, ?_⟩) (by assumption) ?_
        rotate_left
        · intro w hSw; (try dsimp only at hSw); go_simp <;> first | with_reducible rfl | (rw [if_neg (by first | omega | (simp only [ByteArray.size_append] at *; omega))])
        simp only [Act.put, List.setIfInBounds_toArray, List.set_cons_zero, List.set_cons_succ]
        refine wpAnyH_done (by kernel_rfl) ?_ _
        have hB := K10.out.below
        go_wp2_with (fail)
        go_ret
        exact ⟨rfl, hB⟩
      · have h1' : ¬ (k : Int) ≤ 1 := by omega
        rw [if_neg h1] at HF
        clear h1
        go_wp2_with (fail)
        refine wp_region_held_drew (S := fun W => W.cell? ⟨kr, 0, none⟩ = some (.int .u8 (x.op : Int)) ∧ W.cell? ⟨kr, 1, none⟩ = some (.int .i64 x.n) ∧ W.cell? ⟨kr, 2, none⟩ = some (.string x.name) ∧ W.cell? ⟨kr, 3, none⟩ = some (.slice ra rn rc) ∧ W.cell? ⟨ke, 0, none⟩ = some (.int .u8 (y.op : Int)) ∧ W.cell? ⟨ke, 1, none⟩ = some (.int .i64 y.n) ∧ W.cell? ⟨ke, 2, none⟩ = some (.string y.name) ∧ W.cell? ⟨ke, 3, none⟩ = some (.slice ea en ec)) (by kernel_rfl) ?_ (fun hHeld => ?_)
        · exact L9.out.drew.cells
        have K0 := hid L9.out.drew
        refine wpAnyH_ready (rs := [0]) (by kernel_rfl) (by simp) ?_
        refine AllReadyH.cons (o := { dst := some 30, op := Go.Op.call { callee := Go.Callee.value (Go.Operand.func 22), args := #[], argTypes := #[] }, type := 4, pos := _, after := #[], guard := none }) rfl (fun K hK => ?_) AllReadyH.nil
        go_simp
        refine (alive _ K0.out.R K0.out.J).mono ?_
        rintro e v1 ⟨rfl, hb1⟩
        have K1 := hid (K0.out.keep hb1)
        go_wp2_with fail
        refine hK.out _ _ ?_ (fun hHeld1 => ?_)
        · exact K1.out.cells
        clear hK K
        clear hb1
        refine wpAnyH_take (i := 1) (oi := { dst := some 31, op := Go.Op.move (Go.Operand.tmp 30), type := 4, pos := _, after := #[{ on := 0, ground := Go.Ground.data }, { on := 0, ground := Go.Ground.chain }], guard := none }) (v := ?_) rfl (by kernel_rfl) (by kernel_rfl) (by kernel_rfl) (fun _ _ _ h => h) (Or.inl ⟨by rfl, ?_⟩) (by assumption) ?_
        rotate_left
        · intro w hSw; (try dsimp only at hSw); go_simp <;> first | with_reducible rfl | (rw [if_neg (by first | omega | (simp only [ByteArray.size_append] at *; omega))])
        simp only [Act.put, List.setIfInBounds_toArray, List.set_cons_zero, List.set_cons_succ]
        refine wpAnyH_take (i := 2) (oi := { dst := some 32, op := Go.Op.load 30 (Go.Operand.tmp 4), type := 30, pos := _, after := #[{ on := 1, ground := Go.Ground.guard }], guard := some (1, true) }) (v := ?_) rfl (by kernel_rfl) (by kernel_rfl) (by kernel_rfl) (fun _ _ _ h => h) (Or.inl ⟨by rfl, ?_⟩) (by assumption) ?_
        rotate_left
        · intro w hSw; (try dsimp only at hSw); go_simp <;> first | with_reducible rfl | (rw [if_neg (by first | omega | (simp only [ByteArray.size_append] at *; omega))])
        simp only [Act.put, List.setIfInBounds_toArray, List.set_cons_zero, List.set_cons_succ]
        refine wpAnyH_take (i := 3) (oi := { dst := some 33, op := Go.Op.move (Go.Operand.tmp 3), type := 3, pos := _, after := #[{ on := 1, ground := Go.Ground.guard }], guard := some (1, true) }) (v := ?_) rfl (by kernel_rfl) (by kernel_rfl) (by kernel_rfl) (fun _ _ _ h => h) (Or.inl ⟨by rfl, ?_⟩) (by assumption) ?_
        rotate_left
        · intro w hSw; (try dsimp only at hSw); go_simp <;> first | with_reducible rfl | (rw [if_neg (by first | omega | (simp only [ByteArray.size_append] at *; omega))])
        simp only [Act.put, List.setIfInBounds_toArray, List.set_cons_zero, List.set_cons_succ]
        refine wpAnyH_ready (rs := [4]) (by kernel_rfl) (by simp) ?_
        refine AllReadyH.cons (o := { dst := some 34, op := Go.Op.call { callee := Go.Callee.value (Go.Operand.func 23), args := #[Go.Operand.tmp 32, Go.Operand.tmp 33], argTypes := #[30, 3] }, type := 4, pos := _, after := #[{ on := 2, ground := Go.Ground.data }, { on := 3, ground := Go.Ground.data }, { on := 1, ground := Go.Ground.chain }, { on := 1, ground := Go.Ground.guard }], guard := some (1, true) }) rfl (fun K hK => ?_) AllReadyH.nil
        go_simp
        refine (is_at _ _ HF.out.1 _ _ K1.out.SX K1.out.R K1.out.J).mono ?_
        rintro e v2 ⟨rfl, hb2⟩
        have K2 := hid (K1.out.keep hb2)
        go_wp2_with fail
        refine hK.out _ _ ?_ (fun hHeld2 => ?_)
        · exact K2.out.cells
        clear hK K
        clear hb2
        refine wpAnyH_take (i := 5) (oi := { dst := some 35, op := Go.Op.pick (Go.Operand.tmp 31) (Go.Operand.tmp 34) (Go.Operand.const (Go.Value.bool false)), type := 4, pos := _, after := #[{ on := 1, ground := Go.Ground.data }, { on := 4, ground := Go.Ground.data }], guard := none }) (v := ?_) rfl (by kernel_rfl) (by kernel_rfl) (by kernel_rfl) (fun _ _ _ h => h) (Or.inl ⟨by rfl, ?_⟩) (by assumption) ?_
        rotate_left
        · intro w hSw; (try dsimp only at hSw); go_simp <;> first | with_reducible rfl | (rw [if_neg (by first | omega | (simp only [ByteArray.size_append] at *; omega))])
        simp only [Act.put, List.setIfInBounds_toArray, List.set_cons_zero, List.set_cons_succ]
        refine wpAnyH_take (i := 6) (oi := { dst := some 36, op := Go.Op.move (Go.Operand.tmp 35), type := 4, pos := _, after := #[{ on := 5, ground := Go.Ground.data }, { on := 4, ground := Go.Ground.chain }], guard := none }) (v := ?_) rfl (by kernel_rfl) (by kernel_rfl) (by kernel_rfl) (fun _ _ _ h => h) (Or.inl ⟨by rfl, ?_⟩) (by assumption) ?_
        rotate_left
        · intro w hSw; (try dsimp only at hSw); go_simp <;> first | with_reducible rfl | (rw [if_neg (by first | omega | (simp only [ByteArray.size_append] at *; omega))])
        simp only [Act.put, List.setIfInBounds_toArray, List.set_cons_zero, List.set_cons_succ]
        refine wpAnyH_take (i := 8) (oi := { dst := some 38, op := Go.Op.load 30 (Go.Operand.tmp 4), type := 30, pos := _, after := #[{ on := 6, ground := Go.Ground.guard }], guard := some (6, true) }) (v := ?_) rfl (by kernel_rfl) (by kernel_rfl) (by kernel_rfl) (fun _ _ _ h => h) (Or.inl ⟨by rfl, ?_⟩) (by assumption) ?_
        rotate_left
        · intro w hSw; (try dsimp only at hSw); go_simp <;> first | with_reducible rfl | (rw [if_neg (by first | omega | (simp only [ByteArray.size_append] at *; omega))])
        simp only [Act.put, List.setIfInBounds_toArray, List.set_cons_zero, List.set_cons_succ]
        refine wpAnyH_take (i := 11) (oi := { dst := some 41, op := Go.Op.move (Go.Operand.tmp 7), type := 3, pos := _, after := #[{ on := 6, ground := Go.Ground.guard }], guard := some (6, true) }) (v := ?_) rfl (by kernel_rfl) (by kernel_rfl) (by kernel_rfl) (fun _ _ _ h => h) (Or.inl ⟨by rfl, ?_⟩) (by assumption) ?_
        rotate_left
        · intro w hSw; (try dsimp only at hSw); go_simp <;> first | with_reducible rfl | (rw [if_neg (by first | omega | (simp only [ByteArray.size_append] at *; omega))])
        simp only [Act.put, List.setIfInBounds_toArray, List.set_cons_zero, List.set_cons_succ]
        refine wpAnyH_ready (rs := [7]) (by kernel_rfl) (by simp) ?_
        refine AllReadyH.cons (o := { dst := some 37, op := Go.Op.call { callee := Go.Callee.value (Go.Operand.func 21), args := #[], argTypes := #[] }, type := 30, pos := _, after := #[{ on := 6, ground := Go.Ground.chain }, { on := 6, ground := Go.Ground.guard }], guard := some (6, true) }) rfl (fun K hK => ?_) AllReadyH.nil
        go_simp
        refine (nought_at _).mono ?_
        rintro e v3 ⟨rfl, hb3⟩
        have K3 := hid (K2.out.keep hb3)
        go_wp2_with fail
        refine hK.out _ _ ?_ (fun hHeld3 => ?_)
        · exact K3.out.cells
        clear hK K
        clear hb3
        refine wpAnyH_ready (rs := [9]) (by kernel_rfl) (by simp) ?_
        refine AllReadyH.cons (o := { dst := some 39, op := Go.Op.buildSlice 28 2 #[(0, Go.Operand.tmp 37), (1, Go.Operand.tmp 38)], type := 28, pos := _, after := #[{ on := 7, ground := Go.Ground.data }, { on := 8, ground := Go.Ground.data }, { on := 6, ground := Go.Ground.guard }], guard := some (6, true) }) rfl (fun K hK => ?_) AllReadyH.nil
        go_simp
        go_wp2_with fail
        have SX4 := hid (st2 v3 18 exO x _ _ (by decide) (stO _) K3.out.SX)
        have K4 := hid (K3.out.keep ((Below.refl _ _).alloc (Nat.le_refl _) (.cells #[.int .u8 1, .int .i64 0, .string ⟨#[]⟩, .slice none 0 0, .int .u8 (x.op : Int), .int .i64 x.n, .string x.name, .slice ra rn rc] 30)))
        refine hK.out _ _ ?_ (fun hHeld4 => ?_)
        · exact K4.out.cells
        clear hK K
        refine wpAnyH_ready (rs := [10]) (by kernel_rfl) (by simp) ?_
        refine AllReadyH.cons (o := { dst := some 40, op := Go.Op.call { callee := Go.Callee.value (Go.Operand.func 20), args := #[Go.Operand.const (Go.Value.int Go.IntKind.u8 18), Go.Operand.tmp 39], argTypes := #[27, 28] }, type := 30, pos := _, after := #[{ on := 9, ground := Go.Ground.data }, { on := 7, ground := Go.Ground.chain }, { on := 6, ground := Go.Ground.guard }], guard := some (6, true) }) rfl (fun K hK => ?_) AllReadyH.nil
        go_simp
        refine (of_pl 18 _ _ _ _).mono ?_
        rintro e v5 ⟨rfl, hb5⟩
        have K5 := hid (K4.out.keep hb5)
        have SY5 := hid (SX4.out.keep hb5)
        go_wp2_with fail
        refine hK.out _ _ ?_ (fun hHeld5 => ?_)
        · exact K5.out.cells
        clear hK K
        clear hb5
        refine wpAnyH_ready (rs := [12]) (by kernel_rfl) (by simp) ?_
        refine AllReadyH.cons (o := { dst := some 42, op := Go.Op.call { callee := Go.Callee.value (Go.Operand.func 23), args := #[Go.Operand.tmp 40, Go.Operand.tmp 41], argTypes := #[30, 3] }, type := 4, pos := _, after := #[{ on := 10, ground := Go.Ground.data }, { on := 11, ground := Go.Ground.data }, { on := 10, ground := Go.Ground.chain }, { on := 6, ground := Go.Ground.guard }], guard := some (6, true) }) rfl (fun K hK => ?_) AllReadyH.nil
        go_simp
        refine (is_at _ _ HF.out.2.1 _ _ SY5.out K5.out.R K5.out.J).mono ?_
        rintro e v6 ⟨rfl, hb6⟩
        have K6 := hid (K5.out.keep hb6)
        go_wp2_with fail
        refine hK.out _ _ ?_ (fun hHeld6 => ?_)
        · exact K6.out.cells
        clear hK K
        clear hb6
        refine wpAnyH_take (i := 13) (oi := { dst := some 43, op := Go.Op.pick (Go.Operand.tmp 36) (Go.Operand.tmp 42) (Go.Operand.const (Go.Value.bool false)), type := 4, pos := _, after := #[{ on := 6, ground := Go.Ground.data }, { on := 12, ground := Go.Ground.data }], guard := none }) (v := ?_) rfl (by kernel_rfl) (by kernel_rfl) (by kernel_rfl) (fun _ _ _ h => h) (Or.inl ⟨by rfl, ?_⟩) (by assumption) ?_
        rotate_left
        · intro w hSw; (try dsimp only at hSw); go_simp <;> first | with_reducible rfl | (rw [if_neg (by first | omega | (simp only [ByteArray.size_append] at *; omega))])
        simp only [Act.put, List.setIfInBounds_toArray, List.set_cons_zero, List.set_cons_succ]
        refine wpAnyH_take (i := 14) (oi := { dst := some 44, op := Go.Op.move (Go.Operand.tmp 43), type := 4, pos := _, after := #[{ on := 13, ground := Go.Ground.data }, { on := 12, ground := Go.Ground.chain }], guard := none }) (v := ?_) rfl (by kernel_rfl) (by kernel_rfl) (by kernel_rfl) (fun _ _ _ h => h) (Or.inl ⟨by rfl, ?_⟩) (by assumption) ?_
        rotate_left
        · intro w hSw; (try dsimp only at hSw); go_simp <;> first | with_reducible rfl | (rw [if_neg (by first | omega | (simp only [ByteArray.size_append] at *; omega))])
        simp only [Act.put, List.setIfInBounds_toArray, List.set_cons_zero, List.set_cons_succ]
        refine wpAnyH_take (i := 15) (oi := { dst := some 45, op := Go.Op.load 30 (Go.Operand.tmp 4), type := 30, pos := _, after := #[{ on := 14, ground := Go.Ground.guard }], guard := some (14, true) }) (v := ?_) rfl (by kernel_rfl) (by kernel_rfl) (by kernel_rfl) (fun _ _ _ h => h) (Or.inl ⟨by rfl, ?_⟩) (by assumption) ?_
        rotate_left
        · intro w hSw; (try dsimp only at hSw); go_simp <;> first | with_reducible rfl | (rw [if_neg (by first | omega | (simp only [ByteArray.size_append] at *; omega))])
        simp only [Act.put, List.setIfInBounds_toArray, List.set_cons_zero, List.set_cons_succ]
        refine wpAnyH_take (i := 16) (oi := { dst := some 46, op := Go.Op.load 30 (Go.Operand.tmp 5), type := 30, pos := _, after := #[{ on := 14, ground := Go.Ground.guard }], guard := some (14, true) }) (v := ?_) rfl (by kernel_rfl) (by kernel_rfl) (by kernel_rfl) (fun _ _ _ h => h) (Or.inl ⟨by rfl, ?_⟩) (by assumption) ?_
        rotate_left
        · intro w hSw; (try dsimp only at hSw); go_simp <;> first | with_reducible rfl | (rw [if_neg (by first | omega | (simp only [ByteArray.size_append] at *; omega))])
        simp only [Act.put, List.setIfInBounds_toArray, List.set_cons_zero, List.set_cons_succ]
        refine wpAnyH_take (i := 19) (oi := { dst := some 49, op := Go.Op.move (Go.Operand.tmp 3), type := 3, pos := _, after := #[{ on := 14, ground := Go.Ground.guard }], guard := some (14, true) }) (v := ?_) rfl (by kernel_rfl) (by kernel_rfl) (by kernel_rfl) (fun _ _ _ h => h) (Or.inl ⟨by rfl, ?_⟩) (by assumption) ?_
        rotate_left
        · intro w hSw; (try dsimp only at hSw); go_simp <;> first | with_reducible rfl | (rw [if_neg (by first | omega | (simp only [ByteArray.size_append] at *; omega))])
        simp only [Act.put, List.setIfInBounds_toArray, List.set_cons_zero, List.set_cons_succ]
        refine wpAnyH_ready (rs := [17]) (by kernel_rfl) (by simp) ?_
        refine AllReadyH.cons (o := { dst := some 47, op := Go.Op.buildSlice 28 2 #[(0, Go.Operand.tmp 45), (1, Go.Operand.tmp 46)], type := 28, pos := _, after := #[{ on := 15, ground := Go.Ground.data }, { on := 16, ground := Go.Ground.data }, { on := 14, ground := Go.Ground.guard }], guard := some (14, true) }) rfl (fun K hK => ?_) AllReadyH.nil
        go_simp
        go_wp2_with fail
        have SX7 := hid (st2 v6 6 x y _ _ (by decide) K6.out.SX K6.out.SY)
        have K7 := hid (K6.out.keep ((Below.refl _ _).alloc (Nat.le_refl _) (.cells #[.int .u8 (x.op : Int), .int .i64 x.n, .string x.name, .slice ra rn rc, .int .u8 (y.op : Int), .int .i64 y.n, .string y.name, .slice ea en ec] 30)))
        refine hK.out _ _ ?_ (fun hHeld7 => ?_)
        · exact K7.out.cells
        clear hK K
        refine wpAnyH_ready (rs := [18]) (by kernel_rfl) (by simp) ?_
        refine AllReadyH.cons (o := { dst := some 48, op := Go.Op.call { callee := Go.Callee.value (Go.Operand.func 20), args := #[Go.Operand.const (Go.Value.int Go.IntKind.u8 6), Go.Operand.tmp 47], argTypes := #[27, 28] }, type := 30, pos := _, after := #[{ on := 17, ground := Go.Ground.data }, { on := 14, ground := Go.Ground.chain }, { on := 14, ground := Go.Ground.guard }], guard := some (14, true) }) rfl (fun K hK => ?_) AllReadyH.nil
        go_simp
        refine (of_pl 6 _ _ _ _).mono ?_
        rintro e v8 ⟨rfl, hb8⟩
        have K8 := hid (K7.out.keep hb8)
        have SY8 := hid (SX7.out.keep hb8)
        go_wp2_with fail
        refine hK.out _ _ ?_ (fun hHeld8 => ?_)
        · exact K8.out.cells
        clear hK K
        clear hb8
        refine wpAnyH_ready (rs := [20]) (by kernel_rfl) (by simp) ?_
        refine AllReadyH.cons (o := { dst := some 50, op := Go.Op.call { callee := Go.Callee.value (Go.Operand.func 23), args := #[Go.Operand.tmp 48, Go.Operand.tmp 49], argTypes := #[30, 3] }, type := 4, pos := _, after := #[{ on := 18, ground := Go.Ground.data }, { on := 19, ground := Go.Ground.data }, { on := 18, ground := Go.Ground.chain }, { on := 14, ground := Go.Ground.guard }], guard := some (14, true) }) rfl (fun K hK => ?_) AllReadyH.nil
        go_simp
        refine (is_at _ _ HF.out.2.2.1 _ _ SY8.out K8.out.R K8.out.J).mono ?_
        rintro e v9 ⟨rfl, hb9⟩
        have K9 := hid (K8.out.keep hb9)
        go_wp2_with fail
        refine hK.out _ _ ?_ (fun hHeld9 => ?_)
        · exact K9.out.cells
        clear hK K
        clear hb9
        refine wpAnyH_take (i := 21) (oi := { dst := some 51, op := Go.Op.pick (Go.Operand.tmp 44) (Go.Operand.tmp 50) (Go.Operand.const (Go.Value.bool false)), type := 4, pos := _, after := #[{ on := 14, ground := Go.Ground.data }, { on := 20, ground := Go.Ground.data }], guard := none }) (v := ?_) rfl (by kernel_rfl) (by kernel_rfl) (by kernel_rfl) (fun _ _ _ h => h) (Or.inl ⟨by rfl, ?_⟩) (by assumption) ?_
        rotate_left
        · intro w hSw; (try dsimp only at hSw); go_simp <;> first | with_reducible rfl | (rw [if_neg (by first | omega | (simp only [ByteArray.size_append] at *; omega))])
        simp only [Act.put, List.setIfInBounds_toArray, List.set_cons_zero, List.set_cons_succ]
        refine wpAnyH_take (i := 22) (oi := { dst := some 52, op := Go.Op.move (Go.Operand.tmp 51), type := 4, pos := _, after := #[{ on := 21, ground := Go.Ground.data }, { on := 20, ground := Go.Ground.chain }], guard := none }) (v := ?_) rfl (by kernel_rfl) (by kernel_rfl) (by kernel_rfl) (fun _ _ _ h => h) (Or.inl ⟨by rfl, ?_⟩) (by assumption) ?_
        rotate_left
        · intro w hSw; (try dsimp only at hSw); go_simp <;> first | with_reducible rfl | (rw [if_neg (by first | omega | (simp only [ByteArray.size_append] at *; omega))])
        simp only [Act.put, List.setIfInBounds_toArray, List.set_cons_zero, List.set_cons_succ]
        refine wpAnyH_take (i := 23) (oi := { dst := some 53, op := Go.Op.load 30 (Go.Operand.tmp 5), type := 30, pos := _, after := #[{ on := 22, ground := Go.Ground.guard }], guard := some (22, true) }) (v := ?_) rfl (by kernel_rfl) (by kernel_rfl) (by kernel_rfl) (fun _ _ _ h => h) (Or.inl ⟨by rfl, ?_⟩) (by assumption) ?_
        rotate_left
        · intro w hSw; (try dsimp only at hSw); go_simp <;> first | with_reducible rfl | (rw [if_neg (by first | omega | (simp only [ByteArray.size_append] at *; omega))])
        simp only [Act.put, List.setIfInBounds_toArray, List.set_cons_zero, List.set_cons_succ]
        refine wpAnyH_ready (rs := [24]) (by kernel_rfl) (by simp) ?_
        refine AllReadyH.cons (o := { dst := some 54, op := Go.Op.call { callee := Go.Callee.value (Go.Operand.func 23), args := #[Go.Operand.tmp 53, Go.Operand.const (Go.Value.int Go.IntKind.i64 0)], argTypes := #[30, 3] }, type := 4, pos := _, after := #[{ on := 23, ground := Go.Ground.data }, { on := 22, ground := Go.Ground.chain }, { on := 22, ground := Go.Ground.guard }], guard := some (22, true) }) rfl (fun K hK => ?_) AllReadyH.nil
        go_simp
        refine (is_at _ _ HF.out.2.2.2 _ _ K9.out.SY K9.out.R K9.out.J).mono ?_
        rintro e v10 ⟨rfl, hb10⟩
        have K10 := hid (K9.out.keep hb10)
        go_wp2_with fail
        refine hK.out _ _ ?_ (fun hHeld10 => ?_)
        · exact K10.out.cells
        clear hK K
        clear hb10
        refine wpAnyH_take (i := 25) (oi := { dst := some 55, op := Go.Op.pick (Go.Operand.tmp 52) (Go.Operand.tmp 54) (Go.Operand.const (Go.Value.bool false)), type := 4, pos := _, after := #[{ on := 22, ground := Go.Ground.data }, { on := 24, ground := Go.Ground.data }], guard := none }) (v := ?_) rfl (by kernel_rfl) (by kernel_rfl) (by kernel_rfl) (fun _ _ _ h => h) (Or.inl ⟨by rfl, ?_⟩) (by assumption) ?_
        rotate_left
        · intro w hSw; (try dsimp only at hSw); go_simp <;> first | with_reducible rfl | (rw [if_neg (by first | omega | (simp only [ByteArray.size_append] at *; omega))])
        simp only [Act.put, List.setIfInBounds_toArray, List.set_cons_zero, List.set_cons_succ]
        refine wpAnyH_take (i := 26) (oi := { dst := some 2, op := Go.Op.assign (Go.Operand.tmp 55), type := 4, pos := _, after := #[{ on := 25, ground := Go.Ground.data }, { on := 24, ground := Go.Ground.chain }, { on := 0, ground := Go.Ground.phase }, { on := 1, ground := Go.Ground.phase }, { on := 2, ground := Go.Ground.phase }, { on := 3, ground := Go.Ground.phase }, { on := 4, ground := Go.Ground.phase }, { on := 5, ground := Go.Ground.phase }, { on := 6, ground := Go.Ground.phase }, { on := 7, ground := Go.Ground.phase }, { on := 8, ground := Go.Ground.phase }, { on := 9, ground := Go.Ground.phase }, { on := 10, ground := Go.Ground.phase }, { on := 11, ground := Go.Ground.phase }, { on := 12, ground := Go.Ground.phase }, { on := 13, ground := Go.Ground.phase }, { on := 14, ground := Go.Ground.phase }, { on := 15, ground := Go.Ground.phase }, { on := 16, ground := Go.Ground.phase }, { on := 17, ground := Go.Ground.phase }, { on := 18, ground := Go.Ground.phase }, { on := 19, ground := Go.Ground.phase }, { on := 20, ground := Go.Ground.phase }, { on := 21, ground := Go.Ground.phase }, { on := 22, ground := Go.Ground.phase }, { on := 23, ground := Go.Ground.phase }, { on := 24, ground := Go.Ground.phase }, { on := 25, ground := Go.Ground.phase }], guard := none }) (v := ?_) rfl (by kernel_rfl) (by kernel_rfl) (by kernel_rfl) (fun _ _ _ h => h) (Or.inl ⟨by rfl, ?_⟩) (by assumption) ?_
        rotate_left
        · intro w hSw; (try dsimp only at hSw); go_simp <;> first | with_reducible rfl | (rw [if_neg (by first | omega | (simp only [ByteArray.size_append] at *; omega))])
        simp only [Act.put, List.setIfInBounds_toArray, List.set_cons_zero, List.set_cons_succ]
        refine wpAnyH_done (by kernel_rfl) ?_ _
        have hB := K10.out.below
        go_wp2_with (fail)
        go_ret
        exact ⟨rfl, hB⟩
end Go.Proofs.YtejacmgppnafcaaDoor.Lex
