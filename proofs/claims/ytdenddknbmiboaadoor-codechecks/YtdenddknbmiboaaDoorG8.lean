/-
  How a station keeps what it has, or needs: place.
  Instructions: what is on the pile behind them, by definition.
  What operators leave: the contracts of the rules' functions.
  The map of operators: made, and looked into.
  The map of operators is made: operators.
  What a station sends, needs, keeps: Sends, Needs, Places.
-/
import Derived.Test.YtdenddknbmiboaaDoorG7
import Derived.Test.YtdenddknbmiboaaDoorG5
import Derived.Maps.Keyed
namespace Go.Proofs.YtdenddknbmiboaaDoor.Lex
open Go.ChangeShapes Go.WideShapes Go.ChangeAt Go.RowKit Go.Joins
/-- What is kept. -/
structure Plc where
  name : ByteArray
  ty : Nat
  keep : Int
  far : Bool
  frm : Int
  df : Int
abbrev plcC (x : Plc) : List Value := [.string x.name, .int .u8 (x.ty : Int), .int .i64 x.keep, .bool x.far, .int .i64 x.frm, .int .i64 x.df]
abbrev plcV (x : Plc) : Value := .agg #[.string x.name, .int .u8 (x.ty : Int), .int .i64 x.keep, .bool x.far, .int .i64 x.frm, .int .i64 x.df]
/-- The rounds until its value is here. -/
def sinF (l : List Int) (o : Option (Int × Hd)) (s : Int) : Int := (if 0 ≤ plO o then lateAt l (plO o) else 0) + (if stO o = s then 0 else 1)
/-- What stands for it. -/
def insF (p : Pg) (o : Option (Int × Hd)) : Int := if 0 ≤ plO o then ((p.flows[(plO o).toNat]?).map (·.df)).getD 0 else 0
/-- How a station keeps it. -/
def plcF (p : Pg) (l : List Int) (s : Int) (nm : ByteArray) : Plc :=
  let o := findT (thingsL p) nm
  ⟨nm, tyO o, oldF l s (sinF l o s) (akOf (akAll p) nm), !(stO o == s), if stO o = s then 0 else stO o, if stO o = s then 0 else insF p o⟩
abbrev plc0 : Array Value := #[.string ⟨#[]⟩, .int .u8 0, .int .i64 0, .bool false, .int .i64 0, .int .i64 0]
theorem info42 : (Tryd.prog.info? 55).map (·.size) = some 6 := by kernel_rfl
theorem findT_pl {p : Pg} {nm : ByteArray} {x : Int × Hd} (h : findT (thingsL p) nm = some x) : x.1 < (p.flows.length : Int) := by
  obtain ⟨hm, _⟩ := findT_mem h
  rcases List.mem_append.1 hm with hm | hm
  · obtain ⟨y, _, rfl⟩ := List.mem_map.1 hm
    show (-1 : Int) < _
    omega
  · obtain ⟨i, hi, rfl⟩ := List.mem_map.1 hm
    have := List.mem_range.1 hi
    show (i : Int) < _
    omega
theorem ak_fl {p : Pg} (nm : ByteArray) : ∀ y ∈ akOf (akAll p) nm, y.fl < p.flows.length ∧ y.ago ≤ 1000000 := by
  intro y hy
  obtain ⟨x, hx, rfl⟩ := List.mem_map.1 hy
  have hx := (List.mem_filter.1 hx).1
  obtain ⟨k, hk, hx⟩ := List.mem_flatMap.1 hx
  have hk := List.mem_range.1 hk
  rw [akL_at hk] at hx
  obtain ⟨r, hr, rfl⟩ := List.mem_map.1 hx
  refine ⟨hk, ?_⟩
  have := gat_ago 32 p.flows[k].body 0 [] 32 (by omega) (by simp) r hr
  show r.2 ≤ 1000000
  omega
/-- While a place is made: the cut in its variable, the result's, the place's. -/
structure PlI (w : World) (cs : Array Value) (pb : Nat) (pl : Array Value) (W : World) : Prop where
  cut : CutAt W w.heap.size cs
  res : W.heap[w.heap.size + 1]? = some (.cells plc0 55 (0, 0))
  row : W.heap[pb]? = some (.cells pl 55 (0, 0))
  ne : w.heap.size + 1 < pb
  below : Below w.heap.size w W
theorem PlI.keep {w W W' : World} {cs pl : Array Value} {pb : Nat} (h : PlI w cs pb pl W) (hb : Below W.heap.size W W') : PlI w cs pb pl W' := ⟨h.cut.keep hb, keep_row h.res hb, keep_row h.row hb, h.ne, h.below.trans (hb.mono h.below.size)⟩
theorem PlI.set {w W : World} {cs pl : Array Value} {pb : Nat} (h : PlI w cs pb pl W) (i : Nat) (v : Value) : PlI w cs pb (pl.setIfInBounds i v) (W.setCell ⟨pb, i, none⟩ v) := by
  have hne := h.ne
  refine ⟨(Below.heap_setCell _ _ _ _ (by simp; omega)).trans h.cut, (Below.heap_setCell _ _ _ _ (by simp; omega)).trans h.res, ?_, hne, h.below.setCell (p := ⟨pb, i, none⟩) (by simp; omega) _⟩
  rw [setCell_eq_setRow W pb i pl 55 (0, 0) v h.row]
  exact setRow_heap _ _ _ _ _ _ h.row
set_option maxRecDepth 100000 in
set_option maxHeartbeats 4000000 in
theorem place_ (p : Pg) (s : Int) (mb : Nat) (nm : ByteArray) (hN : NmK nm) (l : List Int) (lv : Value) (w : World) (A B C : Value) (x : Int × Hd) (hx : findT (thingsL p) nm = some x) (hP : PgAt w p A B C) (hE : nmErr p = 0) (hA : AMr w mb (akAll p)) (hI : IAt w l lv) (hF : Fine l) (hl : l.length = p.flows.length) :
    Calls Tryd.prog 31 #[cutV p A B C s mb, .string nm, lv] w fun e w' => e = .returned (plcV (plcF p l s nm)) ∧ Below w.heap.size w w' := by
  have HP := hid hP
  have HA := hid hA
  have HE := hid hE
  have HI := hid hI
  have HF := hid hF.mild
  have HFI := hid hF
  have HNK := hid hN
  have HL := hid hl
  have HAK : Hid (∀ y ∈ akOf (akAll p) nm, y.fl < l.length ∧ y.ago ≤ 1000000) := hid (by rw [hl]; exact ak_fl nm)
  obtain ⟨A0, A1, rfl, _⟩ := hP.ins
  obtain ⟨B0, B1, sl, rfl, _, _, _, hfc, _⟩ := hP.flows
  obtain ⟨C0, C1, rfl, _⟩ := hP.outs
  have HFC := hid hfc
  obtain ⟨la, lc, rfl, _⟩ := hI
  have HML : Hid ((akAll p).length ≤ 1000000) := hid (by have h1 := akN_len (nm_chk hE) p.flows.length (Nat.le_refl _); have h2 := pgOk_few hE; unfold akAll; omega)
  have X0 : Hid (CutAt ((w.alloc (.cells (cutC p (.slice A0 p.ins.length A1) (.slice B0 p.flows.length B1) (.slice C0 p.outs.length C1) s mb) 79)).alloc (.cells plc0 55)) w.heap.size (cutC p (.slice A0 p.ins.length A1) (.slice B0 p.flows.length B1) (.slice C0 p.outs.length C1) s mb)) := hid (push_old (heap_alloc_new _ _))
  have Y0 : Hid (((w.alloc (.cells (cutC p (.slice A0 p.ins.length A1) (.slice B0 p.flows.length B1) (.slice C0 p.outs.length C1) s mb) 79)).alloc (.cells plc0 55)).heap[w.heap.size + 1]? = some (.cells plc0 55 (0, 0))) := hid (by
    have h := heap_alloc_new (w.alloc (.cells (cutC p (.slice A0 p.ins.length A1) (.slice B0 p.flows.length B1) (.slice C0 p.outs.length C1) s mb) 79)) (.cells plc0 55)
    rwa [World.size_alloc] at h)
  have hb0 : Below w.heap.size w ((w.alloc (.cells (cutC p (.slice A0 p.ins.length A1) (.slice B0 p.flows.length B1) (.slice C0 p.outs.length C1) s mb) 79)).alloc (.cells plc0 55)) := ((Below.refl _ w).alloc (Nat.le_refl _) _).alloc (by simp) _
  have HB0 := hid hb0
  obtain ⟨r0, r1, r2, r3, _, _⟩ := X0.out.cells
  have cF := (callsIn_wide (n := 20)).1 (find_in Fence.wide 20 trivial trivial trivial rfl (by omega) p nm _ _ _ _ (HP.out.keep hb0))
  rw [hx, foV_eq (some x)] at cF
  have HPL := hid (findT_pl hx)
  have HPV : Hid (plcF p l s nm = ⟨nm, x.2.ty, oldF l s (sinF l (some x) s) (akOf (akAll p) nm), !(x.2.st == s), if x.2.st = s then 0 else x.2.st, if x.2.st = s then 0 else insF p (some x)⟩) := hid (by unfold plcF; rw [hx]; rfl)
  obtain ⟨R, hR⟩ : ∃ R, R = plcF p l s nm := ⟨_, rfl⟩
  rw [← hR]
  have HSB : Hid (-1000000 ≤ sinF l (some x) s ∧ sinF l (some x) s ≤ 1000000) := hid (by
    have := hF.at x.1
    unfold sinF plO
    dsimp only
    split <;> split <;> omega)
  have hsin : sinF l (some x) s = (if 0 ≤ x.1 then lateAt l x.1 else 0) + (if x.2.st = s then 0 else 1) := rfl
  have hins : insF p (some x) = if 0 ≤ x.1 then ((p.flows[x.1.toNat]?).map (·.df)).getD 0 else 0 := rfl
  clear hP hA hE hF hN hl hfc hb0 hx
  have HPR := hid (hR.trans HPV.out)
  clear hR HPV
  obtain ⟨fl, hd⟩ := x
  obtain ⟨xn, T, st⟩ := hd
  dsimp only [stO, tyO, plO, Option.isSome] at cF hsin hins HPL HPR ⊢
  generalize sinF l (some (fl, ⟨xn, T, st⟩)) s = SIN at *
  generalize insF p (some (fl, ⟨xn, T, st⟩)) = INS at *
  go_enter Tryd.func31, Tryd.ntmps31
  go_wp2_with (fail)
  refine cF.mono ?_
  rintro e w2 ⟨rfl, hb2⟩
  have X2 := hid (X0.out.keep hb2)
  have Y2 := hid (keep_row Y0.out hb2)
  have B2 := hid (HB0.out.trans (hb2.mono HB0.out.size))
  clear hb2 cF r0 r1 r2 r3
  go_wp2_with (fail)
  refine (clone_ nm _ (by have := HNK.out.1; omega)).mono ?_
  rintro e w3 ⟨rfl, hb3⟩
  have hal := (Below.refl w3.heap.size w3).alloc (Nat.le_refl _) (.cells #[.string nm, .int .u8 (T : Int), .int .i64 0, .bool false, .int .i64 0, .int .i64 0] 55)
  have hb4 := hb3.trans (hal.mono hb3.size)
  have P4 : Hid (PlI w (cutC p (.slice A0 p.ins.length A1) (.slice B0 p.flows.length B1) (.slice C0 p.outs.length C1) s mb) w3.heap.size #[.string nm, .int .u8 (T : Int), .int .i64 0, .bool false, .int .i64 0, .int .i64 0] (w3.alloc (.cells #[.string nm, .int .u8 (T : Int), .int .i64 0, .bool false, .int .i64 0, .int .i64 0] 55))) := hid ⟨X2.out.keep hb4, keep_row Y2.out hb4, heap_alloc_new w3 _, by have := (Array.getElem?_eq_some_iff.1 Y2.out).1; have := hb3.size; omega, B2.out.trans (hb4.mono B2.out.size)⟩
  have hP4 := P4.out
  obtain ⟨W4, hW4⟩ : ∃ W4, w3.alloc (.cells #[.string nm, .int .u8 (T : Int), .int .i64 0, .bool false, .int .i64 0, .int .i64 0] 55) = W4 := ⟨_, rfl⟩
  rw [hW4] at hP4
  have HW4 := hid hW4
  clear P4
  have P4 := hid hP4
  obtain ⟨pb, hpb⟩ : ∃ pb, pb = w3.heap.size := ⟨_, rfl⟩
  rw [← hpb] at P4
  have HPB := hid hpb
  clear hb3 hal hb4 X2 Y2 B2 hP4 hW4 hpb
  by_cases hfl : 0 ≤ fl
  · obtain ⟨f, hf⟩ : ∃ f : Nat, fl = (f : Int) := ⟨fl.toNat, by omega⟩
    have hfl' : decide (fl ≥ 0) = true := by simpa using hfl
    have hfn : f < p.flows.length := by have := HPL.out; omega
    obtain ⟨fb, fo, rfl, hcc⟩ := HFC.out.resolve_left (by omega)
    obtain ⟨_, _, _, v3, _⟩ := (hcc f hfn).keep P4.out.below
    obtain ⟨lb, lo, rfl, hlcell⟩ := (HI.out.keep P4.out.below).row_some (by have := HL.out; omega)
    have hl3 := hlcell f (by rw [HL.out]; exact hfn)
    have hLA := lateAt_nat l f (by rw [HL.out]; exact hfn)
    have hin2 : INS = p.flows[f].df := by rw [hins, if_pos hfl, hf]; simp [hfn]
    rw [if_pos hfl, hf, hLA] at hsin
    have HLF := hid (HFI.out _ (List.getElem_mem (show f < l.length by rw [HL.out]; exact hfn)))
    clear hins hcc hlcell hLA hfl
    subst hf
    have hf0 : (0 : Int) ≤ (f : Int) := by omega
    have hf1 : (f : Int) < (p.flows.length : Int) := by omega
    have hf2 : (f : Int) < (l.length : Int) := by have := HL.out; omega
    rw [← hin2] at v3
    clear hin2
    generalize l[f] = lf at *
    go_wp2_with (rw [HW4.out])
    rw [← HPB.out]
    obtain ⟨q0, q1, q2, q3, q4, q5⟩ := P4.out.cut.cells
    have m2 := q2
    have m3 := hl3
    have m4 := v3
    clear q0 q1 q2 q3 q4 q5
    refine wp_region_held_drew (S := fun V => V.cell? ⟨w.heap.size, 2, none⟩ = some (.slice (some ⟨fb, fo, none⟩) p.flows.length B1) ∧ V.cell? ⟨lb, lo + f, none⟩ = some (.int .i64 lf) ∧ V.cell? ⟨fb, fo + f * 8 + 3, none⟩ = some (.int .i64 INS)) (by kernel_rfl) ?_ (fun hHeld => ?_)
    · exact ⟨m2, m3, m4⟩
    refine wpAnyH_take (i := 0) (oi := { dst := some 29, op := Go.Op.move (Go.Operand.tmp 2), type := 48, pos := _, after := #[], guard := none }) (v := ?_) rfl (by kernel_rfl) (by kernel_rfl) (by kernel_rfl) (fun _ _ _ h => h) (Or.inl ⟨by rfl, ?_⟩) (by assumption) ?_
    rotate_left
    · intro w hSw; (try dsimp only at hSw); go_simp <;> first | with_reducible rfl | (rw [if_neg (by first | omega | (simp only [ByteArray.size_append] at *; omega))])
    simp only [Act.put, List.setIfInBounds_toArray, List.set_cons_zero, List.set_cons_succ]
    refine wpAnyH_take (i := 1) (oi := { dst := some 30, op := Go.Op.move (Go.Operand.tmp 9), type := 3, pos := _, after := #[], guard := none }) (v := ?_) rfl (by kernel_rfl) (by kernel_rfl) (by kernel_rfl) (fun _ _ _ h => h) (Or.inl ⟨by rfl, ?_⟩) (by assumption) ?_
    rotate_left
    · intro w hSw; (try dsimp only at hSw); go_simp <;> first | with_reducible rfl | (rw [if_neg (by first | omega | (simp only [ByteArray.size_append] at *; omega))])
    simp only [Act.put, List.setIfInBounds_toArray, List.set_cons_zero, List.set_cons_succ]
    refine wpAnyH_take (i := 2) (oi := { dst := some 31, op := Go.Op.indexAddr 48 (Go.Operand.tmp 29) (Go.Operand.tmp 30), type := 0, pos := _, after := #[{ on := 0, ground := Go.Ground.data }, { on := 1, ground := Go.Ground.data }], guard := none }) (v := ?_) rfl (by kernel_rfl) (by kernel_rfl) (by kernel_rfl) (fun _ _ _ h => h) (Or.inl ⟨by rfl, ?_⟩) (by assumption) ?_
    rotate_left
    · intro w hSw; (try dsimp only at hSw); go_simp <;> first | with_reducible rfl | (rw [if_neg (by first | omega | (simp only [ByteArray.size_append] at *; omega))])
    simp only [Act.put, List.setIfInBounds_toArray, List.set_cons_zero, List.set_cons_succ]
    refine wpAnyH_take (i := 3) (oi := { dst := some 32, op := Go.Op.load 3 (Go.Operand.tmp 31), type := 3, pos := _, after := #[{ on := 2, ground := Go.Ground.data }], guard := none }) (v := ?_) rfl (by kernel_rfl) (by kernel_rfl) (by kernel_rfl) (fun _ _ _ h => h) (Or.inl ⟨by rfl, ?_⟩) (by assumption) ?_
    rotate_left
    · intro w hSw; (try dsimp only at hSw); go_simp <;> first | with_reducible rfl | (rw [if_neg (by first | omega | (simp only [ByteArray.size_append] at *; omega))])
    simp only [Act.put, List.setIfInBounds_toArray, List.set_cons_zero, List.set_cons_succ]
    refine wpAnyH_take (i := 4) (oi := { dst := some 33, op := Go.Op.fieldAddr 79 (Go.Operand.tmp 3) 0, type := 0, pos := _, after := #[{ on := 11, ground := Go.Ground.gcOnly Go.Departure.lateStores }], guard := none }) (v := ?_) rfl (by kernel_rfl) (by kernel_rfl) (by kernel_rfl) (fun _ _ _ h => h) (Or.inl ⟨by rfl, ?_⟩) (by assumption) ?_
    rotate_left
    · intro w hSw; (try dsimp only at hSw); go_simp <;> first | with_reducible rfl | (rw [if_neg (by first | omega | (simp only [ByteArray.size_append] at *; omega))])
    simp only [Act.put, List.setIfInBounds_toArray, List.set_cons_zero, List.set_cons_succ]
    refine wpAnyH_take (i := 5) (oi := { dst := some 34, op := Go.Op.fieldAddr 46 (Go.Operand.tmp 33) 2, type := 0, pos := _, after := #[{ on := 4, ground := Go.Ground.data }, { on := 11, ground := Go.Ground.gcOnly Go.Departure.lateStores }], guard := none }) (v := ?_) rfl (by kernel_rfl) (by kernel_rfl) (by kernel_rfl) (fun _ _ _ h => h) (Or.inl ⟨by rfl, ?_⟩) (by assumption) ?_
    rotate_left
    · intro w hSw; (try dsimp only at hSw); go_simp <;> first | with_reducible rfl | (rw [if_neg (by first | omega | (simp only [ByteArray.size_append] at *; omega))])
    simp only [Act.put, List.setIfInBounds_toArray, List.set_cons_zero, List.set_cons_succ]
    refine wpAnyH_take (i := 6) (oi := { dst := some 35, op := Go.Op.load 43 (Go.Operand.tmp 34), type := 43, pos := _, after := #[{ on := 5, ground := Go.Ground.data }, { on := 11, ground := Go.Ground.gcOnly Go.Departure.lateStores }], guard := none }) (v := ?_) rfl (by kernel_rfl) (by kernel_rfl) (by kernel_rfl) (fun _ _ _ h => h) (Or.inl ⟨by rfl, ?_⟩) (by assumption) ?_
    rotate_left
    · intro w hSw; (try dsimp only at hSw); go_simp <;> first | with_reducible rfl | (rw [if_neg (by first | omega | (simp only [ByteArray.size_append] at *; omega))])
    simp only [Act.put, List.setIfInBounds_toArray, List.set_cons_zero, List.set_cons_succ]
    refine wpAnyH_take (i := 7) (oi := { dst := some 36, op := Go.Op.move (Go.Operand.tmp 9), type := 3, pos := _, after := #[{ on := 11, ground := Go.Ground.gcOnly Go.Departure.lateStores }], guard := none }) (v := ?_) rfl (by kernel_rfl) (by kernel_rfl) (by kernel_rfl) (fun _ _ _ h => h) (Or.inl ⟨by rfl, ?_⟩) (by assumption) ?_
    rotate_left
    · intro w hSw; (try dsimp only at hSw); go_simp <;> first | with_reducible rfl | (rw [if_neg (by first | omega | (simp only [ByteArray.size_append] at *; omega))])
    simp only [Act.put, List.setIfInBounds_toArray, List.set_cons_zero, List.set_cons_succ]
    refine wpAnyH_take (i := 8) (oi := { dst := some 37, op := Go.Op.indexAddr 43 (Go.Operand.tmp 35) (Go.Operand.tmp 36), type := 0, pos := _, after := #[{ on := 6, ground := Go.Ground.data }, { on := 7, ground := Go.Ground.data }, { on := 11, ground := Go.Ground.gcOnly Go.Departure.lateStores }], guard := none }) (v := ?_) rfl (by kernel_rfl) (by kernel_rfl) (by kernel_rfl) (fun _ _ _ h => h) (Or.inl ⟨by rfl, ?_⟩) (by assumption) ?_
    rotate_left
    · intro w hSw; (try dsimp only at hSw); go_simp <;> first | with_reducible rfl | (rw [if_neg (by first | omega | (simp only [ByteArray.size_append] at *; omega))])
    simp only [Act.put, List.setIfInBounds_toArray, List.set_cons_zero, List.set_cons_succ]
    refine wpAnyH_take (i := 9) (oi := { dst := some 38, op := Go.Op.fieldAddr 76 (Go.Operand.tmp 37) 3, type := 0, pos := _, after := #[{ on := 8, ground := Go.Ground.data }, { on := 11, ground := Go.Ground.gcOnly Go.Departure.lateStores }], guard := none }) (v := ?_) rfl (by kernel_rfl) (by kernel_rfl) (by kernel_rfl) (fun _ _ _ h => h) (Or.inl ⟨by rfl, ?_⟩) (by assumption) ?_
    rotate_left
    · intro w hSw; (try dsimp only at hSw); go_simp <;> first | with_reducible rfl | (rw [if_neg (by first | omega | (simp only [ByteArray.size_append] at *; omega))])
    simp only [Act.put, List.setIfInBounds_toArray, List.set_cons_zero, List.set_cons_succ]
    refine wpAnyH_take (i := 10) (oi := { dst := some 39, op := Go.Op.load 2 (Go.Operand.tmp 38), type := 2, pos := _, after := #[{ on := 9, ground := Go.Ground.data }, { on := 11, ground := Go.Ground.gcOnly Go.Departure.lateStores }], guard := none }) (v := ?_) rfl (by kernel_rfl) (by kernel_rfl) (by kernel_rfl) (fun _ _ _ h => h) (Or.inl ⟨by rfl, ?_⟩) (by assumption) ?_
    rotate_left
    · intro w hSw; (try dsimp only at hSw); go_simp <;> first | with_reducible rfl | (rw [if_neg (by first | omega | (simp only [ByteArray.size_append] at *; omega))])
    simp only [Act.put, List.setIfInBounds_toArray, List.set_cons_zero, List.set_cons_succ]
    refine wpAnyH_take (i := 11) (oi := { dst := some 12, op := Go.Op.assign (Go.Operand.tmp 32), type := 3, pos := _, after := #[{ on := 3, ground := Go.Ground.data }, { on := 0, ground := Go.Ground.phase }, { on := 1, ground := Go.Ground.phase }, { on := 2, ground := Go.Ground.phase }, { on := 3, ground := Go.Ground.phase }, { on := 4, ground := Go.Ground.textOnly Go.Departure.lateStores }, { on := 5, ground := Go.Ground.textOnly Go.Departure.lateStores }, { on := 6, ground := Go.Ground.textOnly Go.Departure.lateStores }, { on := 7, ground := Go.Ground.textOnly Go.Departure.lateStores }, { on := 8, ground := Go.Ground.textOnly Go.Departure.lateStores }, { on := 9, ground := Go.Ground.textOnly Go.Departure.lateStores }, { on := 10, ground := Go.Ground.textOnly Go.Departure.lateStores }], guard := none }) (v := ?_) rfl (by kernel_rfl) (by kernel_rfl) (by kernel_rfl) (fun _ _ _ h => h) (Or.inl ⟨by rfl, ?_⟩) (by assumption) ?_
    rotate_left
    · intro w hSw; (try dsimp only at hSw); go_simp <;> first | with_reducible rfl | (rw [if_neg (by first | omega | (simp only [ByteArray.size_append] at *; omega))])
    simp only [Act.put, List.setIfInBounds_toArray, List.set_cons_zero, List.set_cons_succ]
    refine wpAnyH_take (i := 12) (oi := { dst := some 13, op := Go.Op.assign (Go.Operand.tmp 39), type := 2, pos := _, after := #[{ on := 10, ground := Go.Ground.data }, { on := 11, ground := Go.Ground.chain }, { on := 0, ground := Go.Ground.phase }, { on := 1, ground := Go.Ground.phase }, { on := 2, ground := Go.Ground.phase }, { on := 3, ground := Go.Ground.phase }, { on := 4, ground := Go.Ground.phase }, { on := 5, ground := Go.Ground.phase }, { on := 6, ground := Go.Ground.phase }, { on := 7, ground := Go.Ground.phase }, { on := 8, ground := Go.Ground.phase }, { on := 9, ground := Go.Ground.phase }, { on := 10, ground := Go.Ground.phase }, { on := 11, ground := Go.Ground.phase }], guard := none }) (v := ?_) rfl (by kernel_rfl) (by kernel_rfl) (by kernel_rfl) (fun _ _ _ h => h) (Or.inl ⟨by rfl, ?_⟩) (by assumption) ?_
    rotate_left
    · intro w hSw; (try dsimp only at hSw); go_simp <;> first | with_reducible rfl | (rw [if_neg (by first | omega | (simp only [ByteArray.size_append] at *; omega))])
    simp only [Act.put, List.setIfInBounds_toArray, List.set_cons_zero, List.set_cons_succ]
    refine wpAnyH_done (by kernel_rfl) ?_ _
    clear m2 m3 m4 hl3 v3
    have P4d := hid (P4.out.keep (Below.refl _ _).drew)
    clear P4
    generalize W4.drew = WD at *
    have P4 := P4d
    clear P4d
    by_cases hst : st = s
    · rw [if_pos hst, Int.add_zero] at hsin
      subst hsin
      have HR : Hid (R = ⟨nm, T, oldF l s SIN (akOf (akAll p) nm), false, 0, 0⟩) := hid (by rw [HPR.out, if_pos hst, if_pos hst, show (st == s) = true by simpa using hst]; rfl)
      have hd : (st != s) = false := by simpa using hst
      obtain ⟨q0, q1, q2, q3, q4, q5⟩ := P4.out.cut.cells
      have P5 := P4
      clear hst
      have c52 := oldest_ p (.slice A0 p.ins.length A1) (.slice (some ⟨fb, fo, none⟩) p.flows.length B1) (.slice C0 p.outs.length C1) s SIN mb (akAll p) HML.out nm HNK.out l _ WD (HA.out.keep P5.out.below) (HI.out.keep P5.out.below) HF.out (by have := HSB.out; omega) HAK.out
      go_wp2_with (fail)
      refine c52.mono ?_
      rintro e w6 ⟨rfl, hb6⟩
      have P6 := hid (P5.out.keep hb6)
      generalize oldF l s SIN (akOf (akAll p) nm) = KP at *
      have g2 : w6.cell? ⟨pb, 2, none⟩ = some (.int .i64 0) := (cell_of_row _ _ _ _ 55 (0, 0) P6.out.row).trans rfl
      have h2 : w6.frozen? ⟨pb, 2, none⟩ = false := frozen_of_row _ _ _ _ _ P6.out.row
      have P7a := P6.out.set 2 (.int .i64 KP)
      simp only [List.setIfInBounds_toArray, List.set_cons_zero, List.set_cons_succ] at P7a
      have P7 := hid P7a
      clear P7a hb6 c52 P5 P6
      go_wp2_with (first
        | (refine wpList_load_row rfl 55 _ rfl pb rfl 55 #[.string nm, .int .u8 (T : Int), .int .i64 KP, .bool false, .int .i64 0, .int .i64 0] (0, 0) _ P7.out.row Tryd.underlying55 rfl info42 ?_)
        | (refine wpList_store_row rfl 55 _ _ rfl (w.heap.size + 1) #[.string nm, .int .u8 (T : Int), .int .i64 KP, .bool false, .int .i64 0, .int .i64 0] rfl rfl 55 _ P7.out.res info42 rfl (by simp [Value.oneCell']) ?_))
      refine bodyPost_ret (results_cell_row rfl _ _ (w.heap.size + 1) 55 #[.string nm, .int .u8 (T : Int), .int .i64 KP, .bool false, .int .i64 0, .int .i64 0] (0, 0) _ rfl (setRow_heap _ _ _ _ _ _ P7.out.res) Tryd.underlying55 rfl info42) rfl ⟨?_, below_row P7.out.below P7.out.below.size (by omega) _⟩
      rw [HR.out]
    · rw [if_neg hst] at hsin
      have hlf := HLF.out
      have hw : IntKind.i64.wrap (lf + 1) = SIN := by rw [hsin, IntKind.wrap_i64]; omega
      have hw6 : wrap64 (lf + 1) = SIN := by rw [hsin]; unfold wrap64; omega
      have HSIN := hid hsin
      clear hsin
      have HR : Hid (R = ⟨nm, T, oldF l s SIN (akOf (akAll p) nm), true, st, INS⟩) := hid (by rw [HPR.out, if_neg hst, if_neg hst, show (st == s) = false by simpa using hst]; rfl)
      have hd : (st != s) = true := by simpa using hst
      obtain ⟨q0, q1, q2, q3, q4, q5⟩ := P4.out.cut.cells
      have e3 : WD.cell? ⟨pb, 3, none⟩ = some (.bool false) := (cell_of_row _ _ _ _ 55 (0, 0) P4.out.row).trans rfl
      have e4 : WD.cell? ⟨pb, 4, none⟩ = some (.int .i64 0) := (cell_of_row _ _ _ _ 55 (0, 0) P4.out.row).trans rfl
      have e5 : WD.cell? ⟨pb, 5, none⟩ = some (.int .i64 0) := (cell_of_row _ _ _ _ 55 (0, 0) P4.out.row).trans rfl
      have f3 : WD.frozen? ⟨pb, 3, none⟩ = false := frozen_of_row _ _ _ _ _ P4.out.row
      have f4 : WD.frozen? ⟨pb, 4, none⟩ = false := frozen_of_row _ _ _ _ _ P4.out.row
      have f5 : WD.frozen? ⟨pb, 5, none⟩ = false := frozen_of_row _ _ _ _ _ P4.out.row
      have P5a := (((P4.out.set 3 (.bool true)).set 4 (.int .i64 st)).set 5 (.int .i64 INS))
      simp only [List.setIfInBounds_toArray, List.set_cons_zero, List.set_cons_succ] at P5a
      obtain ⟨W5, hW5⟩ : ∃ W5, (((WD.setCell ⟨pb, 3, none⟩ (.bool true)).setCell ⟨pb, 4, none⟩ (.int .i64 st)).setCell ⟨pb, 5, none⟩ (.int .i64 INS)) = W5 := ⟨_, rfl⟩
      rw [hW5] at P5a
      have P5 := hid P5a
      have HW5 := hid hW5
      clear P5a hW5 P4 hst
      obtain ⟨y0, y1, y2, y3, y4, y5⟩ := P5.out.cut.cells
      have c52 := oldest_ p (.slice A0 p.ins.length A1) (.slice (some ⟨fb, fo, none⟩) p.flows.length B1) (.slice C0 p.outs.length C1) s SIN mb (akAll p) HML.out nm HNK.out l _ W5 (HA.out.keep P5.out.below) (HI.out.keep P5.out.below) HF.out (by have := HSB.out; omega) HAK.out
      go_wp2_with (rw [HW5.out])
      refine c52.mono ?_
      rintro e w6 ⟨rfl, hb6⟩
      have P6 := hid (P5.out.keep hb6)
      generalize oldF l s SIN (akOf (akAll p) nm) = KP at *
      have g2 : w6.cell? ⟨pb, 2, none⟩ = some (.int .i64 0) := (cell_of_row _ _ _ _ 55 (0, 0) P6.out.row).trans rfl
      have h2 : w6.frozen? ⟨pb, 2, none⟩ = false := frozen_of_row _ _ _ _ _ P6.out.row
      have P7a := P6.out.set 2 (.int .i64 KP)
      simp only [List.setIfInBounds_toArray, List.set_cons_zero, List.set_cons_succ] at P7a
      have P7 := hid P7a
      clear P7a hb6 c52 P5 P6
      go_wp2_with (first
        | (refine wpList_load_row rfl 55 _ rfl pb rfl 55 #[.string nm, .int .u8 (T : Int), .int .i64 KP, .bool true, .int .i64 st, .int .i64 INS] (0, 0) _ P7.out.row Tryd.underlying55 rfl info42 ?_)
        | (refine wpList_store_row rfl 55 _ _ rfl (w.heap.size + 1) #[.string nm, .int .u8 (T : Int), .int .i64 KP, .bool true, .int .i64 st, .int .i64 INS] rfl rfl 55 _ P7.out.res info42 rfl (by simp [Value.oneCell']) ?_))
      refine bodyPost_ret (results_cell_row rfl _ _ (w.heap.size + 1) 55 #[.string nm, .int .u8 (T : Int), .int .i64 KP, .bool true, .int .i64 st, .int .i64 INS] (0, 0) _ rfl (setRow_heap _ _ _ _ _ _ P7.out.res) Tryd.underlying55 rfl info42) rfl ⟨?_, below_row P7.out.below P7.out.below.size (by omega) _⟩
      rw [HR.out]
  · have hfl' : decide (fl ≥ 0) = false := by simpa using hfl
    rw [if_neg hfl] at hsin hins
    clear hfl
    subst hins
    by_cases hst : st = s
    · rw [if_pos hst, Int.add_zero] at hsin
      subst hsin
      have HR : Hid (R = ⟨nm, T, oldF l s 0 (akOf (akAll p) nm), false, 0, 0⟩) := hid (by rw [HPR.out, if_pos hst, if_pos hst, show (st == s) = true by simpa using hst]; rfl)
      have hd : (st != s) = false := by simpa using hst
      obtain ⟨q0, q1, q2, q3, q4, q5⟩ := P4.out.cut.cells
      have P5 := P4
      clear hst
      have c52 := oldest_ p (.slice A0 p.ins.length A1) (.slice B0 p.flows.length B1) (.slice C0 p.outs.length C1) s 0 mb (akAll p) HML.out nm HNK.out l _ W4 (HA.out.keep P5.out.below) (HI.out.keep P5.out.below) HF.out (by have := HSB.out; omega) HAK.out
      go_wp2_with (rw [HW4.out, ← HPB.out])
      refine c52.mono ?_
      rintro e w6 ⟨rfl, hb6⟩
      have P6 := hid (P5.out.keep hb6)
      generalize oldF l s 0 (akOf (akAll p) nm) = KP at *
      have g2 : w6.cell? ⟨pb, 2, none⟩ = some (.int .i64 0) := (cell_of_row _ _ _ _ 55 (0, 0) P6.out.row).trans rfl
      have h2 : w6.frozen? ⟨pb, 2, none⟩ = false := frozen_of_row _ _ _ _ _ P6.out.row
      have P7a := P6.out.set 2 (.int .i64 KP)
      simp only [List.setIfInBounds_toArray, List.set_cons_zero, List.set_cons_succ] at P7a
      have P7 := hid P7a
      clear P7a hb6 c52 P5 P6
      go_wp2_with (first
        | (refine wpList_load_row rfl 55 _ rfl pb rfl 55 #[.string nm, .int .u8 (T : Int), .int .i64 KP, .bool false, .int .i64 0, .int .i64 0] (0, 0) _ P7.out.row Tryd.underlying55 rfl info42 ?_)
        | (refine wpList_store_row rfl 55 _ _ rfl (w.heap.size + 1) #[.string nm, .int .u8 (T : Int), .int .i64 KP, .bool false, .int .i64 0, .int .i64 0] rfl rfl 55 _ P7.out.res info42 rfl (by simp [Value.oneCell']) ?_))
      refine bodyPost_ret (results_cell_row rfl _ _ (w.heap.size + 1) 55 #[.string nm, .int .u8 (T : Int), .int .i64 KP, .bool false, .int .i64 0, .int .i64 0] (0, 0) _ rfl (setRow_heap _ _ _ _ _ _ P7.out.res) Tryd.underlying55 rfl info42) rfl ⟨?_, below_row P7.out.below P7.out.below.size (by omega) _⟩
      rw [HR.out]
    · rw [if_neg hst] at hsin
      subst hsin
      have HR : Hid (R = ⟨nm, T, oldF l s 1 (akOf (akAll p) nm), true, st, 0⟩) := hid (by rw [HPR.out, if_neg hst, if_neg hst, show (st == s) = false by simpa using hst]; rfl)
      have hd : (st != s) = true := by simpa using hst
      obtain ⟨q0, q1, q2, q3, q4, q5⟩ := P4.out.cut.cells
      have e3 : W4.cell? ⟨pb, 3, none⟩ = some (.bool false) := (cell_of_row _ _ _ _ 55 (0, 0) P4.out.row).trans rfl
      have e4 : W4.cell? ⟨pb, 4, none⟩ = some (.int .i64 0) := (cell_of_row _ _ _ _ 55 (0, 0) P4.out.row).trans rfl
      have e5 : W4.cell? ⟨pb, 5, none⟩ = some (.int .i64 0) := (cell_of_row _ _ _ _ 55 (0, 0) P4.out.row).trans rfl
      have f3 : W4.frozen? ⟨pb, 3, none⟩ = false := frozen_of_row _ _ _ _ _ P4.out.row
      have f4 : W4.frozen? ⟨pb, 4, none⟩ = false := frozen_of_row _ _ _ _ _ P4.out.row
      have f5 : W4.frozen? ⟨pb, 5, none⟩ = false := frozen_of_row _ _ _ _ _ P4.out.row
      have P5a := (((P4.out.set 3 (.bool true)).set 4 (.int .i64 st)).set 5 (.int .i64 0))
      simp only [List.setIfInBounds_toArray, List.set_cons_zero, List.set_cons_succ] at P5a
      obtain ⟨W5, hW5⟩ : ∃ W5, (((W4.setCell ⟨pb, 3, none⟩ (.bool true)).setCell ⟨pb, 4, none⟩ (.int .i64 st)).setCell ⟨pb, 5, none⟩ (.int .i64 0)) = W5 := ⟨_, rfl⟩
      rw [hW5] at P5a
      have P5 := hid P5a
      have HW5 := hid hW5
      clear P5a hW5 P4 hst
      obtain ⟨y0, y1, y2, y3, y4, y5⟩ := P5.out.cut.cells
      have c52 := oldest_ p (.slice A0 p.ins.length A1) (.slice B0 p.flows.length B1) (.slice C0 p.outs.length C1) s 1 mb (akAll p) HML.out nm HNK.out l _ W5 (HA.out.keep P5.out.below) (HI.out.keep P5.out.below) HF.out (by have := HSB.out; omega) HAK.out
      go_wp2_with (first | rw [HW4.out, ← HPB.out] | rw [HW5.out])
      refine c52.mono ?_
      rintro e w6 ⟨rfl, hb6⟩
      have P6 := hid (P5.out.keep hb6)
      generalize oldF l s 1 (akOf (akAll p) nm) = KP at *
      have g2 : w6.cell? ⟨pb, 2, none⟩ = some (.int .i64 0) := (cell_of_row _ _ _ _ 55 (0, 0) P6.out.row).trans rfl
      have h2 : w6.frozen? ⟨pb, 2, none⟩ = false := frozen_of_row _ _ _ _ _ P6.out.row
      have P7a := P6.out.set 2 (.int .i64 KP)
      simp only [List.setIfInBounds_toArray, List.set_cons_zero, List.set_cons_succ] at P7a
      have P7 := hid P7a
      clear P7a hb6 c52 P5 P6
      go_wp2_with (first
        | (refine wpList_load_row rfl 55 _ rfl pb rfl 55 #[.string nm, .int .u8 (T : Int), .int .i64 KP, .bool true, .int .i64 st, .int .i64 0] (0, 0) _ P7.out.row Tryd.underlying55 rfl info42 ?_)
        | (refine wpList_store_row rfl 55 _ _ rfl (w.heap.size + 1) #[.string nm, .int .u8 (T : Int), .int .i64 KP, .bool true, .int .i64 st, .int .i64 0] rfl rfl 55 _ P7.out.res info42 rfl (by simp [Value.oneCell']) ?_))
      refine bodyPost_ret (results_cell_row rfl _ _ (w.heap.size + 1) 55 #[.string nm, .int .u8 (T : Int), .int .i64 KP, .bool true, .int .i64 st, .int .i64 0] (0, 0) _ rfl (setRow_heap _ _ _ _ _ _ P7.out.res) Tryd.underlying55 rfl info42) rfl ⟨?_, below_row P7.out.below P7.out.below.size (by omega) _⟩
      rw [HR.out]
end Go.Proofs.YtdenddknbmiboaaDoor.Lex
namespace Go.Proofs.YtdenddknbmiboaaDoor.Lex
open Go.ChangeShapes Go.WideShapes Go.ChangeAt Go.RowKit Go.Joins
/-- An instruction. -/
structure Cin where
  op : Nat
  n : Int
  ago : Int
/-- What is left by what takes values of one type only. -/
def allT (one left : Nat) (l : List Nat) : Nat := if l.all (· == one) then left else 0
/-- What an operator leaves of values. -/
def lvF (o : Nat) (l : List Nat) : Nat :=
  if o = 4 ∨ o = 6 ∨ o = 7 ∨ o = 8 ∨ o = 9 ∨ o = 10 then allT 1 1 l
  else if o = 5 ∨ o = 15 ∨ o = 16 then allT 2 2 l
  else if o = 13 ∨ o = 14 then allT 1 2 l
  else if o = 11 ∨ o = 12 then allT (l.headD 0) 2 l
  else if o = 17 then (if l.headD 0 = 2 then allT (l.tail.headD 0) (l.tail.headD 0) l.tail else 0)
  else if o = 18 then allT (l.headD 0) (l.headD 0) l else 0
/-- How many values it takes. -/
def tkF (o : Nat) : Nat := if o = 4 ∨ o = 5 then 1 else if o = 17 then 3 else 2
/-- The greatest Ago that it may have. -/
def agF (o : Nat) : Int := if o = 18 then 32 else 0
/-- The type of a place's value of so many rounds ago. -/
def kptF (p : Plc) (ago : Int) : Nat := if ago < 0 ∨ ago > p.keep then 0 else p.ty
/-- The type of what is left by what takes nothing. -/
def atF (ps : List Plc) (i : Cin) : Nat :=
  if i.op = 1 ∧ i.ago = 0 then 1
  else if i.op = 2 ∧ i.ago = 0 ∧ (i.n = 0 ∨ i.n = 1) then 2
  else if i.op = 3 ∧ 0 ≤ i.n ∧ i.n < (ps.length : Int) then ((ps[i.n.toNat]?).map (kptF · i.ago)).getD 0 else 0
/-- What is on the pile behind an instruction. -/
def stepF (ps : List Plc) (i : Cin) (pile : List Nat) : Option (List Nat) :=
  if 4 ≤ i.op ∧ i.op ≤ 18 then
    if pile.length < tkF i.op ∨ i.n ≠ 0 ∨ i.ago < 0 ∨ i.ago > agF i.op then none
    else if lvF i.op (pile.drop (pile.length - tkF i.op)) = 0 then none
    else some (pile.take (pile.length - tkF i.op) ++ [lvF i.op (pile.drop (pile.length - tkF i.op))])
  else if atF ps i = 0 then none else some (pile ++ [atF ps i])
/-- What is on it behind many. -/
def runF (ps : List Plc) : List Nat → List Cin → Option (List Nat)
  | pile, [] => some pile
  | pile, i :: l => (stepF ps i pile).bind fun q => runF ps q l
/-- A place that may be. -/
def mayP (p : Plc) : Bool := (p.ty == 1 || p.ty == 2) && decide (0 ≤ p.keep) && decide (p.keep ≤ 4000)
/-- What Check answers: a type, or 0. -/
def ckF (ps : List Plc) (l : List Cin) : Nat :=
  if 800 < l.length ∨ ps.all mayP = false then 0 else match runF ps [] l with
    | some [t] => t
    | _ => 0
theorem runF_append (ps : List Plc) : ∀ (a b : List Cin) (q : List Nat), runF ps q (a ++ b) = (runF ps q a).bind fun r => runF ps r b
  | [], b, q => rfl
  | i :: a, b, q => by
    show (stepF ps i q).bind (fun q => runF ps q (a ++ b)) = ((stepF ps i q).bind fun q => runF ps q a).bind _
    cases stepF ps i q with
    | none => rfl
    | some r => exact runF_append ps a b r
/-- How much longer the pile is behind an instruction. -/
def dlF (i : Cin) : Int := if 4 ≤ i.op ∧ i.op ≤ 18 then 1 - (tkF i.op : Int) else 1
theorem stepF_len {ps : List Plc} {i : Cin} {q r : List Nat} (h : stepF ps i q = some r) : (r.length : Int) = q.length + dlF i := by
  unfold stepF at h
  unfold dlF
  split at h
  · split at h
    · cases h
    · split at h
      · cases h
      · rename_i h1 h2 _
        cases h
        have : tkF i.op ≤ q.length := by omega
        simp
        rw [if_pos h1]
        omega
  · split at h
    · cases h
    · rename_i h1 _
      cases h
      rw [if_neg h1]
      simp
theorem runF_len {ps : List Plc} : ∀ {l : List Cin} {q r : List Nat}, runF ps q l = some r → (r.length : Int) = q.length + (l.map dlF).sum
  | [], q, r, h => by cases h; simp
  | i :: l, q, r, h => by
    change (stepF ps i q).bind (fun q => runF ps q l) = some r at h
    cases e : stepF ps i q with
    | none => rw [e] at h; cases h
    | some s =>
      rw [e] at h
      have h1 := stepF_len e
      have h2 := runF_len (q := s) h
      simp only [List.map_cons, List.sum_cons]
      omega
theorem ckF_ne {ps : List Plc} {l : List Cin} (h : ckF ps l ≠ 0) : l.length ≤ 800 ∧ ps.all mayP = true ∧ runF ps [] l = some [ckF ps l] := by
  unfold ckF at h ⊢
  split at h
  · exact absurd rfl h
  · rename_i h1
    rw [if_neg h1]
    have h2 : l.length ≤ 800 := by omega
    have h3 : ps.all mayP = true := by cases e : ps.all mayP <;> simp_all
    split at h
    · rename_i t e
      exact ⟨h2, h3, by rw [e]⟩
    · exact absurd rfl h
theorem ckF_of {ps : List Plc} {l : List Cin} {t : Nat} (h1 : l.length ≤ 800) (h2 : ps.all mayP = true) (h : runF ps [] l = some [t]) : ckF ps l = t := by
  unfold ckF
  rw [if_neg (by simp [h2]; omega), h]
theorem ckF_sum {ps : List Plc} {l : List Cin} (h : ckF ps l ≠ 0) : (l.map dlF).sum = 1 := by
  have := runF_len (ckF_ne h).2.2
  simp at this
  omega
/-- One that is taken away. -/
theorem spoil_less {ps : List Plc} {l : List Cin} (h : ckF ps l ≠ 0) {k : Nat} (hk : k < l.length) (h2 : ckF ps (l.take k ++ l.drop (k + 1)) ≠ 0) : l[k].op = 4 ∨ l[k].op = 5 := by
  have e1 := ckF_sum h
  have e2 := ckF_sum h2
  have e3 : l = l.take k ++ l[k] :: l.drop (k + 1) := by rw [List.getElem_cons_drop, List.take_append_drop]
  rw [e3] at e1
  simp only [List.map_append, List.map_cons, List.sum_append, List.sum_cons] at e1 e2
  have e4 : dlF l[k] = 0 := by omega
  unfold dlF tkF at e4
  split at e4
  · split at e4
    · assumption
    · split at e4 <;> omega
  · omega
/-- One that is put behind them. -/
theorem spoil_more {ps : List Plc} {l : List Cin} (h : ckF ps l ≠ 0) (o : Nat) (ho : o = 1 ∨ o = 6 ∨ o = 17 ∨ o = 19 ∨ o = 0 ∨ o = 18) : ckF ps (l ++ [⟨o, 0, 0⟩]) = 0 := by
  cases Nat.eq_zero_or_pos (ckF ps (l ++ [⟨o, 0, 0⟩])) with
  | inl h => exact h
  | inr hp =>
    exfalso
    have e1 := (ckF_ne h).2.2
    have e2 := (ckF_ne (Nat.pos_iff_ne_zero.1 hp)).2.2
    rw [runF_append, e1] at e2
    change (stepF ps ⟨o, 0, 0⟩ [ckF ps l]).bind (fun q => runF ps q []) = _ at e2
    cases e3 : stepF ps ⟨o, 0, 0⟩ [ckF ps l] with
    | none => rw [e3] at e2; cases e2
    | some r =>
      rw [e3] at e2
      change some r = _ at e2
      injection e2 with e2
      have h4 := stepF_len e3
      rw [e2] at h4
      rcases ho with rfl | rfl | rfl | rfl | rfl | rfl
      · simp [dlF] at h4
      · simp [dlF, tkF] at h4
      · simp [dlF, tkF] at h4
      · exact absurd e3 (by simp [stepF, atF])
      · exact absurd e3 (by simp [stepF, atF])
      · simp [dlF, tkF] at h4
/-- What lies below stays as it is. -/
theorem stepF_below {ps : List Plc} {i : Cin} {q r : List Nat} (b : List Nat) (h : stepF ps i q = some r) : stepF ps i (b ++ q) = some (b ++ r) := by
  unfold stepF at h ⊢
  split at h
  · rename_i h1
    rw [if_pos h1]
    split at h
    · cases h
    · rename_i h2
      have h5 : tkF i.op ≤ q.length := by omega
      have h6 : (b ++ q).length - tkF i.op = b.length + (q.length - tkF i.op) := by rw [List.length_append]; omega
      rw [if_neg (by rw [List.length_append]; omega), h6, List.drop_length_add_append, List.take_length_add_append]
      split at h
      · cases h
      · rename_i h3
        cases h
        rw [if_neg h3, List.append_assoc]
  · rename_i h1
    rw [if_neg h1]
    split at h
    · cases h
    · rename_i h2
      cases h
      rw [if_neg h2, List.append_assoc]
theorem runF_below {ps : List Plc} (b : List Nat) : ∀ {l : List Cin} {q r : List Nat}, runF ps q l = some r → runF ps (b ++ q) l = some (b ++ r)
  | [], q, r, h => by cases h; rfl
  | i :: l, q, r, h => by
    change (stepF ps i q).bind (fun q => runF ps q l) = some r at h
    show (stepF ps i (b ++ q)).bind (fun q => runF ps q l) = _
    cases e : stepF ps i q with
    | none => rw [e] at h; cases h
    | some s =>
      rw [e] at h
      rw [stepF_below b e]
      exact runF_below b h
theorem allT_at {ps : List Plc} {i : Cin} (hp : ps.all mayP = true) : atF ps i = 0 ∨ atF ps i = 1 ∨ atF ps i = 2 := by
  unfold atF
  split
  · exact .inr (.inl rfl)
  · split
    · exact .inr (.inr rfl)
    · split
      · cases e : ps[i.n.toNat]? with
        | none => exact .inl rfl
        | some p =>
          have hm := List.all_eq_true.1 hp p (List.mem_of_getElem? e)
          show kptF p i.ago = 0 ∨ kptF p i.ago = 1 ∨ kptF p i.ago = 2
          unfold kptF
          split
          · exact .inl rfl
          · unfold mayP at hm
            simp only [Bool.and_eq_true, Bool.or_eq_true, beq_iff_eq] at hm
            exact .inr hm.1.1
      · exact .inl rfl
/-- All that is on the pile is a type. -/
def TyQ (q : List Nat) : Prop := ∀ t ∈ q, t = 1 ∨ t = 2
theorem allT_ty {one left : Nat} {l : List Nat} (h : allT one left l ≠ 0) : allT one left l = left := by
  unfold allT at h ⊢
  split
  · rfl
  · rename_i h1
    rw [if_neg h1] at h
    exact absurd rfl h
theorem lvF_ty {o : Nat} {q : List Nat} (hq : TyQ q) (h : lvF o q ≠ 0) (hl : q ≠ []) (hl2 : o = 17 → 2 ≤ q.length) : lvF o q = 1 ∨ lvF o q = 2 := by
  obtain ⟨a, q, rfl⟩ := List.exists_cons_of_ne_nil hl
  have ha := hq a (by simp)
  unfold lvF at h ⊢
  split
  · rename_i h1
    rw [if_pos h1] at h
    exact .inl (allT_ty h)
  rename_i h1
  rw [if_neg h1] at h
  split
  · rename_i h2
    rw [if_pos h2] at h
    exact .inr (allT_ty h)
  rename_i h2
  rw [if_neg h2] at h
  split
  · rename_i h3
    rw [if_pos h3] at h
    exact .inr (allT_ty h)
  rename_i h3
  rw [if_neg h3] at h
  split
  · rename_i h4
    rw [if_pos h4] at h
    exact .inr (allT_ty h)
  rename_i h4
  rw [if_neg h4] at h
  split
  · rename_i h5
    rw [if_pos h5] at h
    have := hl2 h5
    cases q with
    | nil => simp at this
    | cons b q =>
      have hb := hq b (by simp)
      simp only [List.headD_cons, List.tail_cons] at h ⊢
      by_cases h6 : a = 2
      · simp only [h6, if_true] at h ⊢
        rw [allT_ty h]
        exact hb
      · simp [h6] at h
  rename_i h5
  rw [if_neg h5] at h
  split
  · rename_i h6
    rw [if_pos h6] at h
    rw [allT_ty h]
    exact ha
  · rename_i h6
    rw [if_neg h6] at h
    exact absurd rfl h
theorem stepF_ty {ps : List Plc} (hp : ps.all mayP = true) {i : Cin} {q r : List Nat} (hq : TyQ q) (h : stepF ps i q = some r) : TyQ r := by
  unfold stepF at h
  split at h
  · rename_i h1
    split at h
    · cases h
    · rename_i h2
      split at h
      · cases h
      · rename_i h3
        cases h
        have h5 : tkF i.op ≤ q.length := by omega
        have h6 : 1 ≤ tkF i.op := by unfold tkF; split <;> (try split) <;> omega
        intro t ht
        rcases List.mem_append.1 ht with ht | ht
        · exact hq t (List.mem_of_mem_take ht)
        · rw [List.mem_singleton] at ht
          rw [ht]
          refine lvF_ty (fun t ht => hq t (List.mem_of_mem_drop ht)) h3 (by intro e; have := congrArg List.length e; simp at this; omega) (fun e => by
            have : tkF i.op = 3 := by unfold tkF; rw [if_neg (by omega), if_pos e]
            rw [List.length_drop]; omega)
  · split at h
    · cases h
    · rename_i h2
      cases h
      intro t ht
      rcases List.mem_append.1 ht with ht | ht
      · exact hq t ht
      · rw [List.mem_singleton] at ht
        rw [ht]
        rcases allT_at (i := i) hp with h | h
        · exact absurd h h2
        · exact h
theorem runF_ty {ps : List Plc} (hp : ps.all mayP = true) : ∀ {l : List Cin} {q r : List Nat}, TyQ q → runF ps q l = some r → TyQ r
  | [], q, r, hq, h => by cases h; exact hq
  | i :: l, q, r, hq, h => by
    change (stepF ps i q).bind (fun q => runF ps q l) = some r at h
    cases e : stepF ps i q with
    | none => rw [e] at h; cases h
    | some s => rw [e] at h; exact runF_ty hp (stepF_ty hp hq e) h
theorem ckF_ty (ps : List Plc) (l : List Cin) : ckF ps l = 0 ∨ ckF ps l = 1 ∨ ckF ps l = 2 := by
  by_cases h : ckF ps l = 0
  · exact .inl h
  · have h1 := ckF_ne h
    exact .inr (runF_ty h1.2.1 (fun t ht => by cases ht) h1.2.2 _ (by simp))
/-- What two of one type each leave: 0 is none. -/
def wantF (o t u : Nat) : Nat :=
  if o = 6 ∨ o = 7 ∨ o = 8 ∨ o = 9 ∨ o = 10 then (if t = 1 ∧ u = 1 then 1 else 0)
  else if o = 13 ∨ o = 14 then (if t = 1 ∧ u = 1 then 2 else 0)
  else if o = 15 ∨ o = 16 then (if t = 2 ∧ u = 2 then 2 else 0)
  else if o = 11 ∨ o = 12 then (if t = u then 2 else 0) else if t = u then t else 0
theorem join_two {ps : List Plc} {a b : List Cin} (ha : ckF ps a ≠ 0) (hb : ckF ps b ≠ 0) (hl : a.length + b.length < 800) {o : Nat} (ho : 6 ≤ o ∧ o ≤ 18 ∧ o ≠ 17) : ckF ps (a ++ b ++ [⟨o, 0, 0⟩]) = wantF o (ckF ps a) (ckF ps b) := by
  obtain ⟨_, hp, ra⟩ := ckF_ne ha
  obtain ⟨_, _, rb⟩ := ckF_ne hb
  have ta := (ckF_ty ps a).resolve_left ha
  have tb := (ckF_ty ps b).resolve_left hb
  generalize ckF ps a = t at *
  generalize ckF ps b = u at *
  have e : runF ps [] (a ++ b ++ [⟨o, 0, 0⟩]) = stepF ps ⟨o, 0, 0⟩ [t, u] := by
    rw [runF_append, runF_append, ra]
    show (runF ps [t] b).bind _ = _
    rw [show [t] = [t] ++ [] from rfl, runF_below [t] rb]
    show (stepF ps ⟨o, 0, 0⟩ [t, u]).bind (fun q => runF ps q []) = _
    cases stepF ps ⟨o, 0, 0⟩ [t, u] <;> rfl
  have hsz : ¬ 800 < (a ++ b ++ [(⟨o, 0, 0⟩ : Cin)]).length := by simp; omega
  unfold ckF
  rw [if_neg (by simp only [hp]; simp only [Bool.true_eq_false, or_false]; exact hsz), e]
  have hc : o = 6 ∨ o = 7 ∨ o = 8 ∨ o = 9 ∨ o = 10 ∨ o = 11 ∨ o = 12 ∨ o = 13 ∨ o = 14 ∨ o = 15 ∨ o = 16 ∨ o = 18 := by omega
  rcases ta with rfl | rfl <;> rcases tb with rfl | rfl <;> rcases hc with rfl | rfl | rfl | rfl | rfl | rfl | rfl | rfl | rfl | rfl | rfl | rfl <;> rfl
end Go.Proofs.YtdenddknbmiboaaDoor.Lex
namespace Go.Proofs.YtdenddknbmiboaaDoor.Lex
open Go.ChangeShapes Go.WideShapes Go.ChangeAt Go.RowKit Go.Joins
/-- Types in a row. -/
def PTy (W : World) (g o : Nat) (ts : List Nat) : Prop := ∀ i (h : i < ts.length), W.cell? ⟨g, o + i, none⟩ = some (.int .u8 (ts[i] : Int))
theorem PTy.keep {W W' : World} {g o : Nat} {ts : List Nat} (h : PTy W g o ts) (hb : Below W.heap.size W W') : PTy W' g o ts := fun i hi => cell_kept (h i hi) hb
theorem PTy.at0 {W : World} {g o : Nat} {ts : List Nat} (h : PTy W g o ts) (h0 : 0 < ts.length) : W.cell? ⟨g, o, none⟩ = some (.int .u8 (ts[0] : Int)) := by have := h 0 h0; rwa [Nat.add_zero] at this
abbrev fcV (b1 b2 : Nat) : Value := .func (.func 59) #[] #[.pointer (some ⟨b1, 0, none⟩), .pointer (some ⟨b2, 0, none⟩)]
theorem from_ (one left : Nat) (w : World) : Calls Tryd.prog 37 #[.int .u8 (one : Int), .int .u8 (left : Int)] w fun e w' => e = .returned (fcV w.heap.size (w.heap.size + 1)) ∧ Below w.heap.size w w' ∧ w'.cell? ⟨w.heap.size, 0, none⟩ = some (.int .u8 (one : Int)) ∧ w'.cell? ⟨w.heap.size + 1, 0, none⟩ = some (.int .u8 (left : Int)) := by
  have h1 : ((w.alloc (.cells #[.int .u8 (one : Int)] 27)).alloc (.cells #[.int .u8 (left : Int)] 27)).heap[w.heap.size]? = some (.cells #[.int .u8 (one : Int)] 27 (0, 0)) := push_old (heap_alloc_new _ _)
  have h2 : ((w.alloc (.cells #[.int .u8 (one : Int)] 27)).alloc (.cells #[.int .u8 (left : Int)] 27)).heap[w.heap.size + 1]? = some (.cells #[.int .u8 (left : Int)] 27 (0, 0)) := by
    have h := heap_alloc_new (w.alloc (.cells #[.int .u8 (one : Int)] 27)) (.cells #[.int .u8 (left : Int)] 27)
    rwa [World.size_alloc] at h
  have HB := hid (((Below.refl w.heap.size w).alloc (Nat.le_refl _) (.cells #[.int .u8 (one : Int)] 27)).alloc (by simp) (.cells #[.int .u8 (left : Int)] 27))
  have C1 := hid ((cell_of_row _ _ 0 _ 27 (0, 0) h1).trans rfl)
  have C2 := hid ((cell_of_row _ _ 0 _ 27 (0, 0) h2).trans rfl)
  clear h1 h2
  have hmf : ∀ (fn : Fn) (first cap : Array Value) (w : World), (Instr.makeFunc fn first cap).run Tryd.prog w = .ok (.func fn first cap) w := fun _ _ _ _ => rfl
  go_enter Tryd.func37, Tryd.ntmps37
  go_wp2_with (fail)
  go_ret
  exact ⟨rfl, HB.out, C1.out, C2.out⟩
theorem allT_yes {one left : Nat} {ts : List Nat} (h : ∀ t ∈ ts, t = one) : allT one left ts = left := by
  unfold allT
  rw [if_pos (List.all_eq_true.2 (fun t ht => beq_iff_eq.2 (h t ht)))]
theorem allT_no {one left : Nat} {ts : List Nat} {t : Nat} (h : t ∈ ts) (hn : t ≠ one) : allT one left ts = 0 := by
  unfold allT
  rw [if_neg (fun e => hn (beq_iff_eq.1 (List.all_eq_true.1 e t h)))]
set_option maxRecDepth 100000 in
set_option maxHeartbeats 1000000 in
theorem from1 (one left b1 b2 : Nat) (ts : List Nat) (g o cap : Nat) (w : World) (h1 : w.cell? ⟨b1, 0, none⟩ = some (.int .u8 (one : Int))) (h2 : w.cell? ⟨b2, 0, none⟩ = some (.int .u8 (left : Int))) (hT : PTy w g o ts) (h3 : ts.length ≤ 1000) : Calls Tryd.prog 59 #[.slice (some ⟨g, o, none⟩) ts.length cap, .pointer (some ⟨b1, 0, none⟩), .pointer (some ⟨b2, 0, none⟩)] w fun e w' => e = .returned (.int .u8 (allT one left ts : Int)) ∧ w' = w := by
  have HT := hid hT
  clear hT
  go_enter Tryd.func59, Tryd.ntmps59
  go_wp2_with (fail)
  go_loopw [9] (fun i wr => ∃ k : Nat, k ≤ ts.length ∧ i = .int .i64 (k : Int) ∧ wr = w ∧ Hid (∀ t ∈ ts.take k, t = one)) (fun i _ => ts.length - (intOf i).toNat)
  case atStart => exact ⟨0, Nat.zero_le _, rfl, rfl, hid (by simp)⟩
  case round =>
    obtain ⟨k, hk, rfl, rfl, HA⟩ := hrel
    by_cases hlt : k < ts.length
    · have hlt' : (k : Int) < (ts.length : Int) := by omega
      have hk0 : (0 : Int) ≤ (k : Int) := by omega
      have y := HT.out k hlt
      have HTK := hid (List.take_succ_eq_append_getElem hlt)
      have HM := hid (List.getElem_mem hlt)
      by_cases he : ts[k] = one
      · have hne : ((ts[k] : Int) != (one : Int)) = false := by rw [he]; simp
        have HA2 : Hid (∀ t ∈ ts.take (k + 1), t = one) := hid (fun t ht => by
          rw [HTK.out] at ht
          rcases List.mem_append.1 ht with h | h
          · exact HA.out t h
          · rw [List.mem_singleton.1 h]; exact he)
        clear he HTK HM
        generalize ts[k] = tk at *
        go_wp2_with (fail)
        go_roundw
        case rel => exact ⟨k + 1, by omega, by go_num, trivial, HA2⟩
        case measure => simp [intOf]; omega
      · have hne : ((ts[k] : Int) != (one : Int)) = true := by simp; omega
        have HV : Hid (allT one left ts = 0) := hid (allT_no HM.out he)
        clear he HTK HM
        generalize ts[k] = tk at *
        go_wp2_with (fail)
        go_ret
        exact ⟨by rw [HV.out]; rfl, rfl⟩
    · have hlt' : ¬ (k : Int) < (ts.length : Int) := by omega
      obtain rfl : k = ts.length := by omega
      have HV : Hid (allT one left ts = left) := hid (allT_yes (fun t ht => HA.out t (by rw [List.take_length]; exact ht)))
      go_wp2_with (fail)
      go_ret
      exact ⟨by rw [HV.out]; rfl, rfl⟩
set_option maxRecDepth 100000 in
set_option maxHeartbeats 1000000 in
/-- One of two values of one type. -/
theorem either_ (ts : List Nat) (g o cap : Nat) (w : World) (hT : PTy w g o ts) (h0 : 0 < ts.length) (h3 : ts.length ≤ 1000) : Calls Tryd.prog 40 #[.slice (some ⟨g, o, none⟩) ts.length cap] w fun e w' => e = .returned (.int .u8 (allT ts[0] ts[0] ts : Int)) ∧ Below w.heap.size w w' := by
  have c37 := fun W => from_ ts[0] ts[0] W
  have hl0 : (0 : Int) < (ts.length : Int) := by omega
  have z0 := hT.at0 h0
  have HT := hid hT
  clear hT
  go_enter Tryd.func40, Tryd.ntmps40
  go_wp2_with (fail)
  refine wp_region_held_drew (S := fun W => W.cell? ⟨g, o, none⟩ = some (.int .u8 (ts[0] : Int))) (by kernel_rfl) ?_ (fun hHeld => ?_)
  · exact z0
  refine wpAnyH_take (i := 0) (oi := { dst := some 3, op := Go.Op.move (Go.Operand.tmp 0), type := 60, pos := _, after := #[], guard := none }) (v := ?_) rfl (by kernel_rfl) (by kernel_rfl) (by kernel_rfl) (fun _ _ _ h => h) (Or.inl ⟨by rfl, ?_⟩) (by assumption) ?_
  rotate_left
  · intro w hSw; (try dsimp only at hSw); go_simp <;> first | with_reducible rfl | (rw [if_neg (by first | omega | (simp only [ByteArray.size_append] at *; omega))])
  simp only [Act.put, List.setIfInBounds_toArray, List.set_cons_zero, List.set_cons_succ]
  refine wpAnyH_take (i := 1) (oi := { dst := some 4, op := Go.Op.indexAddr 60 (Go.Operand.tmp 3) (Go.Operand.const (Go.Value.int Go.IntKind.i64 0)), type := 0, pos := _, after := #[{ on := 0, ground := Go.Ground.data }], guard := none }) (v := ?_) rfl (by kernel_rfl) (by kernel_rfl) (by kernel_rfl) (fun _ _ _ h => h) (Or.inl ⟨by rfl, ?_⟩) (by assumption) ?_
  rotate_left
  · intro w hSw; (try dsimp only at hSw); go_simp <;> first | with_reducible rfl | (rw [if_neg (by first | omega | (simp only [ByteArray.size_append] at *; omega))])
  simp only [Act.put, List.setIfInBounds_toArray, List.set_cons_zero, List.set_cons_succ]
  refine wpAnyH_take (i := 2) (oi := { dst := some 5, op := Go.Op.load 27 (Go.Operand.tmp 4), type := 27, pos := _, after := #[{ on := 1, ground := Go.Ground.data }], guard := none }) (v := ?_) rfl (by kernel_rfl) (by kernel_rfl) (by kernel_rfl) (fun _ _ _ h => h) (Or.inl ⟨by rfl, ?_⟩) (by assumption) ?_
  rotate_left
  · intro w hSw; (try dsimp only at hSw); go_simp <;> first | with_reducible rfl | (rw [if_neg (by first | omega | (simp only [ByteArray.size_append] at *; omega))])
  simp only [Act.put, List.setIfInBounds_toArray, List.set_cons_zero, List.set_cons_succ]
  refine wpAnyH_take (i := 3) (oi := { dst := some 6, op := Go.Op.move (Go.Operand.tmp 0), type := 60, pos := _, after := #[], guard := none }) (v := ?_) rfl (by kernel_rfl) (by kernel_rfl) (by kernel_rfl) (fun _ _ _ h => h) (Or.inl ⟨by rfl, ?_⟩) (by assumption) ?_
  rotate_left
  · intro w hSw; (try dsimp only at hSw); go_simp <;> first | with_reducible rfl | (rw [if_neg (by first | omega | (simp only [ByteArray.size_append] at *; omega))])
  simp only [Act.put, List.setIfInBounds_toArray, List.set_cons_zero, List.set_cons_succ]
  refine wpAnyH_take (i := 4) (oi := { dst := some 7, op := Go.Op.indexAddr 60 (Go.Operand.tmp 6) (Go.Operand.const (Go.Value.int Go.IntKind.i64 0)), type := 0, pos := _, after := #[{ on := 3, ground := Go.Ground.data }], guard := none }) (v := ?_) rfl (by kernel_rfl) (by kernel_rfl) (by kernel_rfl) (fun _ _ _ h => h) (Or.inl ⟨by rfl, ?_⟩) (by assumption) ?_
  rotate_left
  · intro w hSw; (try dsimp only at hSw); go_simp <;> first | with_reducible rfl | (rw [if_neg (by first | omega | (simp only [ByteArray.size_append] at *; omega))])
  simp only [Act.put, List.setIfInBounds_toArray, List.set_cons_zero, List.set_cons_succ]
  refine wpAnyH_take (i := 5) (oi := { dst := some 8, op := Go.Op.load 27 (Go.Operand.tmp 7), type := 27, pos := _, after := #[{ on := 4, ground := Go.Ground.data }], guard := none }) (v := ?_) rfl (by kernel_rfl) (by kernel_rfl) (by kernel_rfl) (fun _ _ _ h => h) (Or.inl ⟨by rfl, ?_⟩) (by assumption) ?_
  rotate_left
  · intro w hSw; (try dsimp only at hSw); go_simp <;> first | with_reducible rfl | (rw [if_neg (by first | omega | (simp only [ByteArray.size_append] at *; omega))])
  simp only [Act.put, List.setIfInBounds_toArray, List.set_cons_zero, List.set_cons_succ]
  refine wpAnyH_take (i := 7) (oi := { dst := some 10, op := Go.Op.move (Go.Operand.tmp 0), type := 60, pos := _, after := #[], guard := none }) (v := ?_) rfl (by kernel_rfl) (by kernel_rfl) (by kernel_rfl) (fun _ _ _ h => h) (Or.inl ⟨by rfl, ?_⟩) (by assumption) ?_
  rotate_left
  · intro w hSw; (try dsimp only at hSw); go_simp <;> first | with_reducible rfl | (rw [if_neg (by first | omega | (simp only [ByteArray.size_append] at *; omega))])
  simp only [Act.put, List.setIfInBounds_toArray, List.set_cons_zero, List.set_cons_succ]
  refine wpAnyH_ready (rs := [6]) (by kernel_rfl) (by simp) ?_
  refine AllReadyH.cons (o := { dst := some 9, op := Go.Op.call { callee := Go.Callee.value (Go.Operand.func 37), args := #[Go.Operand.tmp 5, Go.Operand.tmp 8], argTypes := #[27, 27] }, type := 94, pos := _, after := #[{ on := 2, ground := Go.Ground.data }, { on := 5, ground := Go.Ground.data }], guard := none }) rfl (fun K hK => ?_) AllReadyH.nil
  go_simp
  refine (c37 _).mono ?_
  rintro e w2 ⟨rfl, hb2, hk1, hk2⟩
  have T2 := hid (HT.out.keep ((Below.refl _ _).drew.trans hb2))
  have B2 := hid ((Below.refl _ _).drew.trans hb2)
  have K1 := hid hk1
  have K2 := hid hk2
  clear hb2 hk1 hk2
  go_wp2_with fail
  refine hK.out _ _ ?_ (fun hHeld1 => ?_)
  · exact T2.out.at0 h0
  clear hK K
  refine wpAnyH_ready (rs := [8]) (by kernel_rfl) (by simp) ?_
  refine AllReadyH.cons (o := { dst := some 11, op := Go.Op.call { callee := Go.Callee.value (Go.Operand.tmp 9), args := #[Go.Operand.tmp 10], argTypes := #[60] }, type := 27, pos := _, after := #[{ on := 6, ground := Go.Ground.data }, { on := 7, ground := Go.Ground.data }, { on := 6, ground := Go.Ground.chain }], guard := none }) rfl (fun K hK => ?_) AllReadyH.nil
  go_simp
  refine (from1 ts[0] ts[0] _ _ ts g o cap w2 K1.out K2.out T2.out h3).mono ?_
  rintro e w3 ⟨rfl, rfl⟩
  go_wp2_with fail
  refine hK.out _ _ ?_ (fun hHeld2 => ?_)
  · exact T2.out.at0 h0
  clear hK K
  refine wpAnyH_take (i := 9) (oi := { dst := some 2, op := Go.Op.assign (Go.Operand.tmp 11), type := 27, pos := _, after := #[{ on := 8, ground := Go.Ground.data }, { on := 8, ground := Go.Ground.chain }, { on := 0, ground := Go.Ground.phase }, { on := 1, ground := Go.Ground.phase }, { on := 2, ground := Go.Ground.phase }, { on := 3, ground := Go.Ground.phase }, { on := 4, ground := Go.Ground.phase }, { on := 5, ground := Go.Ground.phase }, { on := 6, ground := Go.Ground.phase }, { on := 7, ground := Go.Ground.phase }, { on := 8, ground := Go.Ground.phase }], guard := none }) (v := ?_) rfl (by kernel_rfl) (by kernel_rfl) (by kernel_rfl) (fun _ _ _ h => h) (Or.inl ⟨by rfl, ?_⟩) (by assumption) ?_
  rotate_left
  · intro w hSw; (try dsimp only at hSw); go_simp <;> first | with_reducible rfl | (rw [if_neg (by first | omega | (simp only [ByteArray.size_append] at *; omega))])
  simp only [Act.put, List.setIfInBounds_toArray, List.set_cons_zero, List.set_cons_succ]
  refine wpAnyH_done (by kernel_rfl) ?_ _
  go_wp2_with (fail)
  go_ret
  exact ⟨rfl, B2.out⟩
set_option maxRecDepth 100000 in
set_option maxHeartbeats 1000000 in
/-- Equal, unequal. -/
theorem equal_ (ts : List Nat) (g o cap : Nat) (w : World) (hT : PTy w g o ts) (h0 : 0 < ts.length) (h3 : ts.length ≤ 1000) : Calls Tryd.prog 38 #[.slice (some ⟨g, o, none⟩) ts.length cap] w fun e w' => e = .returned (.int .u8 (allT ts[0] 2 ts : Int)) ∧ Below w.heap.size w w' := by
  have c37 := from_ ts[0] 2 w
  have hl0 : (0 : Int) < (ts.length : Int) := by omega
  have z0 := hT.at0 h0
  have HT := hid hT
  go_enter Tryd.func38, Tryd.ntmps38
  go_wp2_with (fail)
  refine c37.mono ?_
  rintro e w2 ⟨rfl, hb2, hk1, hk2⟩
  have T2 := hid (HT.out.keep hb2)
  have B2 := hid hb2
  have c59 := from1 ts[0] 2 _ _ ts g o cap w2 hk1 hk2 T2.out h3
  clear hk1 hk2 hb2
  go_wp2_with (fail)
  refine c59.mono ?_
  rintro e w3 ⟨rfl, rfl⟩
  go_wp2_with (fail)
  go_ret
  exact ⟨rfl, B2.out⟩
set_option maxRecDepth 100000 in
set_option maxHeartbeats 1000000 in
/-- If: the first one is yes or no, the others are of one type. -/
theorem choice_ (t : Nat) (l : List Nat) (g o cap : Nat) (w : World) (hT : PTy w g o (t :: l)) (h0 : 0 < l.length) (h3 : l.length ≤ 900) (hc : l.length + 1 ≤ cap) : Calls Tryd.prog 39 #[.slice (some ⟨g, o, none⟩) (t :: l).length cap] w fun e w' => e = .returned (.int .u8 ((if t = 2 then allT l[0] l[0] l else 0 : Nat) : Int)) ∧ Below w.heap.size w w' := by
  have z := hT.at0 (by simp)
  have hT2 : PTy w g (o + 1) l := fun i hi => by
    have := hT (i + 1) (by simp; omega)
    rw [show o + 1 + i = o + (i + 1) by omega]
    exact this
  have c := either_ l g (o + 1) (cap - 1) w hT2 h0 (by omega)
  have HB := hid (Below.refl w.heap.size w)
  simp only [List.getElem_cons_zero] at z
  have hl0 : (0 : Int) < ((t :: l).length : Int) := by simp
  have hlen : (t :: l).length = l.length + 1 := rfl
  rw [hlen] at *
  by_cases h : t = 2
  · rw [if_pos h]
    have hb : ((t : Int) != 2) = false := by rw [bne_eq_false_iff_eq]; omega
    clear h hT hT2
    generalize allT l[0] l[0] l = x at *
    go_enter Tryd.func39, Tryd.ntmps39
    go_wp2_with (fail)
    refine c.mono ?_
    rintro e w2 ⟨rfl, hb2⟩
    have B2 := hid hb2
    clear hb2
    go_wp2_with (fail)
    go_ret
    exact ⟨rfl, B2.out⟩
  · rw [if_neg h]
    have hb : ((t : Int) != 2) = true := by simp; omega
    clear h hT hT2 c
    go_enter Tryd.func39, Tryd.ntmps39
    go_wp2_with (fail)
    go_ret
    exact ⟨rfl, HB.out⟩
end Go.Proofs.YtdenddknbmiboaaDoor.Lex
namespace Go.Proofs.YtdenddknbmiboaaDoor.Lex
open Go.ChangeShapes Go.WideShapes Go.ChangeAt Go.RowKit Go.Joins
/-- An operator of the map. -/
structure Opx where
  t : Int
  a : Int
  f : Nat
  b : Option (Nat × Nat)
def capV : Option (Nat × Nat) → Array Value
  | none => #[]
  | some (x, y) => #[.pointer (some ⟨x, 0, none⟩), .pointer (some ⟨y, 0, none⟩)]
def capD : Option (Nat × Nat) → DataW Unit
  | none => .agg []
  | some (x, y) => .agg [.lit (.int .i64 (x : Int)), .lit (.int .i64 (y : Int))]
abbrev opV (x : Opx) : Value := .agg #[.int .i64 x.t, .int .i64 x.a, .func (.func x.f) #[] (capV x.b)]
abbrev opZ : Value := .agg #[.int .i64 0, .int .i64 0, .nilFunc]
def opD (x : Opx) : DataW Unit := .agg [.lit (.int .i64 x.t), .lit (.int .i64 x.a), .lit (.int .i64 (x.f : Int)), capD x.b]
/-- How an operator reads. -/
def oR (v : Value) : Option (DataW Unit × List MemPlace) := match v with
  | .agg ⟨[.int .i64 t, .int .i64 a, .func (.func f) ⟨[]⟩ ⟨[.pointer (some ⟨x, 0, none⟩), .pointer (some ⟨y, 0, none⟩)]⟩]⟩ => some (opD ⟨t, a, f, some (x, y)⟩, [])
  | .agg ⟨[.int .i64 t, .int .i64 a, .func (.func f) ⟨[]⟩ ⟨[]⟩]⟩ => some (opD ⟨t, a, f, none⟩, [])
  | .agg ⟨[.int .i64 0, .int .i64 0, .nilFunc]⟩ => some (.agg [], [])
  | _ => none
theorem oR_mk (x : Opx) : oR (opV x) = some (opD x, []) := by
  obtain ⟨t, a, f, b⟩ := x
  cases b <;> rfl
theorem opD_inj {x y : Opx} (h : opD x = opD y) : x = y := by
  obtain ⟨t, a, f, b⟩ := x
  obtain ⟨t', a', f', b'⟩ := y
  unfold opD at h
  simp only [DataW.agg.injEq, List.cons.injEq, DataW.lit.injEq, Lit.int.injEq, true_and, and_true] at h
  obtain ⟨rfl, rfl, h3, h4⟩ := h
  obtain rfl := Int.ofNat.inj h3
  cases b with
  | none =>
    cases b' with
    | none => rfl
    | some y => simp [capD] at h4
  | some x =>
    cases b' with
    | none => simp [capD] at h4
    | some y =>
      simp only [capD, DataW.agg.injEq, List.cons.injEq, DataW.lit.injEq, Lit.int.injEq, true_and, and_true] at h4
      have e1 := Int.ofNat.inj h4.1
      have e2 := Int.ofNat.inj h4.2
      obtain ⟨x1, x2⟩ := x
      obtain ⟨y1, y2⟩ := y
      simp only at e1 e2
      rw [e1, e2]
theorem oR_inv {v : Value} {x : Opx} {ps : List MemPlace} (h : oR v = some (opD x, ps)) : v = opV x := by
  unfold oR at h
  split at h
  · injection h with h
    injection h with h _
    rw [← opD_inj h]
    rfl
  · injection h with h
    injection h with h _
    rw [← opD_inj h]
    rfl
  · injection h with h
    injection h with h _
    unfold opD at h
    injection h with h
    cases h
  · cases h
theorem oR_inv0 {v : Value} {ps : List MemPlace} (h : oR v = some (.agg [], ps)) : v = opZ := by
  unfold oR at h
  split at h
  · injection h with h
    injection h with h _
    unfold opD at h
    injection h with h
    cases h
  · injection h with h
    injection h with h _
    unfold opD at h
    injection h with h
    cases h
  · rfl
  · cases h
/-- A map of operators in memory. -/
def OMap (W : World) (b n : Nat) (T : Nat → Option Opx) : Prop := ∃ D : DataW Unit, W.ownsMap Tryd.prog 36 oR b n D ∧ ∀ k : Nat, k < 256 → D.atKey (.int .u8 (k : Int)) (.agg []) = ((T k).map opD).getD (.agg []) ∧ Maps.has D (.int .u8 (k : Int)) = (T k).isSome
theorem OMap.lt {W : World} {b n : Nat} {T : Nat → Option Opx} (h : OMap W b n T) : b < W.heap.size := by
  obtain ⟨D, h1, _⟩ := h
  exact h1.lt
theorem OMap.keep {W W' : World} {b n : Nat} {T : Nat → Option Opx} (h : OMap W b n T) (hb : Below W.heap.size W W') : OMap W' b n T := by
  obtain ⟨D, ⟨es, clock, h1, h2⟩, h3⟩ := id h
  exact ⟨D, ⟨es, clock, (hb.block b h.lt).trans h1, h2⟩, h3⟩
theorem OMap.new (W : World) : OMap (W.alloc (.map #[] 0)) W.heap.size 0 (fun _ => none) := ⟨.map [], World.ownsMap_made W _ _ _, fun _ _ => ⟨rfl, rfl⟩⟩
theorem keyOp {k : Nat} (hk : k < 256) : keyOf Tryd.prog 36 (.int .u8 (k : Int)) = some (.int .u8 (k : Int)) := Maps.keyOf_int_mk Tryd.underlying36 (by simp [Lit.wf, IntKind.min, IntKind.max, IntKind.signed, IntKind.bits]; omega)
theorem OMap.update {W : World} {b n : Nat} {T : Nat → Option Opx} (h : OMap W b n T) (hn : n < maxLen) {k : Nat} (hk : k < 256) (x : Opx) :
    ∃ W', (Instr.mapUpdate 58 (.map (some b)) (.int .u8 (k : Int)) (opV x)).run Tryd.prog W = .ok () W' ∧ OMap W' b (n + 1) (fun u => if u = k then some x else T u) ∧ W.grownBy W' (some b) := by
  obtain ⟨D, h1, h2⟩ := h
  obtain ⟨W', hrun, r1, r2⟩ := h1.update (Maps.int_keyed Tryd.underlying36) Tryd.underlying58 hn (keyOp hk) (oR_mk x)
  refine ⟨W', hrun, ⟨_, r1, fun u hu => ?_⟩, r2⟩
  dsimp only
  by_cases e : u = k
  · rw [if_pos e, e, Maps.atKey_put_same h1.isMap (by trivial), Maps.has_put_same h1.isMap (by trivial)]
    exact ⟨rfl, rfl⟩
  · rw [if_neg e, Maps.atKey_put_other (by intro h; injection h with _ h; exact e (Int.ofNat.inj h)), Maps.has_put_other (by intro h; injection h with _ h; exact e (Int.ofNat.inj h))]
    exact h2 u hu
theorem zeroOp (w : World) : (zeroValue 97).run Tryd.prog w = .ok opZ w := by kernel_rfl
def opO (o : Option Opx) : Value := match o with | some x => opV x | none => opZ
theorem OMap.look {W : World} {b n : Nat} {T : Nat → Option Opx} (h : OMap W b n T) {k : Nat} (hk : k < 256) : (Instr.lookup 58 (.map (some b)) (.int .u8 (k : Int)) true).run Tryd.prog W = .ok (.tuple #[opO (T k), .bool (T k).isSome]) W := by
  obtain ⟨D, h1, h2⟩ := h
  obtain ⟨v, ps, hrun, hv⟩ := h1.look_ok (Maps.int_keyed Tryd.underlying36) Tryd.underlying58 (zeroOp W) (zd := .agg []) (zp := []) rfl (keyOp hk)
  rw [(h2 k hk).1] at hv
  rw [hrun, (h2 k hk).2]
  cases e : T k with
  | none =>
    rw [e] at hv
    rw [oR_inv0 hv]
    rfl
  | some x =>
    rw [e] at hv
    rw [oR_inv hv]
    rfl
/-- What a function of the map does. -/
def FnK (W : World) (k : Nat) (x : Opx) : Prop :=
  (x.f = 59 ∧ ∃ b1 b2 one left : Nat, x.b = some (b1, b2) ∧ W.cell? ⟨b1, 0, none⟩ = some (.int .u8 (one : Int)) ∧ W.cell? ⟨b2, 0, none⟩ = some (.int .u8 (left : Int)) ∧ ∀ l, lvF k l = allT one left l) ∨
  (x.f = 38 ∧ x.b = none ∧ (k = 11 ∨ k = 12)) ∨ (x.f = 39 ∧ x.b = none ∧ k = 17) ∨ (x.f = 40 ∧ x.b = none ∧ k = 18)
theorem FnK.keep {W W' : World} {k : Nat} {x : Opx} (h : FnK W k x) (hb : Below W.heap.size W W') : FnK W' k x := by
  rcases h with ⟨h1, b1, b2, one, left, h2, h3, h4, h5⟩ | h | h | h
  · exact .inl ⟨h1, b1, b2, one, left, h2, cell_kept h3 hb, cell_kept h4 hb, h5⟩
  · exact .inr (.inl h)
  · exact .inr (.inr (.inl h))
  · exact .inr (.inr (.inr h))
/-- What the map says of an operator. -/
def RuleK (W : World) (k : Nat) (o : Option Opx) : Prop := if 4 ≤ k ∧ k ≤ 18 then ∃ x, o = some x ∧ x.t = (tkF k : Int) ∧ x.a = agF k ∧ FnK W k x else o = none
theorem RuleK.keep {W W' : World} {k : Nat} {o : Option Opx} (h : RuleK W k o) (hb : Below W.heap.size W W') : RuleK W' k o := by
  unfold RuleK at h ⊢
  split
  · rename_i hk
    rw [if_pos hk] at h
    obtain ⟨x, h1, h2, h3, h4⟩ := h
    exact ⟨x, h1, h2, h3, h4.keep hb⟩
  · rename_i hk
    rwa [if_neg hk] at h
/-- The map of all operators. -/
def Ops (W : World) (b : Nat) : Prop := ∃ n T, OMap W b n T ∧ ∀ k, k < 256 → RuleK W k (T k)
theorem Ops.keep {W W' : World} {b : Nat} (h : Ops W b) (hb : Below W.heap.size W W') : Ops W' b := by
  obtain ⟨n, T, h1, h2⟩ := h
  exact ⟨n, T, h1.keep hb, fun k hk => (h2 k hk).keep hb⟩
theorem Ops.lt {W : World} {b : Nat} (h : Ops W b) : b < W.heap.size := by
  obtain ⟨n, T, h1, _⟩ := h
  exact h1.lt
theorem Ops.yes {W : World} {b k : Nat} (h : Ops W b) (hk : 4 ≤ k ∧ k ≤ 18) : ∃ x, (Instr.lookup 58 (.map (some b)) (.int .u8 (k : Int)) true).run Tryd.prog W = .ok (.tuple #[opV x, .bool true]) W ∧ x.t = (tkF k : Int) ∧ x.a = agF k ∧ FnK W k x := by
  obtain ⟨n, T, h1, h2⟩ := h
  have h3 := h2 k (by omega)
  unfold RuleK at h3
  rw [if_pos hk] at h3
  obtain ⟨x, e, h4⟩ := h3
  have h5 := h1.look (k := k) (by omega)
  rw [e] at h5
  exact ⟨x, h5, h4⟩
theorem Ops.no {W : World} {b k : Nat} (h : Ops W b) (hk : ¬ (4 ≤ k ∧ k ≤ 18)) (h2 : k < 256) : (Instr.lookup 58 (.map (some b)) (.int .u8 (k : Int)) true).run Tryd.prog W = .ok (.tuple #[opZ, .bool false]) W := by
  obtain ⟨n, T, h1, h3⟩ := h
  have h3 := h3 k h2
  unfold RuleK at h3
  rw [if_neg hk] at h3
  have h5 := h1.look (k := k) (by omega)
  rw [h3] at h5
  exact h5
theorem Ops.yesU {W : World} {b k : Nat} (h : Ops W b) (hk : 4 ≤ k ∧ k ≤ 18) : ∃ x : Opx, x.t = (tkF k : Int) ∧ x.a = agF k ∧ ∀ W', Below W.heap.size W W' → (Instr.lookup 58 (.map (some b)) (.int .u8 (k : Int)) true).run Tryd.prog W' = .ok (.tuple #[opV x, .bool true]) W' ∧ FnK W' k x := by
  obtain ⟨n, T, h1, h2⟩ := h
  have h3 := h2 k (by omega)
  unfold RuleK at h3
  rw [if_pos hk] at h3
  obtain ⟨x, e, h4, h5, h6⟩ := h3
  refine ⟨x, h4, h5, fun W' hb => ⟨?_, h6.keep hb⟩⟩
  have h7 := (h1.keep hb).look (k := k) (by omega)
  rw [e] at h7
  exact h7
/-- A function of the map, called. -/
theorem fn_call {W : World} {k : Nat} {x : Opx} (h : FnK W k x) (ts : List Nat) (g o cap : Nat) (hT : PTy W g o ts) (hl : ts.length = tkF k) (hc : ts.length ≤ cap) (hk : 4 ≤ k ∧ k ≤ 18) : Calls Tryd.prog x.f (#[.slice (some ⟨g, o, none⟩) ts.length cap] ++ capV x.b) W fun e w' => e = .returned (.int .u8 (lvF k ts : Int)) ∧ Below W.heap.size W w' := by
  have h1 : 1 ≤ tkF k ∧ tkF k ≤ 3 := by unfold tkF; split <;> (try split) <;> omega
  rcases h with ⟨e, b1, b2, one, left, e2, h3, h4, h5⟩ | ⟨e, e2, hk2⟩ | ⟨e, e2, hk2⟩ | ⟨e, e2, hk2⟩
  · rw [e, e2, h5]
    exact (from1 one left b1 b2 ts g o cap W h3 h4 hT (by omega)).mono (by rintro e w' ⟨rfl, rfl⟩; exact ⟨rfl, Below.refl _ _⟩)
  · have hv : lvF k ts = allT (ts[0]'(by omega)) 2 ts := by
      have : ts.headD 0 = ts[0]'(by omega) := by cases ts with | nil => simp at hl; omega | cons a l => rfl
      rw [← this]
      rcases hk2 with rfl | rfl <;> rfl
    rw [e, e2, hv]
    exact equal_ ts g o cap W hT (by omega) (by omega)
  · subst hk2
    have h3 : tkF 17 = 3 := rfl
    rw [h3] at hl
    obtain ⟨a, ts, rfl⟩ := List.exists_cons_of_ne_nil (show ts ≠ [] by intro e; simp [e] at hl)
    simp only [List.length_cons] at hl hc
    have hv : lvF 17 (a :: ts) = (if a = 2 then allT (ts[0]'(by omega)) (ts[0]'(by omega)) ts else 0) := by
      have : ts.headD 0 = ts[0]'(by omega) := by cases ts with | nil => simp at hl | cons a l => rfl
      rw [← this]
      rfl
    rw [e, e2, hv]
    exact choice_ a ts g o cap W hT (by omega) (by omega) (by omega)
  · subst hk2
    have hv : lvF 18 ts = allT (ts[0]'(by omega)) (ts[0]'(by omega)) ts := by
      have : ts.headD 0 = ts[0]'(by omega) := by cases ts with | nil => simp at hl; omega | cons a l => rfl
      rw [← this]
      rfl
    rw [e, e2, hv]
    exact either_ ts g o cap W hT (by omega) (by omega)
end Go.Proofs.YtdenddknbmiboaaDoor.Lex
namespace Go.Proofs.YtdenddknbmiboaaDoor.Lex
open Go.ChangeShapes Go.WideShapes Go.ChangeAt Go.RowKit Go.Joins
theorem wpList_mapIn {P : Program} {w w' : World} {ops : Array Oper} {rest : List Oper} {o : Oper} {a : Act} {Q : Exit → Act → World → Prop} (hg : o.guard = none) (m x v : Operand) (t : TypeId) (hop : o.op = Op.insert t m x v)
    (hrun : (Instr.mapUpdate t (a.eval m) (a.eval x) (a.eval v)).run P w = .ok () w') (hK : wpList P ops Q rest (a.put o.dst undef) w') : wpList P ops Q (o :: rest) a w := by
  refine wpList_plain hg fun K hk => ?_
  unfold Oper.wp execOp
  simp only [hop, Sem.run_bind, hrun, Result.andThen_ok, Sem.run_pure]
  exact hk _ _ hK
/-- An operator in its variable. -/
def OpRow (W : World) (b : Nat) (x : Opx) : Prop := W.heap[b]? = some (.cells #[.int .i64 x.t, .int .i64 x.a, .func (.func x.f) #[] (capV x.b)] 97 (0, 0))
theorem OpRow.keep {W W' : World} {b : Nat} {x : Opx} (h : OpRow W b x) (hb : Below W.heap.size W W') : OpRow W' b x := keep_row h hb
theorem OpRow.grown {W W' : World} {b m : Nat} {x : Opx} (h : OpRow W b x) (hg : W.grownBy W' (some m)) (hne : b ≠ m) : OpRow W' b x := (hg.block b (Array.getElem?_eq_some_iff.1 h).1 (by intro e; injection e with e; exact hne e)).trans h
theorem info97 : (Tryd.prog.info? 97).map (·.size) = some 3 := by kernel_rfl
/-- A function in its variables: what from has made. -/
structure FrS (W : World) (b1 b2 one left : Nat) : Prop where
  c1 : W.cell? ⟨b1, 0, none⟩ = some (.int .u8 (one : Int))
  c2 : W.cell? ⟨b2, 0, none⟩ = some (.int .u8 (left : Int))
theorem FrS.keep {W W' : World} {b1 b2 one left : Nat} (h : FrS W b1 b2 one left) (hb : Below W.heap.size W W') : FrS W' b1 b2 one left := ⟨cell_kept h.c1 hb, cell_kept h.c2 hb⟩
set_option maxRecDepth 100000 in
set_option maxHeartbeats 8000000 in
theorem operators_ (w : World) : Calls Tryd.prog 18 #[] w fun e w' => ∃ b, e = .returned (.map (some b)) ∧ Ops w' b ∧ Below w.heap.size w w' := by
  have hmm := @run_makeMap Tryd.prog
  have B0 := hid (Below.refl w.heap.size w)
  go_enter Tryd.func18, Tryd.ntmps18
  go_wp2_with (fail)
  refine (from_ 1 1 _).mono ?_
  rintro e w1 ⟨rfl, hb1, hc1, hd1⟩
  have F11 := hid (FrS.mk (W := w1) (b1 := w.heap.size) (b2 := w.heap.size + 1) (one := 1) (left := 1) hc1 hd1)
  have hal1 := (Below.refl w1.heap.size w1).alloc (Nat.le_refl _) (.cells #[.int .i64 1, .int .i64 0, .func (.func 59) #[] #[.pointer (some ⟨w.heap.size, 0, none⟩), .pointer (some ⟨w.heap.size + 1, 0, none⟩)]] 97)
  have S1 := hid hb1.size
  have B1 := hid (hb1.trans (hal1.mono hb1.size))
  clear hb1 hc1 hd1 hal1
  go_wp2_with (fail)
  refine (from_ 2 2 _).mono ?_
  rintro e w2 ⟨rfl, hb2, hc2, hd2⟩
  simp only [World.size_alloc] at hb2 hc2 hd2
  have F22 := hid (FrS.mk (W := w2) (b1 := w1.heap.size + 1) (b2 := w1.heap.size + 1 + 1) (one := 2) (left := 2) hc2 hd2)
  have hal2 := (Below.refl w2.heap.size w2).alloc (Nat.le_refl _) (.cells #[.int .i64 1, .int .i64 0, .func (.func 59) #[] #[.pointer (some ⟨w1.heap.size + 1, 0, none⟩), .pointer (some ⟨w1.heap.size + 1 + 1, 0, none⟩)]] 97)
  have hq2 := (Below.refl w1.heap.size w1).alloc (Nat.le_refl _) (.cells #[.int .i64 1, .int .i64 0, .func (.func 59) #[] #[.pointer (some ⟨w.heap.size, 0, none⟩), .pointer (some ⟨w.heap.size + 1, 0, none⟩)]] 97)
  have S2 := hid hb2.size
  have hr2 : Below (w1.alloc (.cells #[.int .i64 1, .int .i64 0, .func (.func 59) #[] #[.pointer (some ⟨w.heap.size, 0, none⟩), .pointer (some ⟨w.heap.size + 1, 0, none⟩)]] 97)).heap.size (w1.alloc (.cells #[.int .i64 1, .int .i64 0, .func (.func 59) #[] #[.pointer (some ⟨w.heap.size, 0, none⟩), .pointer (some ⟨w.heap.size + 1, 0, none⟩)]] 97)) w2 := by rw [World.size_alloc]; exact hb2
  have B2 := hid ((B1.out.trans (hr2.mono B1.out.size)).trans (hal2.mono (by have := B1.out.size; have := hr2.size; omega)))
  have F12 := hid ((F11.out.keep hq2).keep hr2)
  have R12 : Hid (OpRow w2 w1.heap.size ⟨1, 0, 59, some (w.heap.size, w.heap.size + 1)⟩) := hid (OpRow.keep (x := ⟨1, 0, 59, some (w.heap.size, w.heap.size + 1)⟩) (b := w1.heap.size) (heap_alloc_new _ _) hr2)
  clear hq2 hr2
  clear hb2 hc2 hd2 hal2
  go_wp2_with (fail)
  refine (from_ 1 1 _).mono ?_
  rintro e w3 ⟨rfl, hb3, hc3, hd3⟩
  simp only [World.size_alloc] at hb3 hc3 hd3
  have F33 := hid (FrS.mk (W := w3) (b1 := w2.heap.size + 1) (b2 := w2.heap.size + 1 + 1) (one := 1) (left := 1) hc3 hd3)
  have hal3 := (Below.refl w3.heap.size w3).alloc (Nat.le_refl _) (.cells #[.int .i64 2, .int .i64 0, .func (.func 59) #[] #[.pointer (some ⟨w2.heap.size + 1, 0, none⟩), .pointer (some ⟨w2.heap.size + 1 + 1, 0, none⟩)]] 97)
  have hq3 := (Below.refl w2.heap.size w2).alloc (Nat.le_refl _) (.cells #[.int .i64 1, .int .i64 0, .func (.func 59) #[] #[.pointer (some ⟨w1.heap.size + 1, 0, none⟩), .pointer (some ⟨w1.heap.size + 1 + 1, 0, none⟩)]] 97)
  have S3 := hid hb3.size
  have hr3 : Below (w2.alloc (.cells #[.int .i64 1, .int .i64 0, .func (.func 59) #[] #[.pointer (some ⟨w1.heap.size + 1, 0, none⟩), .pointer (some ⟨w1.heap.size + 1 + 1, 0, none⟩)]] 97)).heap.size (w2.alloc (.cells #[.int .i64 1, .int .i64 0, .func (.func 59) #[] #[.pointer (some ⟨w1.heap.size + 1, 0, none⟩), .pointer (some ⟨w1.heap.size + 1 + 1, 0, none⟩)]] 97)) w3 := by rw [World.size_alloc]; exact hb3
  have B3 := hid ((B2.out.trans (hr3.mono B2.out.size)).trans (hal3.mono (by have := B2.out.size; have := hr3.size; omega)))
  have F13 := hid ((F12.out.keep hq3).keep hr3)
  have R13 := hid ((R12.out.keep hq3).keep hr3)
  have F23 := hid ((F22.out.keep hq3).keep hr3)
  have R23 : Hid (OpRow w3 w2.heap.size ⟨1, 0, 59, some (w1.heap.size + 1, w1.heap.size + 1 + 1)⟩) := hid (OpRow.keep (x := ⟨1, 0, 59, some (w1.heap.size + 1, w1.heap.size + 1 + 1)⟩) (b := w2.heap.size) (heap_alloc_new _ _) hr3)
  clear hq3 hr3
  clear hb3 hc3 hd3 hal3
  go_wp2_with (fail)
  refine (from_ 2 2 _).mono ?_
  rintro e w4 ⟨rfl, hb4, hc4, hd4⟩
  simp only [World.size_alloc] at hb4 hc4 hd4
  have F44 := hid (FrS.mk (W := w4) (b1 := w3.heap.size + 1) (b2 := w3.heap.size + 1 + 1) (one := 2) (left := 2) hc4 hd4)
  have hal4 := (Below.refl w4.heap.size w4).alloc (Nat.le_refl _) (.cells #[.int .i64 2, .int .i64 0, .func (.func 59) #[] #[.pointer (some ⟨w3.heap.size + 1, 0, none⟩), .pointer (some ⟨w3.heap.size + 1 + 1, 0, none⟩)]] 97)
  have hq4 := (Below.refl w3.heap.size w3).alloc (Nat.le_refl _) (.cells #[.int .i64 2, .int .i64 0, .func (.func 59) #[] #[.pointer (some ⟨w2.heap.size + 1, 0, none⟩), .pointer (some ⟨w2.heap.size + 1 + 1, 0, none⟩)]] 97)
  have S4 := hid hb4.size
  have hr4 : Below (w3.alloc (.cells #[.int .i64 2, .int .i64 0, .func (.func 59) #[] #[.pointer (some ⟨w2.heap.size + 1, 0, none⟩), .pointer (some ⟨w2.heap.size + 1 + 1, 0, none⟩)]] 97)).heap.size (w3.alloc (.cells #[.int .i64 2, .int .i64 0, .func (.func 59) #[] #[.pointer (some ⟨w2.heap.size + 1, 0, none⟩), .pointer (some ⟨w2.heap.size + 1 + 1, 0, none⟩)]] 97)) w4 := by rw [World.size_alloc]; exact hb4
  have B4 := hid ((B3.out.trans (hr4.mono B3.out.size)).trans (hal4.mono (by have := B3.out.size; have := hr4.size; omega)))
  have F14 := hid ((F13.out.keep hq4).keep hr4)
  have R14 := hid ((R13.out.keep hq4).keep hr4)
  have F24 := hid ((F23.out.keep hq4).keep hr4)
  have R24 := hid ((R23.out.keep hq4).keep hr4)
  have F34 := hid ((F33.out.keep hq4).keep hr4)
  have R34 : Hid (OpRow w4 w3.heap.size ⟨2, 0, 59, some (w2.heap.size + 1, w2.heap.size + 1 + 1)⟩) := hid (OpRow.keep (x := ⟨2, 0, 59, some (w2.heap.size + 1, w2.heap.size + 1 + 1)⟩) (b := w3.heap.size) (heap_alloc_new _ _) hr4)
  clear hq4 hr4
  clear hb4 hc4 hd4 hal4
  go_wp2_with (fail)
  refine (from_ 1 2 _).mono ?_
  rintro e w5 ⟨rfl, hb5, hc5, hd5⟩
  simp only [World.size_alloc] at hb5 hc5 hd5
  have F55 := hid (FrS.mk (W := w5) (b1 := w4.heap.size + 1) (b2 := w4.heap.size + 1 + 1) (one := 1) (left := 2) hc5 hd5)
  have hal5 := (Below.refl w5.heap.size w5).alloc (Nat.le_refl _) (.cells #[.int .i64 2, .int .i64 0, .func (.func 59) #[] #[.pointer (some ⟨w4.heap.size + 1, 0, none⟩), .pointer (some ⟨w4.heap.size + 1 + 1, 0, none⟩)]] 97)
  have hq5 := (Below.refl w4.heap.size w4).alloc (Nat.le_refl _) (.cells #[.int .i64 2, .int .i64 0, .func (.func 59) #[] #[.pointer (some ⟨w3.heap.size + 1, 0, none⟩), .pointer (some ⟨w3.heap.size + 1 + 1, 0, none⟩)]] 97)
  have S5 := hid hb5.size
  have hr5 : Below (w4.alloc (.cells #[.int .i64 2, .int .i64 0, .func (.func 59) #[] #[.pointer (some ⟨w3.heap.size + 1, 0, none⟩), .pointer (some ⟨w3.heap.size + 1 + 1, 0, none⟩)]] 97)).heap.size (w4.alloc (.cells #[.int .i64 2, .int .i64 0, .func (.func 59) #[] #[.pointer (some ⟨w3.heap.size + 1, 0, none⟩), .pointer (some ⟨w3.heap.size + 1 + 1, 0, none⟩)]] 97)) w5 := by rw [World.size_alloc]; exact hb5
  have B5 := hid ((B4.out.trans (hr5.mono B4.out.size)).trans (hal5.mono (by have := B4.out.size; have := hr5.size; omega)))
  have F15 := hid ((F14.out.keep hq5).keep hr5)
  have R15 := hid ((R14.out.keep hq5).keep hr5)
  have F25 := hid ((F24.out.keep hq5).keep hr5)
  have R25 := hid ((R24.out.keep hq5).keep hr5)
  have F35 := hid ((F34.out.keep hq5).keep hr5)
  have R35 := hid ((R34.out.keep hq5).keep hr5)
  have F45 := hid ((F44.out.keep hq5).keep hr5)
  have R45 : Hid (OpRow w5 w4.heap.size ⟨2, 0, 59, some (w3.heap.size + 1, w3.heap.size + 1 + 1)⟩) := hid (OpRow.keep (x := ⟨2, 0, 59, some (w3.heap.size + 1, w3.heap.size + 1 + 1)⟩) (b := w4.heap.size) (heap_alloc_new _ _) hr5)
  clear hq5 hr5
  clear hb5 hc5 hd5 hal5
  obtain ⟨V8, hV8⟩ : ∃ V, V = ((((w5.alloc (.cells #[.int .i64 2, .int .i64 0, .func (.func 59) #[] #[.pointer (some ⟨w4.heap.size + 1, 0, none⟩), .pointer (some ⟨w4.heap.size + 1 + 1, 0, none⟩)]] 97)).alloc (.cells #[.int .i64 2, .int .i64 0, .func (.func 38) #[] #[]] 97)).alloc (.cells #[.int .i64 3, .int .i64 0, .func (.func 39) #[] #[]] 97)).alloc (.map #[] 0)) := ⟨_, rfl⟩
  have k5 := (Below.refl w5.heap.size w5).alloc (Nat.le_refl _) (.cells #[.int .i64 2, .int .i64 0, .func (.func 59) #[] #[.pointer (some ⟨w4.heap.size + 1, 0, none⟩), .pointer (some ⟨w4.heap.size + 1 + 1, 0, none⟩)]] 97)
  have k6 := k5.alloc (by simp) (.cells #[.int .i64 2, .int .i64 0, .func (.func 38) #[] #[]] 97)
  have k7 := k6.alloc (by simp; omega) (.cells #[.int .i64 3, .int .i64 0, .func (.func 39) #[] #[]] 97)
  have k8' := k7.alloc (by simp; omega) (.map #[] 0)
  have k8 : Below w5.heap.size w5 V8 := by rw [hV8]; exact k8'
  have hsz : (((w5.alloc (.cells #[.int .i64 2, .int .i64 0, .func (.func 59) #[] #[.pointer (some ⟨w4.heap.size + 1, 0, none⟩), .pointer (some ⟨w4.heap.size + 1 + 1, 0, none⟩)]] 97)).alloc (.cells #[.int .i64 2, .int .i64 0, .func (.func 38) #[] #[]] 97)).alloc (.cells #[.int .i64 3, .int .i64 0, .func (.func 39) #[] #[]] 97)).heap.size = w5.heap.size + 1 + 1 + 1 := by simp
  have hs8 : V8.heap.size = w5.heap.size + 1 + 1 + 1 + 1 := by rw [hV8]; simp
  have B8 : Hid (Below w.heap.size w V8) := hid (by rw [hV8]; exact ((B5.out.alloc B5.out.size (.cells #[.int .i64 2, .int .i64 0, .func (.func 38) #[] #[]] 97)).alloc (Nat.le_trans B5.out.size (by simp)) (.cells #[.int .i64 3, .int .i64 0, .func (.func 39) #[] #[]] 97)).alloc (Nat.le_trans B5.out.size (by simp only [World.size_alloc]; omega)) (.map #[] 0))
  have M0 : Hid (OMap V8 (w5.heap.size + 1 + 1 + 1) 0 (fun _ => none)) := hid (by rw [hV8]; exact hsz ▸ OMap.new (((w5.alloc (.cells #[.int .i64 2, .int .i64 0, .func (.func 59) #[] #[.pointer (some ⟨w4.heap.size + 1, 0, none⟩), .pointer (some ⟨w4.heap.size + 1 + 1, 0, none⟩)]] 97)).alloc (.cells #[.int .i64 2, .int .i64 0, .func (.func 38) #[] #[]] 97)).alloc (.cells #[.int .i64 3, .int .i64 0, .func (.func 39) #[] #[]] 97)))
  have y1 := R15.out.keep k8
  have y2 := R25.out.keep k8
  have y3 := R35.out.keep k8
  have y4 := R45.out.keep k8
  have y5 : OpRow V8 w5.heap.size ⟨2, 0, 59, some (w4.heap.size + 1, w4.heap.size + 1 + 1)⟩ := by rw [hV8]; exact push_old (push_old (push_old (heap_alloc_new _ _)))
  have y6 : OpRow V8 (w5.heap.size + 1) ⟨2, 0, 38, none⟩ := by rw [hV8]; exact push_old (push_old (push_new _ _ _ (by simp)))
  have y7 : OpRow V8 (w5.heap.size + 1 + 1) ⟨3, 0, 39, none⟩ := by rw [hV8]; exact push_old (push_new _ _ _ (by simp))
  have z1 := F15.out.keep k8
  have z2 := F25.out.keep k8
  have z3 := F35.out.keep k8
  have z4 := F45.out.keep k8
  have z5 := F55.out.keep k8
  have n1 := S1.out
  have n2 := S2.out
  have n3 := S3.out
  have n4 := S4.out
  have n5 := S5.out
  simp only [World.size_alloc] at n2 n3 n4 n5
  have l1 := World.block_lt_of_cell? _ _ z1.c2
  dsimp only at l1
  rw [hs8] at l1
  have H0 := Below.refl (w5.heap.size + 1 + 1 + 1) V8
  clear k5 k6 k7 k8' k8
  obtain ⟨W1, r1, m1, g1⟩ := M0.out.update (by unfold maxLen; omega) (k := 4) (by omega) ⟨1, 0, 59, some (w.heap.size, w.heap.size + 1)⟩
  have M1 := hid m1
  have H1 := H0.grown g1 (Nat.le_trans (by rw [hs8]; omega) H0.size) (fun j hj => by cases hj; exact Nat.le_refl _)
  clear m1
  obtain ⟨W2, r2, m2, g2⟩ := M1.out.update (by unfold maxLen; omega) (k := 5) (by omega) ⟨1, 0, 59, some (w1.heap.size + 1, w1.heap.size + 1 + 1)⟩
  have M2 := hid m2
  have H2 := H1.grown g2 (Nat.le_trans (by rw [hs8]; omega) H1.size) (fun j hj => by cases hj; exact Nat.le_refl _)
  clear m2
  obtain ⟨W3, r3, m3, g3⟩ := M2.out.update (by unfold maxLen; omega) (k := 6) (by omega) ⟨2, 0, 59, some (w2.heap.size + 1, w2.heap.size + 1 + 1)⟩
  have M3 := hid m3
  have H3 := H2.grown g3 (Nat.le_trans (by rw [hs8]; omega) H2.size) (fun j hj => by cases hj; exact Nat.le_refl _)
  clear m3
  obtain ⟨W4, r4, m4, g4⟩ := M3.out.update (by unfold maxLen; omega) (k := 7) (by omega) ⟨2, 0, 59, some (w2.heap.size + 1, w2.heap.size + 1 + 1)⟩
  have M4 := hid m4
  have H4 := H3.grown g4 (Nat.le_trans (by rw [hs8]; omega) H3.size) (fun j hj => by cases hj; exact Nat.le_refl _)
  clear m4
  obtain ⟨W5, r5, m5, g5⟩ := M4.out.update (by unfold maxLen; omega) (k := 8) (by omega) ⟨2, 0, 59, some (w2.heap.size + 1, w2.heap.size + 1 + 1)⟩
  have M5 := hid m5
  have H5 := H4.grown g5 (Nat.le_trans (by rw [hs8]; omega) H4.size) (fun j hj => by cases hj; exact Nat.le_refl _)
  clear m5
  obtain ⟨W6, r6, m6, g6⟩ := M5.out.update (by unfold maxLen; omega) (k := 9) (by omega) ⟨2, 0, 59, some (w2.heap.size + 1, w2.heap.size + 1 + 1)⟩
  have M6 := hid m6
  have H6 := H5.grown g6 (Nat.le_trans (by rw [hs8]; omega) H5.size) (fun j hj => by cases hj; exact Nat.le_refl _)
  clear m6
  obtain ⟨W7, r7, m7, g7⟩ := M6.out.update (by unfold maxLen; omega) (k := 10) (by omega) ⟨2, 0, 59, some (w2.heap.size + 1, w2.heap.size + 1 + 1)⟩
  have M7 := hid m7
  have H7 := H6.grown g7 (Nat.le_trans (by rw [hs8]; omega) H6.size) (fun j hj => by cases hj; exact Nat.le_refl _)
  clear m7
  obtain ⟨W8, r8, m8, g8⟩ := M7.out.update (by unfold maxLen; omega) (k := 15) (by omega) ⟨2, 0, 59, some (w3.heap.size + 1, w3.heap.size + 1 + 1)⟩
  have M8 := hid m8
  have H8 := H7.grown g8 (Nat.le_trans (by rw [hs8]; omega) H7.size) (fun j hj => by cases hj; exact Nat.le_refl _)
  clear m8
  obtain ⟨W9, r9, m9, g9⟩ := M8.out.update (by unfold maxLen; omega) (k := 16) (by omega) ⟨2, 0, 59, some (w3.heap.size + 1, w3.heap.size + 1 + 1)⟩
  have M9 := hid m9
  have H9 := H8.grown g9 (Nat.le_trans (by rw [hs8]; omega) H8.size) (fun j hj => by cases hj; exact Nat.le_refl _)
  clear m9
  obtain ⟨W10, r10, m10, g10⟩ := M9.out.update (by unfold maxLen; omega) (k := 13) (by omega) ⟨2, 0, 59, some (w4.heap.size + 1, w4.heap.size + 1 + 1)⟩
  have M10 := hid m10
  have H10 := H9.grown g10 (Nat.le_trans (by rw [hs8]; omega) H9.size) (fun j hj => by cases hj; exact Nat.le_refl _)
  clear m10
  obtain ⟨W11, r11, m11, g11⟩ := M10.out.update (by unfold maxLen; omega) (k := 14) (by omega) ⟨2, 0, 59, some (w4.heap.size + 1, w4.heap.size + 1 + 1)⟩
  have M11 := hid m11
  have H11 := H10.grown g11 (Nat.le_trans (by rw [hs8]; omega) H10.size) (fun j hj => by cases hj; exact Nat.le_refl _)
  clear m11
  obtain ⟨W12, r12, m12, g12⟩ := M11.out.update (by unfold maxLen; omega) (k := 11) (by omega) ⟨2, 0, 38, none⟩
  have M12 := hid m12
  have H12 := H11.grown g12 (Nat.le_trans (by rw [hs8]; omega) H11.size) (fun j hj => by cases hj; exact Nat.le_refl _)
  clear m12
  obtain ⟨W13, r13, m13, g13⟩ := M12.out.update (by unfold maxLen; omega) (k := 12) (by omega) ⟨2, 0, 38, none⟩
  have M13 := hid m13
  have H13 := H12.grown g13 (Nat.le_trans (by rw [hs8]; omega) H12.size) (fun j hj => by cases hj; exact Nat.le_refl _)
  clear m13
  obtain ⟨W14, r14, m14, g14⟩ := M13.out.update (by unfold maxLen; omega) (k := 17) (by omega) ⟨3, 0, 39, none⟩
  have M14 := hid m14
  have H14 := H13.grown g14 (Nat.le_trans (by rw [hs8]; omega) H13.size) (fun j hj => by cases hj; exact Nat.le_refl _)
  clear m14
  obtain ⟨W15, r15, m15, g15⟩ := M14.out.update (by unfold maxLen; omega) (k := 18) (by omega) ⟨2, 32, 40, none⟩
  have M15 := hid m15
  have H15 := H14.grown g15 (Nat.le_trans (by rw [hs8]; omega) H14.size) (fun j hj => by cases hj; exact Nat.le_refl _)
  clear m15
  have Y1 := hid y1
  have Y2 : Hid (OpRow W1 w2.heap.size ⟨1, 0, 59, some (w1.heap.size + 1, w1.heap.size + 1 + 1)⟩) := hid ((H1.block _ (by omega)).trans y2)
  have Y3 : Hid (OpRow W2 w3.heap.size ⟨2, 0, 59, some (w2.heap.size + 1, w2.heap.size + 1 + 1)⟩) := hid ((H2.block _ (by omega)).trans y3)
  have Y4 : Hid (OpRow W3 w3.heap.size ⟨2, 0, 59, some (w2.heap.size + 1, w2.heap.size + 1 + 1)⟩) := hid ((H3.block _ (by omega)).trans y3)
  have Y5 : Hid (OpRow W4 w3.heap.size ⟨2, 0, 59, some (w2.heap.size + 1, w2.heap.size + 1 + 1)⟩) := hid ((H4.block _ (by omega)).trans y3)
  have Y6 : Hid (OpRow W5 w3.heap.size ⟨2, 0, 59, some (w2.heap.size + 1, w2.heap.size + 1 + 1)⟩) := hid ((H5.block _ (by omega)).trans y3)
  have Y7 : Hid (OpRow W6 w3.heap.size ⟨2, 0, 59, some (w2.heap.size + 1, w2.heap.size + 1 + 1)⟩) := hid ((H6.block _ (by omega)).trans y3)
  have Y8 : Hid (OpRow W7 w4.heap.size ⟨2, 0, 59, some (w3.heap.size + 1, w3.heap.size + 1 + 1)⟩) := hid ((H7.block _ (by omega)).trans y4)
  have Y9 : Hid (OpRow W8 w4.heap.size ⟨2, 0, 59, some (w3.heap.size + 1, w3.heap.size + 1 + 1)⟩) := hid ((H8.block _ (by omega)).trans y4)
  have Y10 : Hid (OpRow W9 w5.heap.size ⟨2, 0, 59, some (w4.heap.size + 1, w4.heap.size + 1 + 1)⟩) := hid ((H9.block _ (by omega)).trans y5)
  have Y11 : Hid (OpRow W10 w5.heap.size ⟨2, 0, 59, some (w4.heap.size + 1, w4.heap.size + 1 + 1)⟩) := hid ((H10.block _ (by omega)).trans y5)
  have Y12 : Hid (OpRow W11 (w5.heap.size + 1) ⟨2, 0, 38, none⟩) := hid ((H11.block _ (by omega)).trans y6)
  have Y13 : Hid (OpRow W12 (w5.heap.size + 1) ⟨2, 0, 38, none⟩) := hid ((H12.block _ (by omega)).trans y6)
  have Y14 : Hid (OpRow W13 (w5.heap.size + 1 + 1) ⟨3, 0, 39, none⟩) := hid ((H13.block _ (by omega)).trans y7)
  have HB := hid H15
  have kc : ∀ (c o : Nat) (v : Value), c < w5.heap.size + 1 + 1 + 1 → V8.cell? ⟨c, o, none⟩ = some v → W15.cell? ⟨c, o, none⟩ = some v := fun c o v hc h => by
    rw [World.cell?_of_block (w := V8) (a := ⟨c, o, none⟩) (HB.out.block c hc)]
    exact h
  have c1 := kc _ _ _ (by omega) z1.c1
  have d1 := kc _ _ _ (by omega) z1.c2
  have c2 := kc _ _ _ (by omega) z2.c1
  have d2 := kc _ _ _ (by omega) z2.c2
  have c3 := kc _ _ _ (by omega) z3.c1
  have d3 := kc _ _ _ (by omega) z3.c2
  have c4 := kc _ _ _ (by omega) z4.c1
  have d4 := kc _ _ _ (by omega) z4.c2
  have c5 := kc _ _ _ (by omega) z5.c1
  have d5 := kc _ _ _ (by omega) z5.c2
  have CD := hid (And.intro c1 (And.intro d1 (And.intro c2 (And.intro d2 (And.intro c3 (And.intro d3 (And.intro c4 (And.intro d4 (And.intro c5 d5)))))))))
  clear H0 H1 H2 H3 H4 H5 H6 H7 H8 H9 H10 H11 H12 H13 H14 H15 g1 g2 g3 g4 g5 g6 g7 g8 g9 g10 g11 g12 g13 g14 g15 M0 M1 M2 M3 M4 M5 M6 M7 M8 M9 M10 M11 M12 M13 M14 y1 y2 y3 y4 y5 y6 y7 z1 z2 z3 z4 z5 c1 c2 c3 c4 c5 d1 d2 d3 d4 d5 kc l1 F11 F12 F22 F13 F23 F33 F14 F24 F34 F44 F15 F25 F35 F45 F55 R12 R13 R23 R14 R24 R34 R15 R25 R35 R45 n1 n2 n3 n4 n5
  go_wp2_with (first | (rw [← hV8]; clear hV8; refine wpList_load_row rfl 97 (.tmp 1) rfl (w1.heap.size) rfl 97 _ (0, 0) _ Y1.out Tryd.underlying97 rfl info97 ?_; simp only [Act.put, List.setIfInBounds_toArray, List.set_cons_zero, List.set_cons_succ]; refine wpList_mapIn rfl (.tmp 20) (.const (.int .u8 4)) (.tmp 21) 58 rfl r1 ?_; simp only [Act.put]; refine wpList_load_row rfl 97 (.tmp 2) rfl (w2.heap.size) rfl 97 _ (0, 0) _ Y2.out Tryd.underlying97 rfl info97 ?_; simp only [Act.put, List.setIfInBounds_toArray, List.set_cons_zero, List.set_cons_succ]; refine wpList_mapIn rfl (.tmp 20) (.const (.int .u8 5)) (.tmp 22) 58 rfl r2 ?_; simp only [Act.put]; refine wpList_load_row rfl 97 (.tmp 3) rfl (w3.heap.size) rfl 97 _ (0, 0) _ Y3.out Tryd.underlying97 rfl info97 ?_; simp only [Act.put, List.setIfInBounds_toArray, List.set_cons_zero, List.set_cons_succ]; refine wpList_mapIn rfl (.tmp 20) (.const (.int .u8 6)) (.tmp 23) 58 rfl r3 ?_; simp only [Act.put]; refine wpList_load_row rfl 97 (.tmp 3) rfl (w3.heap.size) rfl 97 _ (0, 0) _ Y4.out Tryd.underlying97 rfl info97 ?_; simp only [Act.put, List.setIfInBounds_toArray, List.set_cons_zero, List.set_cons_succ]; refine wpList_mapIn rfl (.tmp 20) (.const (.int .u8 7)) (.tmp 24) 58 rfl r4 ?_; simp only [Act.put]; refine wpList_load_row rfl 97 (.tmp 3) rfl (w3.heap.size) rfl 97 _ (0, 0) _ Y5.out Tryd.underlying97 rfl info97 ?_; simp only [Act.put, List.setIfInBounds_toArray, List.set_cons_zero, List.set_cons_succ]; refine wpList_mapIn rfl (.tmp 20) (.const (.int .u8 8)) (.tmp 25) 58 rfl r5 ?_; simp only [Act.put]; refine wpList_load_row rfl 97 (.tmp 3) rfl (w3.heap.size) rfl 97 _ (0, 0) _ Y6.out Tryd.underlying97 rfl info97 ?_; simp only [Act.put, List.setIfInBounds_toArray, List.set_cons_zero, List.set_cons_succ]; refine wpList_mapIn rfl (.tmp 20) (.const (.int .u8 9)) (.tmp 26) 58 rfl r6 ?_; simp only [Act.put]; refine wpList_load_row rfl 97 (.tmp 3) rfl (w3.heap.size) rfl 97 _ (0, 0) _ Y7.out Tryd.underlying97 rfl info97 ?_; simp only [Act.put, List.setIfInBounds_toArray, List.set_cons_zero, List.set_cons_succ]; refine wpList_mapIn rfl (.tmp 20) (.const (.int .u8 10)) (.tmp 27) 58 rfl r7 ?_; simp only [Act.put]; refine wpList_load_row rfl 97 (.tmp 4) rfl (w4.heap.size) rfl 97 _ (0, 0) _ Y8.out Tryd.underlying97 rfl info97 ?_; simp only [Act.put, List.setIfInBounds_toArray, List.set_cons_zero, List.set_cons_succ]; refine wpList_mapIn rfl (.tmp 20) (.const (.int .u8 15)) (.tmp 28) 58 rfl r8 ?_; simp only [Act.put]; refine wpList_load_row rfl 97 (.tmp 4) rfl (w4.heap.size) rfl 97 _ (0, 0) _ Y9.out Tryd.underlying97 rfl info97 ?_; simp only [Act.put, List.setIfInBounds_toArray, List.set_cons_zero, List.set_cons_succ]; refine wpList_mapIn rfl (.tmp 20) (.const (.int .u8 16)) (.tmp 29) 58 rfl r9 ?_; simp only [Act.put]; refine wpList_load_row rfl 97 (.tmp 5) rfl (w5.heap.size) rfl 97 _ (0, 0) _ Y10.out Tryd.underlying97 rfl info97 ?_; simp only [Act.put, List.setIfInBounds_toArray, List.set_cons_zero, List.set_cons_succ]; refine wpList_mapIn rfl (.tmp 20) (.const (.int .u8 13)) (.tmp 30) 58 rfl r10 ?_; simp only [Act.put]; refine wpList_load_row rfl 97 (.tmp 5) rfl (w5.heap.size) rfl 97 _ (0, 0) _ Y11.out Tryd.underlying97 rfl info97 ?_; simp only [Act.put, List.setIfInBounds_toArray, List.set_cons_zero, List.set_cons_succ]; refine wpList_mapIn rfl (.tmp 20) (.const (.int .u8 14)) (.tmp 31) 58 rfl r11 ?_; simp only [Act.put]; refine wpList_load_row rfl 97 (.tmp 6) rfl ((w5.heap.size + 1)) rfl 97 _ (0, 0) _ Y12.out Tryd.underlying97 rfl info97 ?_; simp only [Act.put, List.setIfInBounds_toArray, List.set_cons_zero, List.set_cons_succ]; refine wpList_mapIn rfl (.tmp 20) (.const (.int .u8 11)) (.tmp 32) 58 rfl r12 ?_; simp only [Act.put]; refine wpList_load_row rfl 97 (.tmp 6) rfl ((w5.heap.size + 1)) rfl 97 _ (0, 0) _ Y13.out Tryd.underlying97 rfl info97 ?_; simp only [Act.put, List.setIfInBounds_toArray, List.set_cons_zero, List.set_cons_succ]; refine wpList_mapIn rfl (.tmp 20) (.const (.int .u8 12)) (.tmp 33) 58 rfl r13 ?_; simp only [Act.put]; refine wpList_load_row rfl 97 (.tmp 7) rfl ((w5.heap.size + 1 + 1)) rfl 97 _ (0, 0) _ Y14.out Tryd.underlying97 rfl info97 ?_; simp only [Act.put, List.setIfInBounds_toArray, List.set_cons_zero, List.set_cons_succ]; refine wpList_mapIn rfl (.tmp 20) (.const (.int .u8 17)) (.tmp 34) 58 rfl r14 ?_; simp only [Act.put]) | (refine wpList_mapIn rfl (.tmp 20) (.const (.int .u8 18)) (.tmp 35) 58 rfl r15 ?_; clear r15))
  go_ret
  obtain ⟨c1, d1, c2, d2, c3, d3, c4, d4, c5, d5⟩ := CD.out
  refine ⟨_, rfl, ⟨_, _, M15.out, fun k hk => ?_⟩, B8.out.trans (HB.out.mono (by have := B5.out.size; rw [World.size_alloc] at this; omega))⟩
  by_cases hk2 : k < 19
  · have hc : k = 0 ∨ k = 1 ∨ k = 2 ∨ k = 3 ∨ k = 4 ∨ k = 5 ∨ k = 6 ∨ k = 7 ∨ k = 8 ∨ k = 9 ∨ k = 10 ∨ k = 11 ∨ k = 12 ∨ k = 13 ∨ k = 14 ∨ k = 15 ∨ k = 16 ∨ k = 17 ∨ k = 18 := by omega
    rcases hc with rfl | rfl | rfl | rfl | rfl | rfl | rfl | rfl | rfl | rfl | rfl | rfl | rfl | rfl | rfl | rfl | rfl | rfl | rfl
    · rfl
    · rfl
    · rfl
    · rfl
    · exact ⟨⟨1, 0, 59, some (w.heap.size, w.heap.size + 1)⟩, rfl, rfl, rfl, .inl ⟨rfl, _, _, 1, 1, rfl, c1, d1, fun _ => rfl⟩⟩
    · exact ⟨⟨1, 0, 59, some (w1.heap.size + 1, w1.heap.size + 1 + 1)⟩, rfl, rfl, rfl, .inl ⟨rfl, _, _, 2, 2, rfl, c2, d2, fun _ => rfl⟩⟩
    · exact ⟨⟨2, 0, 59, some (w2.heap.size + 1, w2.heap.size + 1 + 1)⟩, rfl, rfl, rfl, .inl ⟨rfl, _, _, 1, 1, rfl, c3, d3, fun _ => rfl⟩⟩
    · exact ⟨⟨2, 0, 59, some (w2.heap.size + 1, w2.heap.size + 1 + 1)⟩, rfl, rfl, rfl, .inl ⟨rfl, _, _, 1, 1, rfl, c3, d3, fun _ => rfl⟩⟩
    · exact ⟨⟨2, 0, 59, some (w2.heap.size + 1, w2.heap.size + 1 + 1)⟩, rfl, rfl, rfl, .inl ⟨rfl, _, _, 1, 1, rfl, c3, d3, fun _ => rfl⟩⟩
    · exact ⟨⟨2, 0, 59, some (w2.heap.size + 1, w2.heap.size + 1 + 1)⟩, rfl, rfl, rfl, .inl ⟨rfl, _, _, 1, 1, rfl, c3, d3, fun _ => rfl⟩⟩
    · exact ⟨⟨2, 0, 59, some (w2.heap.size + 1, w2.heap.size + 1 + 1)⟩, rfl, rfl, rfl, .inl ⟨rfl, _, _, 1, 1, rfl, c3, d3, fun _ => rfl⟩⟩
    · exact ⟨⟨2, 0, 38, none⟩, rfl, rfl, rfl, .inr (.inl ⟨rfl, rfl, by decide⟩)⟩
    · exact ⟨⟨2, 0, 38, none⟩, rfl, rfl, rfl, .inr (.inl ⟨rfl, rfl, by decide⟩)⟩
    · exact ⟨⟨2, 0, 59, some (w4.heap.size + 1, w4.heap.size + 1 + 1)⟩, rfl, rfl, rfl, .inl ⟨rfl, _, _, 1, 2, rfl, c5, d5, fun _ => rfl⟩⟩
    · exact ⟨⟨2, 0, 59, some (w4.heap.size + 1, w4.heap.size + 1 + 1)⟩, rfl, rfl, rfl, .inl ⟨rfl, _, _, 1, 2, rfl, c5, d5, fun _ => rfl⟩⟩
    · exact ⟨⟨2, 0, 59, some (w3.heap.size + 1, w3.heap.size + 1 + 1)⟩, rfl, rfl, rfl, .inl ⟨rfl, _, _, 2, 2, rfl, c4, d4, fun _ => rfl⟩⟩
    · exact ⟨⟨2, 0, 59, some (w3.heap.size + 1, w3.heap.size + 1 + 1)⟩, rfl, rfl, rfl, .inl ⟨rfl, _, _, 2, 2, rfl, c4, d4, fun _ => rfl⟩⟩
    · exact ⟨⟨3, 0, 39, none⟩, rfl, rfl, rfl, .inr (.inr (.inl ⟨rfl, rfl, rfl⟩))⟩
    · exact ⟨⟨2, 32, 40, none⟩, rfl, rfl, rfl, .inr (.inr (.inr ⟨rfl, rfl, rfl⟩))⟩
  · unfold RuleK
    rw [if_neg (show ¬ (4 ≤ k ∧ k ≤ 18) by omega)]
    rw [if_neg (show ¬ k = 18 by omega), if_neg (show ¬ k = 17 by omega), if_neg (show ¬ k = 12 by omega), if_neg (show ¬ k = 11 by omega), if_neg (show ¬ k = 14 by omega), if_neg (show ¬ k = 13 by omega), if_neg (show ¬ k = 16 by omega), if_neg (show ¬ k = 15 by omega), if_neg (show ¬ k = 10 by omega), if_neg (show ¬ k = 9 by omega), if_neg (show ¬ k = 8 by omega), if_neg (show ¬ k = 7 by omega), if_neg (show ¬ k = 6 by omega), if_neg (show ¬ k = 5 by omega), if_neg (show ¬ k = 4 by omega)]
end Go.Proofs.YtdenddknbmiboaaDoor.Lex
namespace Go.Proofs.YtdenddknbmiboaaDoor.Lex
open Go.ChangeShapes Go.WideShapes Go.ChangeAt Go.RowKit Go.Joins
attribute [local go_sem] Oper.semAt_some
/-- A program and a cut in their variables. -/
structure PbI (w : World) (p : Pg) (A B C : Value) (s : Int) (mb cb : Nat) (W : World) : Prop where
  fv : FV w p A B C W
  cut : CutAt W cb (cutC p A B C s mb)
  am : AMr W mb (akAll p)
theorem PbI.keep {w W W' : World} {p : Pg} {A B C : Value} {s : Int} {mb cb : Nat} (h : PbI w p A B C s mb cb W) (hb : Below W.heap.size W W') : PbI w p A B C s mb cb W' := ⟨h.fv.keep hb, h.cut.keep hb, h.am.keep hb⟩
theorem PbI.cells {w W : World} {p : Pg} {A B C : Value} {s : Int} {mb cb : Nat} (h : PbI w p A B C s mb cb W) : (W.cell? ⟨w.heap.size, 0, none⟩ = some (.int .i64 p.st) ∧ W.cell? ⟨w.heap.size, 1, none⟩ = some A ∧ W.cell? ⟨w.heap.size, 2, none⟩ = some B ∧ W.cell? ⟨w.heap.size, 3, none⟩ = some C) ∧ W.cell? ⟨cb, 0, none⟩ = some (.int .i64 p.st) ∧ W.cell? ⟨cb, 1, none⟩ = some A ∧ W.cell? ⟨cb, 2, none⟩ = some B ∧ W.cell? ⟨cb, 3, none⟩ = some C ∧ W.cell? ⟨cb, 4, none⟩ = some (.int .i64 s) ∧ W.cell? ⟨cb, 5, none⟩ = some (.map (some mb)) := ⟨row4 h.fv.row, h.cut.cells⟩
theorem lls_one {W : World} {g : Nat} {u : Value} {l : List ByteArray} (h : TxR W u l) (hg : W.heap[g]? = some (.cells #[u] 44 (0, 0))) : LLs W (.slice (some ⟨g, 0, none⟩) 1 1) [l] :=
  ⟨_, 1, rfl, .inr ⟨g, 0, rfl, fun i hi => by
    have : i = 0 := by simp at hi; omega
    subst this
    exact ⟨u, (cell_of_row _ _ _ _ 44 (0, 0) hg).trans rfl, h⟩⟩⟩
theorem ak_len {p : Pg} (hE : nmErr p = 0) : (akAll p).length ≤ 1000000 := by
  have h1 := akN_len (nm_chk hE) p.flows.length (Nat.le_refl _)
  have h2 := pgOk_few hE
  unfold akAll
  omega
theorem decl_few {p : Pg} (hE : nmErr p = 0) (s : Int) : [declL p s].flatten.length ≤ 1000000 := by
  have h1 := decl_len p s
  have h2 := pgOk_few hE
  have : [declL p s].flatten = declL p s := by simp
  rw [this]
  omega
theorem decl_nmk {p : Pg} (hE : nmErr p = 0) (s : Int) : ∀ nm ∈ declL p s, NmK nm := fun nm h => by
  obtain ⟨x, hx, e, _⟩ := declL_mem.1 h
  rw [← e]
  exact thing_nmk (nmErr_zero hE).1 hx
theorem decl_nmk1 {p : Pg} (hE : nmErr p = 0) (s : Int) : ∀ nm ∈ [declL p s].flatten, NmK nm := by
  have : [declL p s].flatten = declL p s := by simp
  rw [this]
  exact decl_nmk hE s
theorem st_nm {p : Pg} {s : Int} (h : stOk p s = true) : nmErr p = 0 := by
  unfold stOk at h
  simp only [Bool.and_eq_true, decide_eq_true_eq] at h
  exact h.1
/-- What is sent, what is needed. -/
def sendsA (p : Pg) (s : Int) : List ByteArray := if stOk p s then sentF s (akAll p) (declL p s) else []
def needsA (p : Pg) (s : Int) : List ByteArray := if stOk p s then needL p s else []
end Go.Proofs.YtdenddknbmiboaaDoor.Lex
