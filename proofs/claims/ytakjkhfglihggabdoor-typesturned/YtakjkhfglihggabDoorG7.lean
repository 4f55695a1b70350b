/-
  The contracts of TwinIns and TwinTexts.
  The contracts of TwinFlow and TwinFlows.
  The contract of TwinProg.
  A program's twin whose flows are exchanged one by one: what stands while that is done.
  What has a type, and what its parts have: plain mathematics.
  fits: may a default be of a type.
  Is each flow of its type: the contract of types.Check.
  A program with its flows in another order, at another station: plain mathematics.
  A program's twin whose flows are exchanged one by one, and put at one station: what stands while that is done.
-/
import Derived.Test.YtakjkhfglihggabDoorG4
import Derived.Test.YtakjkhfglihggabDoorG5
import Derived.Deep.MidRow
import Derived.Test.YtakjkhfglihggabDoorG6
namespace Go.Proofs.YtakjkhfglihggabDoor.Lex
open Go.ChangeShapes Go.WideShapes Go.ChangeAt Go.RowKit Go.Joins
theorem info44' : (Tryd.prog.info? 54).map (fun i => (i.zero, i.size, i.bytes)) = some (some (.agg #[.string ByteArray.empty, .int .u8 0, .int .i64 0]), 3, 32) := by kernel_rfl
theorem info9' : (Tryd.prog.info? 9).map (fun i => (i.zero, i.size, i.bytes)) = some (some (.string ByteArray.empty), 1, 16) := by kernel_rfl
set_option maxRecDepth 100000 in
set_option maxHeartbeats 2000000 in
theorem twin_ins (l : List Hd) (w : World) (s : Value) (hS : InsAt w l s) :
    Calls Tryd.prog 17 #[s] w fun e w' => ∃ s', e = .returned s' ∧ TwIns w' w.heap.size l s' ∧ Below w.heap.size w w' := by
  obtain ⟨ao, cap, rfl, hlen, _, hok, hc⟩ := hS
  have HC := hid hc
  have HO := hid hok
  obtain ⟨i0, hi, hi0, hi1, hi2⟩ := info_parts info44'
  clear hc hok
  go_enter Tryd.func17, Tryd.ntmps17
  go_wp2_with (at_make; refine wpList_make_own w rfl (.const (.int .i64 0)) (.tmp 7) 22 rfl w.heap.size 54 i0 _ 3 Tryd.underlying22 hi hi0 hi1 .i64 .i64 _ (l.length + 1) rfl rfl (by omega) (by rw [hi2]; omega) (by unfold maxLen; omega) (Nat.le_refl _) ?_; intro w1 hown1 hgrow1; have M1 := hid (MkR.start (t := 54) (c := 3) (n := l.length) hown1 hgrow1); clear hown1 hgrow1)
  go_loopw [3, 4] (fun v i wr => ∃ (k : Nat), k ≤ l.length ∧ v = .slice (some ⟨w.heap.size, 0, none⟩) k (l.length + 1) ∧ i = .int .i64 (k : Int) ∧ Hid (MkR w 54 3 l.length ((l.take k).map hdL) wr)) (fun _ i _ => l.length - (intOf i).toNat)
  case atStart => exact ⟨0, Nat.zero_le _, rfl, rfl, by simpa using M1⟩
  case round =>
    obtain ⟨k, hk, rfl, rfl, hM⟩ := hrel
    have hl' : ((l.take k).map hdL).length = k := by simp; omega
    by_cases hlt : k < l.length
    · have hlt' : (k : Int) < (l.length : Int) := by omega
      have hk0 : (0 : Int) ≤ (k : Int) := by omega
      obtain ⟨bb, o, rfl, hcc⟩ := HC.out.resolve_left (by omega)
      obtain ⟨v0, v1, v2⟩ := (hcc k hlt).keep hM.out.below
      have HT : Hid ((l.take (k + 1)).map hdL = (l.take k).map hdL ++ [hdL l[k]]) := hid (by rw [List.take_succ_eq_append_getElem hlt, List.map_append]; rfl)
      have HL := hid hl'
      clear hcc hl'
      generalize l[k] = y at *
      generalize (l.take k).map hdL = es at *
      have M2 := hid (hM.out.step ((Below.refl _ _).alloc (Nat.le_refl _) (.cells #[.string y.name, .int .u8 (y.ty : Int), .int .i64 y.st] 54)))
      have M2r := hid (show _ from by have := M2.out.row; rw [HL.out] at this; exact this)
      have N2 := hid (next_cells wr (hdL y) 54)
      go_wp2_with (at_builtin; refine wpList_append_fits _ rfl (.tmp 15) (.tmp 20) 22 rfl w.heap.size 54 i0 3 Tryd.underlying22 hi hi1 w.heap.size k (l.length + 1) es.flatten rfl M2r.out ⟨wr.heap.size, 0, none⟩ 1 1 (hdL y) rfl rfl N2.out (by simp [Value.oneCell']) (by omega) ?_; intro w4 hown4 hgrow4; have M4 := hid (M2.out.grow HL.out rfl hown4 hgrow4); clear hown4 hgrow4)
      go_roundw
      case rel => exact ⟨k + 1, by omega, rfl, by go_num, hid (by rw [HT.out]; exact M4.out)⟩
      case measure => simp [intOf]; omega
    · have hlt' : ¬ (k : Int) < (l.length : Int) := by omega
      obtain rfl : k = l.length := by omega
      rw [List.take_length] at hM hl'
      have M2 := hid (hM.out.step ((Below.refl _ _).alloc (Nat.le_refl _) (.cells #[.string spare, .int .u8 0, .int .i64 0] 54)))
      have M2r := hid (show _ from by have := M2.out.row; rw [hl'] at this; exact this)
      have N2 := hid (next_cells wr (hdL ⟨spare, 0, 0⟩) 54)
      have HL := hid hl'
      clear hl'
      go_wp2_with (at_builtin; refine wpList_append_fits _ rfl (.tmp 22) (.tmp 24) 22 rfl w.heap.size 54 i0 3 Tryd.underlying22 hi hi1 w.heap.size l.length (l.length + 1) (l.map hdL).flatten rfl M2r.out ⟨wr.heap.size, 0, none⟩ 1 1 (hdL ⟨spare, 0, 0⟩) rfl rfl N2.out (by simp [Value.oneCell']) (by omega) ?_; intro w4 hown4 hgrow4; have C4 := hid (MkR.cells M2.out.each HL.out rfl hown4); have K4 := hid (Blk.of_row hown4); have B4 := hid (M2.out.below.grown hgrow4 M2.out.below.size (fun j hj => by cases hj; exact Nat.le_refl _)); clear hown4 hgrow4)
      go_ret
      refine ⟨_, rfl, ⟨w.heap.size, l.length + 1, rfl, Nat.le_refl _, hlen, by omega, HO.out, fun i hi => ?_, ?_, K4.out⟩, B4.out⟩
      · have he : (l.map hdL)[i]? = some (hdL l[i]) := by rw [List.getElem?_map, List.getElem?_eq_getElem hi]; rfl
        exact ⟨C4.out.1 i _ 0 _ he rfl, C4.out.1 i _ 1 _ he rfl, C4.out.1 i _ 2 _ he rfl⟩
      · exact ⟨C4.out.2 0 _ rfl, C4.out.2 1 _ rfl, C4.out.2 2 _ rfl⟩
abbrev txL (x : ByteArray) : List Value := [.string x]
set_option maxRecDepth 100000 in
set_option maxHeartbeats 2000000 in
theorem twin_texts (l : List ByteArray) (w : World) (s : Value) (hS : TextsAt w l s) :
    Calls Tryd.prog 19 #[s] w fun e w' => ∃ s', e = .returned s' ∧ TwTexts w' w.heap.size l s' ∧ Below w.heap.size w w' := by
  obtain ⟨ao, cap, rfl, hlen, _, hok, hc⟩ := hS
  have HC := hid hc
  have HO := hid hok
  obtain ⟨i0, hi, hi0, hi1, hi2⟩ := info_parts info9'
  clear hc hok
  go_enter Tryd.func19, Tryd.ntmps19
  go_wp2_with (at_make; refine wpList_make_own w rfl (.const (.int .i64 0)) (.tmp 7) 24 rfl w.heap.size 9 i0 _ 1 Tryd.underlying24 hi hi0 hi1 .i64 .i64 _ (l.length + 1) rfl rfl (by omega) (by rw [hi2]; omega) (by unfold maxLen; omega) (Nat.le_refl _) ?_; intro w1 hown1 hgrow1; have M1 := hid (MkR.start (t := 9) (c := 1) (n := l.length) hown1 hgrow1); clear hown1 hgrow1)
  go_loopw [3, 4] (fun v i wr => ∃ (k : Nat), k ≤ l.length ∧ v = .slice (some ⟨w.heap.size, 0, none⟩) k (l.length + 1) ∧ i = .int .i64 (k : Int) ∧ Hid (MkR w 9 1 l.length ((l.take k).map txL) wr)) (fun _ i _ => l.length - (intOf i).toNat)
  case atStart => exact ⟨0, Nat.zero_le _, rfl, rfl, by simpa using M1⟩
  case round =>
    obtain ⟨k, hk, rfl, rfl, hM⟩ := hrel
    have hl' : ((l.take k).map txL).length = k := by simp; omega
    by_cases hlt : k < l.length
    · have hlt' : (k : Int) < (l.length : Int) := by omega
      have hk0 : (0 : Int) ≤ (k : Int) := by omega
      obtain ⟨bb, o, rfl, hcc⟩ := HC.out.resolve_left (by omega)
      have v0 := cell_kept (hcc k hlt) hM.out.below
      have HT : Hid ((l.take (k + 1)).map txL = (l.take k).map txL ++ [txL l[k]]) := hid (by rw [List.take_succ_eq_append_getElem hlt, List.map_append]; rfl)
      have HL := hid hl'
      clear hcc hl'
      generalize l[k] = y at *
      generalize (l.take k).map txL = es at *
      have M2 := hid (hM.out.step ((Below.refl _ _).alloc (Nat.le_refl _) (.cells #[.string y] 9)))
      have M2r := hid (show _ from by have := M2.out.row; rw [HL.out] at this; exact this)
      have N2 := hid (next_cells wr (txL y) 9)
      go_wp2_with (at_builtin; refine wpList_append_fits _ rfl (.tmp 15) (.tmp 20) 24 rfl w.heap.size 9 i0 1 Tryd.underlying24 hi hi1 w.heap.size k (l.length + 1) es.flatten rfl M2r.out ⟨wr.heap.size, 0, none⟩ 1 1 (txL y) rfl rfl N2.out (by simp [Value.oneCell']) (by omega) ?_; intro w4 hown4 hgrow4; have M4 := hid (M2.out.grow HL.out rfl hown4 hgrow4); clear hown4 hgrow4)
      go_roundw
      case rel => exact ⟨k + 1, by omega, rfl, by go_num, hid (by rw [HT.out]; exact M4.out)⟩
      case measure => simp [intOf]; omega
    · have hlt' : ¬ (k : Int) < (l.length : Int) := by omega
      obtain rfl : k = l.length := by omega
      rw [List.take_length] at hM hl'
      have M2 := hid (hM.out.step ((Below.refl _ _).alloc (Nat.le_refl _) (.cells #[.string spare] 9)))
      have M2r := hid (show _ from by have := M2.out.row; rw [hl'] at this; exact this)
      have N2 := hid (next_cells wr (txL spare) 9)
      have HL := hid hl'
      clear hl'
      go_wp2_with (at_builtin; refine wpList_append_fits _ rfl (.tmp 22) (.tmp 23) 24 rfl w.heap.size 9 i0 1 Tryd.underlying24 hi hi1 w.heap.size l.length (l.length + 1) (l.map txL).flatten rfl M2r.out ⟨wr.heap.size, 0, none⟩ 1 1 (txL spare) rfl rfl N2.out (by simp [Value.oneCell']) (by omega) ?_; intro w4 hown4 hgrow4; have C4 := hid (MkR.cells M2.out.each HL.out rfl hown4); have K4 := hid (Blk.of_row hown4); have B4 := hid (M2.out.below.grown hgrow4 M2.out.below.size (fun j hj => by cases hj; exact Nat.le_refl _)); clear hown4 hgrow4)
      go_ret
      refine ⟨_, rfl, ⟨w.heap.size, l.length + 1, rfl, Nat.le_refl _, hlen, by omega, HO.out, fun i hi => ?_, ?_, K4.out⟩, B4.out⟩
      · have he : (l.map txL)[i]? = some (txL l[i]) := by rw [List.getElem?_map, List.getElem?_eq_getElem hi]; rfl
        simpa using C4.out.1 i _ 0 _ he rfl
      · simpa using C4.out.2 0 _ rfl
end Go.Proofs.YtakjkhfglihggabDoor.Lex
namespace Go.Proofs.YtakjkhfglihggabDoor.Lex
open Go.ChangeShapes Go.WideShapes Go.ChangeAt Go.RowKit Go.Joins
theorem info50 : (Tryd.prog.info? 38).map (·.size) = some 8 := by kernel_rfl
theorem info50' : (Tryd.prog.info? 38).map (fun i => (i.zero, i.size, i.bytes)) = some (some (.agg #[.string ByteArray.empty, .int .u8 0, .int .i64 0, .int .i64 0, .int .u8 0, .int .i64 0, .string ByteArray.empty, .slice none 0 0]), 8, 96) := by kernel_rfl
set_option maxRecDepth 100000 in
set_option maxHeartbeats 1000000 in
theorem twin_flow (x : Fl) (w : World) (s : Value) (hS : St w x.body s) :
    Calls Tryd.prog 33 #[flV x s] w fun e w' => ∃ s', e = .returned (flV x s') ∧ Tw w' w.heap.size x.body s' ∧ Below w.heap.size w w' := by
  obtain ⟨ao, cap, sl, rfl, _⟩ := hS.out
  have b1 := (Below.refl w.heap.size w).alloc (Nat.le_refl _) (.cells #[.string x.name, .int .u8 (x.ty : Int), .int .i64 x.st, .int .i64 x.df, .int .u8 (x.body.op : Int), .int .i64 x.body.n, .string x.body.name, .slice ao x.body.args.length cap] 38)
  have b2 := bstep b1 ((Below.refl _ _).alloc (Nat.le_refl _) (.cells #[.string ByteArray.empty, .int .u8 0, .int .i64 0, .int .i64 0, .int .u8 0, .int .i64 0, .string ByteArray.empty, .slice none 0 0] 38))
  have c := fun W (hb : Below w.heap.size w W) => twin_any _ x.body (Nat.le_refl _) W _ (hS.keep hb)
  have H2 := hid b2
  have B0 := box_first w #[.string x.name, .int .u8 (x.ty : Int), .int .i64 x.st, .int .i64 x.df, .int .u8 (x.body.op : Int), .int .i64 x.body.n, .string x.body.name, .slice ao x.body.args.length cap] #[.string ByteArray.empty, .int .u8 0, .int .i64 0, .int .i64 0, .int .u8 0, .int .i64 0, .string ByteArray.empty, .slice none 0 0] 38
  clear hS b1 b2
  go_enter Tryd.func33, Tryd.ntmps33
  go_wp2
  refine wp_region_held_drew (S := fun W => W.cell? ⟨w.heap.size, 0, none⟩ = some (.string x.name) ∧ W.cell? ⟨w.heap.size, 1, none⟩ = some (.int .u8 (x.ty : Int)) ∧ W.cell? ⟨w.heap.size, 2, none⟩ = some (.int .i64 x.st) ∧ W.cell? ⟨w.heap.size, 3, none⟩ = some (.int .i64 x.df) ∧ W.cell? ⟨w.heap.size, 4, none⟩ = some (.int .u8 (x.body.op : Int)) ∧ W.cell? ⟨w.heap.size, 5, none⟩ = some (.int .i64 x.body.n) ∧ W.cell? ⟨w.heap.size, 6, none⟩ = some (.string x.body.name) ∧ W.cell? ⟨w.heap.size, 7, none⟩ = some (.slice ao x.body.args.length cap)) (by kernel_rfl) ?_ (fun hHeld => ?_)
  · exact ⟨B0 0 _ rfl, B0 1 _ rfl, B0 2 _ rfl, B0 3 _ rfl, B0 4 _ rfl, B0 5 _ rfl, B0 6 _ rfl, B0 7 _ rfl⟩
  refine wpAnyH_take (i := 0) (oi := { dst := some 3, op := Go.Op.fieldAddr 38 (Go.Operand.tmp 1) 0, type := 0, pos := _, after := #[], guard := none }) (v := ?_) rfl (by kernel_rfl) (by kernel_rfl) (by kernel_rfl) (fun _ _ _ h => h) (Or.inl ⟨by rfl, ?_⟩) (by assumption) ?_
  rotate_left
  · intro w hSw; (try dsimp only at hSw); go_simp <;> first | with_reducible rfl | (rw [if_neg (by first | omega | (simp only [ByteArray.size_append] at *; omega))])
  simp only [Act.put, List.setIfInBounds_toArray, List.set_cons_zero, List.set_cons_succ]
  refine wpAnyH_take (i := 1) (oi := { dst := some 4, op := Go.Op.load 9 (Go.Operand.tmp 3), type := 9, pos := _, after := #[{ on := 0, ground := Go.Ground.data }], guard := none }) (v := ?_) rfl (by kernel_rfl) (by kernel_rfl) (by kernel_rfl) (fun _ _ _ h => h) (Or.inl ⟨by rfl, ?_⟩) (by assumption) ?_
  rotate_left
  · intro w hSw; (try dsimp only at hSw); go_simp <;> first | with_reducible rfl | (rw [if_neg (by first | omega | (simp only [ByteArray.size_append] at *; omega))])
  simp only [Act.put, List.setIfInBounds_toArray, List.set_cons_zero, List.set_cons_succ]
  refine wpAnyH_take (i := 2) (oi := { dst := some 5, op := Go.Op.fieldAddr 38 (Go.Operand.tmp 1) 1, type := 0, pos := _, after := #[], guard := none }) (v := ?_) rfl (by kernel_rfl) (by kernel_rfl) (by kernel_rfl) (fun _ _ _ h => h) (Or.inl ⟨by rfl, ?_⟩) (by assumption) ?_
  rotate_left
  · intro w hSw; (try dsimp only at hSw); go_simp <;> first | with_reducible rfl | (rw [if_neg (by first | omega | (simp only [ByteArray.size_append] at *; omega))])
  simp only [Act.put, List.setIfInBounds_toArray, List.set_cons_zero, List.set_cons_succ]
  refine wpAnyH_take (i := 3) (oi := { dst := some 6, op := Go.Op.load 32 (Go.Operand.tmp 5), type := 32, pos := _, after := #[{ on := 2, ground := Go.Ground.data }], guard := none }) (v := ?_) rfl (by kernel_rfl) (by kernel_rfl) (by kernel_rfl) (fun _ _ _ h => h) (Or.inl ⟨by rfl, ?_⟩) (by assumption) ?_
  rotate_left
  · intro w hSw; (try dsimp only at hSw); go_simp <;> first | with_reducible rfl | (rw [if_neg (by first | omega | (simp only [ByteArray.size_append] at *; omega))])
  simp only [Act.put, List.setIfInBounds_toArray, List.set_cons_zero, List.set_cons_succ]
  refine wpAnyH_take (i := 4) (oi := { dst := some 7, op := Go.Op.fieldAddr 38 (Go.Operand.tmp 1) 2, type := 0, pos := _, after := #[], guard := none }) (v := ?_) rfl (by kernel_rfl) (by kernel_rfl) (by kernel_rfl) (fun _ _ _ h => h) (Or.inl ⟨by rfl, ?_⟩) (by assumption) ?_
  rotate_left
  · intro w hSw; (try dsimp only at hSw); go_simp <;> first | with_reducible rfl | (rw [if_neg (by first | omega | (simp only [ByteArray.size_append] at *; omega))])
  simp only [Act.put, List.setIfInBounds_toArray, List.set_cons_zero, List.set_cons_succ]
  refine wpAnyH_take (i := 5) (oi := { dst := some 8, op := Go.Op.load 3 (Go.Operand.tmp 7), type := 3, pos := _, after := #[{ on := 4, ground := Go.Ground.data }], guard := none }) (v := ?_) rfl (by kernel_rfl) (by kernel_rfl) (by kernel_rfl) (fun _ _ _ h => h) (Or.inl ⟨by rfl, ?_⟩) (by assumption) ?_
  rotate_left
  · intro w hSw; (try dsimp only at hSw); go_simp <;> first | with_reducible rfl | (rw [if_neg (by first | omega | (simp only [ByteArray.size_append] at *; omega))])
  simp only [Act.put, List.setIfInBounds_toArray, List.set_cons_zero, List.set_cons_succ]
  refine wpAnyH_take (i := 6) (oi := { dst := some 9, op := Go.Op.fieldAddr 38 (Go.Operand.tmp 1) 3, type := 0, pos := _, after := #[], guard := none }) (v := ?_) rfl (by kernel_rfl) (by kernel_rfl) (by kernel_rfl) (fun _ _ _ h => h) (Or.inl ⟨by rfl, ?_⟩) (by assumption) ?_
  rotate_left
  · intro w hSw; (try dsimp only at hSw); go_simp <;> first | with_reducible rfl | (rw [if_neg (by first | omega | (simp only [ByteArray.size_append] at *; omega))])
  simp only [Act.put, List.setIfInBounds_toArray, List.set_cons_zero, List.set_cons_succ]
  refine wpAnyH_take (i := 7) (oi := { dst := some 10, op := Go.Op.load 2 (Go.Operand.tmp 9), type := 2, pos := _, after := #[{ on := 6, ground := Go.Ground.data }], guard := none }) (v := ?_) rfl (by kernel_rfl) (by kernel_rfl) (by kernel_rfl) (fun _ _ _ h => h) (Or.inl ⟨by rfl, ?_⟩) (by assumption) ?_
  rotate_left
  · intro w hSw; (try dsimp only at hSw); go_simp <;> first | with_reducible rfl | (rw [if_neg (by first | omega | (simp only [ByteArray.size_append] at *; omega))])
  simp only [Act.put, List.setIfInBounds_toArray, List.set_cons_zero, List.set_cons_succ]
  refine wpAnyH_take (i := 8) (oi := { dst := some 11, op := Go.Op.fieldAddr 38 (Go.Operand.tmp 1) 4, type := 0, pos := _, after := #[], guard := none }) (v := ?_) rfl (by kernel_rfl) (by kernel_rfl) (by kernel_rfl) (fun _ _ _ h => h) (Or.inl ⟨by rfl, ?_⟩) (by assumption) ?_
  rotate_left
  · intro w hSw; (try dsimp only at hSw); go_simp <;> first | with_reducible rfl | (rw [if_neg (by first | omega | (simp only [ByteArray.size_append] at *; omega))])
  simp only [Act.put, List.setIfInBounds_toArray, List.set_cons_zero, List.set_cons_succ]
  refine wpAnyH_take (i := 9) (oi := { dst := some 12, op := Go.Op.load 36 (Go.Operand.tmp 11), type := 36, pos := _, after := #[{ on := 8, ground := Go.Ground.data }], guard := none }) (v := ?_) rfl (by kernel_rfl) (by kernel_rfl) (by kernel_rfl) (fun _ _ _ h => h) (Or.inl ⟨by rfl, ?_⟩) (by assumption) ?_
  rotate_left
  · intro w hSw; (try dsimp only at hSw); go_simp <;> first | with_reducible rfl | (rw [if_neg (by first | omega | (simp only [ByteArray.size_append] at *; omega))])
  simp only [Act.put, List.setIfInBounds_toArray, List.set_cons_zero, List.set_cons_succ]
  refine wpAnyH_ready (rs := [10]) (by kernel_rfl) (by simp) ?_
  refine AllReadyH.cons (o := { dst := some 13, op := Go.Op.call { callee := Go.Callee.value (Go.Operand.func 46), args := #[Go.Operand.tmp 12], argTypes := #[36] }, type := 36, pos := _, after := #[{ on := 9, ground := Go.Ground.data }], guard := none }) rfl (fun K hK => ?_) AllReadyH.nil
  go_simp
  refine (c _ H2.out.drew).mono ?_
  rintro e w3 ⟨s3, rfl, ht3, hb3⟩
  obtain ⟨t3, c3, _, rfl, _⟩ := ht3.st.out
  obtain ⟨p1, p2, p3⟩ := two_boxes w w3 _ _ 38 hb3
  go_wp2_with fail
  refine hK.out _ _ ?_ (fun hHeld1 => ?_)
  · exact ⟨p1 0 _ rfl, p1 1 _ rfl, p1 2 _ rfl, p1 3 _ rfl, p1 4 _ rfl, p1 5 _ rfl, p1 6 _ rfl, p1 7 _ rfl⟩
  clear hK K
  refine wpAnyH_take (i := 11) (oi := { dst := some 14, op := Go.Op.build 38 #[(0, Go.Operand.tmp 4), (1, Go.Operand.tmp 6), (2, Go.Operand.tmp 8), (3, Go.Operand.tmp 10), (4, Go.Operand.tmp 13)], type := 38, pos := _, after := #[{ on := 1, ground := Go.Ground.data }, { on := 3, ground := Go.Ground.data }, { on := 5, ground := Go.Ground.data }, { on := 7, ground := Go.Ground.data }, { on := 10, ground := Go.Ground.data }], guard := none }) (v := ?_) rfl (by kernel_rfl) (by kernel_rfl) (by kernel_rfl) (fun _ _ _ h => h) (Or.inl ⟨by rfl, ?_⟩) (by assumption) ?_
  rotate_left
  · intro w hSw; (try dsimp only at hSw); go_simp <;> first | with_reducible rfl | (rw [if_neg (by first | omega | (simp only [ByteArray.size_append] at *; omega))])
  simp only [Act.put, List.setIfInBounds_toArray, List.set_cons_zero, List.set_cons_succ]
  refine wpAnyH_ready (rs := [12]) (by kernel_rfl) (by simp) ?_
  refine AllReadyH.cons (o := { dst := none, op := Go.Op.store 38 (Go.Operand.tmp 2) (Go.Operand.tmp 14), type := 0, pos := _, after := #[{ on := 11, ground := Go.Ground.data }, { on := 10, ground := Go.Ground.chain }, { on := 0, ground := Go.Ground.phase }, { on := 1, ground := Go.Ground.phase }, { on := 2, ground := Go.Ground.phase }, { on := 3, ground := Go.Ground.phase }, { on := 4, ground := Go.Ground.phase }, { on := 5, ground := Go.Ground.phase }, { on := 6, ground := Go.Ground.phase }, { on := 7, ground := Go.Ground.phase }, { on := 8, ground := Go.Ground.phase }, { on := 9, ground := Go.Ground.phase }, { on := 10, ground := Go.Ground.phase }, { on := 11, ground := Go.Ground.phase }], guard := none }) rfl (fun K hK => ?_) AllReadyH.nil
  refine if_take (by rfl) ?_
  refine wp_store_row 38 _ _ rfl (w.heap.size + 1) #[.string x.name, .int .u8 (x.ty : Int), .int .i64 x.st, .int .i64 x.df, .int .u8 (x.body.op : Int), .int .i64 x.body.n, .string x.body.name, .slice t3 x.body.args.length c3] rfl rfl 38 _ p3 info50 rfl (by simp [Value.oneCell']) ?_
  refine hK.out _ _ ?_ (fun _ => ?_)
  · have hne : w.heap.size ≠ w.heap.size + 1 := by omega
    have kk : ∀ j v, w3.cell? ⟨w.heap.size, j, none⟩ = some v → (w3.setRow (w.heap.size + 1) #[.string x.name, .int .u8 (x.ty : Int), .int .i64 x.st, .int .i64 x.df, .int .u8 (x.body.op : Int), .int .i64 x.body.n, .string x.body.name, .slice t3 x.body.args.length c3]).cell? ⟨w.heap.size, j, none⟩ = some v := fun j v h => by
      rw [World.cell?_of_block (w := w3) (a := ⟨w.heap.size, j, none⟩) (setRow_other w3 _ _ _ hne)]
      exact h
    exact ⟨kk _ _ (p1 0 _ rfl), kk _ _ (p1 1 _ rfl), kk _ _ (p1 2 _ rfl), kk _ _ (p1 3 _ rfl), kk _ _ (p1 4 _ rfl), kk _ _ (p1 5 _ rfl), kk _ _ (p1 6 _ rfl), kk _ _ (p1 7 _ rfl)⟩
  clear hK K
  refine wpAnyH_done (by kernel_rfl) ?_ _
  go_wp2
  refine bodyPost_ret (results_cell_row rfl _ _ (w.heap.size + 1) 38 #[.string x.name, .int .u8 (x.ty : Int), .int .i64 x.st, .int .i64 x.df, .int .u8 (x.body.op : Int), .int .i64 x.body.n, .string x.body.name, .slice t3 x.body.args.length c3] (0, 0) _ rfl (setRow_heap _ _ _ _ _ _ p3) Tryd.underlying38 rfl info50) rfl ⟨_, rfl, ?_, ?_⟩
  · have hlo : w.heap.size + 2 ≤ (((w.alloc (.cells #[.string x.name, .int .u8 (x.ty : Int), .int .i64 x.st, .int .i64 x.df, .int .u8 (x.body.op : Int), .int .i64 x.body.n, .string x.body.name, .slice ao x.body.args.length cap] 38)).alloc (.cells #[.string ByteArray.empty, .int .u8 0, .int .i64 0, .int .i64 0, .int .u8 0, .int .i64 0, .string ByteArray.empty, .slice none 0 0] 38)).drew).heap.size := by simp
    exact (ht3.carry fun b hb _ => setRow_other w3 _ _ _ (by have := hb; omega)).low (by omega)
  · exact below_row (bstep H2.out.drew hb3) (by have := (bstep H2.out.drew hb3).size; omega) (by omega) _
/-- While the flows' row is made. -/
structure MkF (w : World) (l : List Fl) (k : Nat) (ps : List (Fl × Value)) (W : World) : Prop where
  made : MkR w 38 8 l.length (ps.map fun (p : Fl × Value) => flL p.1 p.2) W
  len : ps.length = k
  fst : ps.map (·.1) = l.take k
  parts : ∀ p ∈ ps, Tw W (w.heap.size + 1) p.1.body p.2
theorem MkF.step {w W W' : World} {l : List Fl} {k : Nat} {ps : List (Fl × Value)} (h : MkF w l k ps W) (hb : Below W.heap.size W W') : MkF w l k ps W' :=
  ⟨h.made.step hb, h.len, h.fst, fun p hp => (h.parts p hp).keep hb⟩
theorem MkF.row {w W : World} {l : List Fl} {k : Nat} {ps : List (Fl × Value)} (h : MkF w l k ps W) : W.ownsRow w.heap.size 38 8 (.slice (some ⟨w.heap.size, 0, none⟩) k (l.length + 1)) k (ps.map fun (p : Fl × Value) => flL p.1 p.2).flatten := by
  have := h.made.row
  rwa [List.length_map, h.len] at this
theorem MkF.grow {w W W' : World} {l : List Fl} {k : Nat} {ps : List (Fl × Value)} {y : Fl} {s : Value} (h : MkF w l k ps W) (hk : k < l.length) (hy : l[k] = y) (hT : Tw W (w.heap.size + 1) y.body s)
    (hr : W'.ownsRow w.heap.size 38 8 (.slice (some ⟨w.heap.size, 0, none⟩) (k + 1) (l.length + 1)) (k + 1) ((ps.map fun (p : Fl × Value) => flL p.1 p.2).flatten ++ flL y s)) (hg : W.grownBy W' (some w.heap.size)) : MkF w l (k + 1) (ps ++ [(y, s)]) W' where
  made := by
    have := h.made.grow (by rw [List.length_map, h.len]) rfl hr hg
    simpa using this
  len := by simp [h.len]
  fst := by rw [List.map_append, h.fst, List.take_succ_eq_append_getElem hk, hy]; rfl
  parts := fun p hp => by
    rcases List.mem_append.1 hp with hp | hp
    · exact (h.parts p hp).grown hg (by omega)
    · rw [List.mem_singleton.1 hp]; exact hT.grown hg (by omega)
theorem MkF.done {w W W' : World} {l : List Fl} {ps : List (Fl × Value)} (h : MkF w l l.length ps W) (hlen : l.length ≤ 1466015503658) (hok : ∀ x ∈ l, x.ok)
    (hr : W'.ownsRow w.heap.size 38 8 (.slice (some ⟨w.heap.size, 0, none⟩) (l.length + 1) (l.length + 1)) (l.length + 1) ((ps.map fun (p : Fl × Value) => flL p.1 p.2).flatten ++ flL spareFl (.slice none 0 0))) (hg : W.grownBy W' (some w.heap.size)) :
    TwFlows W' w.heap.size l (.slice (some ⟨w.heap.size, 0, none⟩) l.length (l.length + 1)) := by
  have hl := h.len
  have hf : ps.map (·.1) = l := by rw [h.fst, List.take_length]
  have hfst : ∀ i (hi : i < ps.length), ps[i].1 = l[i]'(by omega) := fun i hi => by
    have : (ps.map (·.1))[i]'(by simpa using hi) = l[i]'(by omega) := by simp only [hf]
    simpa using this
  obtain ⟨C1, C2⟩ := MkR.cells h.made.each (by rw [List.length_map, hl]) rfl hr
  refine ⟨w.heap.size, l.length + 1, fun i => (ps[i]?.map (·.2)).getD (.slice none 0 0), rfl, Nat.le_refl _, hlen, by omega, hok, fun i hi => ?_, ?_, fun i hi => ?_, ?_⟩
  · have hip : i < ps.length := by omega
    have he : (ps.map fun (p : Fl × Value) => flL p.1 p.2)[i]? = some (flL l[i] ps[i].2) := by rw [List.getElem?_map, List.getElem?_eq_getElem hip, Option.map_some, hfst i hip]
    dsimp only
    rw [List.getElem?_eq_getElem hip]
    exact ⟨C1 i _ 0 _ he rfl, C1 i _ 1 _ he rfl, C1 i _ 2 _ he rfl, C1 i _ 3 _ he rfl, C1 i _ 4 _ he rfl, C1 i _ 5 _ he rfl, C1 i _ 6 _ he rfl, C1 i _ 7 _ he rfl⟩
  · exact ⟨C2 0 _ rfl, C2 1 _ rfl, C2 2 _ rfl, C2 3 _ rfl, C2 4 _ rfl, C2 5 _ rfl, C2 6 _ rfl, C2 7 _ rfl⟩
  · have hip : i < ps.length := by omega
    have := (h.parts ps[i] (List.getElem_mem hip)).grown hg (by omega)
    rw [hfst i hip] at this
    dsimp only
    rw [List.getElem?_eq_getElem hip]
    exact this
  · exact Blk.of_row hr
set_option maxRecDepth 100000 in
set_option maxHeartbeats 2000000 in
theorem twin_flows (l : List Fl) (w : World) (s : Value) (hS : FlowsAt w l s) :
    Calls Tryd.prog 18 #[s] w fun e w' => ∃ s', e = .returned s' ∧ TwFlows w' w.heap.size l s' ∧ Below w.heap.size w w' := by
  obtain ⟨ao, cap, sl, rfl, hlen, _, hok, hc, hs⟩ := hS
  have HC := hid hc
  have HO := hid hok
  have HS := hid hs
  obtain ⟨i0, hi, hi0, hi1, hi2⟩ := info_parts info50'
  clear hc hok hs
  go_enter Tryd.func18, Tryd.ntmps18
  go_wp2_with (at_make; refine wpList_make_own w rfl (.const (.int .i64 0)) (.tmp 7) 23 rfl w.heap.size 38 i0 _ 8 Tryd.underlying23 hi hi0 hi1 .i64 .i64 _ (l.length + 1) rfl rfl (by omega) (by rw [hi2]; omega) (by unfold maxLen; omega) (Nat.le_refl _) ?_; intro w1 hown1 hgrow1; have M1 := hid (MkR.start (t := 38) (c := 8) (n := l.length) hown1 hgrow1); clear hown1 hgrow1)
  go_loopw [3, 4] (fun v i wr => ∃ (k : Nat) (ps : List (Fl × Value)), k ≤ l.length ∧ v = .slice (some ⟨w.heap.size, 0, none⟩) k (l.length + 1) ∧ i = .int .i64 (k : Int) ∧ Hid (MkF w l k ps wr)) (fun _ i _ => l.length - (intOf i).toNat)
  case atStart => exact ⟨0, [], Nat.zero_le _, rfl, rfl, hid ⟨M1.out, rfl, rfl, fun p hp => by cases hp⟩⟩
  case round =>
    obtain ⟨k, ps, hk, rfl, rfl, hM⟩ := hrel
    by_cases hlt : k < l.length
    · have hlt' : (k : Int) < (l.length : Int) := by omega
      have hk0 : (0 : Int) ≤ (k : Int) := by omega
      obtain ⟨bb, o, rfl, hcc⟩ := HC.out.resolve_left (by omega)
      have F := (hcc k hlt).keep hM.out.made.below
      have c := twin_flow l[k] wr (sl k) ((HS.out k hlt).keep hM.out.made.below)
      obtain ⟨y, hy⟩ : ∃ y, l[k] = y := ⟨_, rfl⟩
      rw [hy] at F c
      obtain ⟨v0, v1, v2, v3, v4, v5, v6, v7⟩ := F
      have HY := hid hy
      clear hcc hy
      go_wp2_with (first
        | (go_at_call 33; refine c.mono ?_; rintro e w2 ⟨s2, rfl, ht2, hb2⟩; obtain ⟨b2, c2, _, rfl, _⟩ := ht2.st.out; have T2 := hid (ht2.keep ((Below.refl _ _).alloc (Nat.le_refl _) (.cells #[.string y.name, .int .u8 (y.ty : Int), .int .i64 y.st, .int .i64 y.df, .int .u8 (y.body.op : Int), .int .i64 y.body.n, .string y.body.name, .slice b2 y.body.args.length c2] 38))); have M2 := hid ((hM.out.step hb2).step ((Below.refl _ _).alloc (Nat.le_refl _) (.cells #[.string y.name, .int .u8 (y.ty : Int), .int .i64 y.st, .int .i64 y.df, .int .u8 (y.body.op : Int), .int .i64 y.body.n, .string y.body.name, .slice b2 y.body.args.length c2] 38))); have N2 := hid (next_cells w2 (flL y (.slice b2 y.body.args.length c2)) 38); have SZ := hid hM.out.made.size; clear c ht2 hb2)
        | (at_builtin; refine wpList_append_fits _ rfl (.tmp 15) (.tmp 21) 23 rfl w.heap.size 38 i0 8 Tryd.underlying23 hi hi1 w.heap.size k (l.length + 1) (ps.map fun (p : Fl × Value) => flL p.1 p.2).flatten rfl M2.out.row ⟨w2.heap.size, 0, none⟩ 1 1 (flL y (.slice b2 y.body.args.length c2)) rfl rfl N2.out (by simp [Value.oneCell']) (by omega) ?_; intro w4 hown4 hgrow4; have M4 := hid (M2.out.grow hlt HY.out (T2.out.low (by have := SZ.out; omega)) hown4 hgrow4); clear hown4 hgrow4))
      go_roundw
      case rel => exact ⟨k + 1, _, by omega, rfl, by go_num, M4⟩
      case measure => simp [intOf]; omega
    · have hlt' : ¬ (k : Int) < (l.length : Int) := by omega
      obtain rfl : k = l.length := by omega
      have M2 := hid (hM.out.step ((Below.refl _ _).alloc (Nat.le_refl _) (.cells #[.string spare, .int .u8 0, .int .i64 0, .int .i64 0, .int .u8 0, .int .i64 0, .string ⟨#[]⟩, .slice none 0 0] 38)))
      have N2 := hid (next_cells wr (flL spareFl (.slice none 0 0)) 38)
      go_wp2_with (at_builtin; refine wpList_append_fits _ rfl (.tmp 23) (.tmp 25) 23 rfl w.heap.size 38 i0 8 Tryd.underlying23 hi hi1 w.heap.size l.length (l.length + 1) (ps.map fun (p : Fl × Value) => flL p.1 p.2).flatten rfl M2.out.row ⟨wr.heap.size, 0, none⟩ 1 1 (flL spareFl (.slice none 0 0)) rfl rfl N2.out (by simp [Value.oneCell']) (by omega) ?_; intro w4 hown4 hgrow4; have T4 := hid (M2.out.done hlen HO.out hown4 hgrow4); have B4 := hid (M2.out.made.below.grown hgrow4 M2.out.made.below.size (fun j hj => by cases hj; exact Nat.le_refl _)); clear hown4 hgrow4)
      go_ret
      exact ⟨_, rfl, T4.out, B4.out⟩
end Go.Proofs.YtakjkhfglihggabDoor.Lex
namespace Go.Proofs.YtakjkhfglihggabDoor.Lex
open Go.ChangeShapes Go.WideShapes Go.ChangeAt Go.RowKit Go.Joins
theorem info26 : (Tryd.prog.info? 26).map (·.size) = some 4 := by kernel_rfl
/-- The first row lies ahead of the second one. -/
def Ord2 (a b : Value) : Prop := ∀ i n c j m d, a = .slice (some ⟨i, 0, none⟩) n c → b = .slice (some ⟨j, 0, none⟩) m d → i < j
set_option maxRecDepth 100000 in
set_option maxHeartbeats 1000000 in
theorem twin_prog2 (p : Pg) (w : World) (a b c : Value) (hP : PgAt w p a b c) :
    Calls Tryd.prog 7 #[pgV p a b c] w fun e w' => ∃ a' b' c', e = .returned (pgV p a' b' c') ∧ TwPg w' w.heap.size p a' b' c' ∧ Below w.heap.size w w' ∧ Ord2 a' b' := by
  obtain ⟨a0, a1, rfl, _⟩ := hP.ins
  obtain ⟨b0, b1, _, rfl, _⟩ := hP.flows
  obtain ⟨c0, c1, rfl, _⟩ := hP.outs
  have P0 := hid hP
  have H2 := hid (bstep ((Below.refl w.heap.size w).alloc (Nat.le_refl _) (.cells (pgC p (.slice a0 p.ins.length a1) (.slice b0 p.flows.length b1) (.slice c0 p.outs.length c1)) 26)) ((Below.refl _ _).alloc (Nat.le_refl _) (.cells #[.int .i64 0, .slice none 0 0, .slice none 0 0, .slice none 0 0] 26)))
  have B0 := box_first w (pgC p (.slice a0 p.ins.length a1) (.slice b0 p.flows.length b1) (.slice c0 p.outs.length c1)) #[.int .i64 0, .slice none 0 0, .slice none 0 0, .slice none 0 0] 26
  clear hP
  go_enter Tryd.func7, Tryd.ntmps7
  go_wp2
  refine wp_region_held_drew (S := fun W => W.cell? ⟨w.heap.size, 0, none⟩ = some (.int .i64 p.st) ∧ W.cell? ⟨w.heap.size, 1, none⟩ = some (.slice a0 p.ins.length a1) ∧ W.cell? ⟨w.heap.size, 2, none⟩ = some (.slice b0 p.flows.length b1) ∧ W.cell? ⟨w.heap.size, 3, none⟩ = some (.slice c0 p.outs.length c1)) (by kernel_rfl) ?_ (fun hHeld => ?_)
  · exact ⟨B0 0 _ rfl, B0 1 _ rfl, B0 2 _ rfl, B0 3 _ rfl⟩
  refine wpAnyH_take (i := 0) (oi := { dst := some 3, op := Go.Op.fieldAddr 26 (Go.Operand.tmp 1) 0, type := 0, pos := _, after := #[], guard := none }) (v := ?_) rfl (by kernel_rfl) (by kernel_rfl) (by kernel_rfl) (fun _ _ _ h => h) (Or.inl ⟨by rfl, ?_⟩) (by assumption) ?_
  rotate_left
  · intro w hSw; (try dsimp only at hSw); go_simp <;> first | with_reducible rfl | (rw [if_neg (by first | omega | (simp only [ByteArray.size_append] at *; omega))])
  simp only [Act.put, List.setIfInBounds_toArray, List.set_cons_zero, List.set_cons_succ]
  refine wpAnyH_take (i := 1) (oi := { dst := some 4, op := Go.Op.load 3 (Go.Operand.tmp 3), type := 3, pos := _, after := #[{ on := 0, ground := Go.Ground.data }], guard := none }) (v := ?_) rfl (by kernel_rfl) (by kernel_rfl) (by kernel_rfl) (fun _ _ _ h => h) (Or.inl ⟨by rfl, ?_⟩) (by assumption) ?_
  rotate_left
  · intro w hSw; (try dsimp only at hSw); go_simp <;> first | with_reducible rfl | (rw [if_neg (by first | omega | (simp only [ByteArray.size_append] at *; omega))])
  simp only [Act.put, List.setIfInBounds_toArray, List.set_cons_zero, List.set_cons_succ]
  refine wpAnyH_take (i := 2) (oi := { dst := some 5, op := Go.Op.fieldAddr 26 (Go.Operand.tmp 1) 1, type := 0, pos := _, after := #[], guard := none }) (v := ?_) rfl (by kernel_rfl) (by kernel_rfl) (by kernel_rfl) (fun _ _ _ h => h) (Or.inl ⟨by rfl, ?_⟩) (by assumption) ?_
  rotate_left
  · intro w hSw; (try dsimp only at hSw); go_simp <;> first | with_reducible rfl | (rw [if_neg (by first | omega | (simp only [ByteArray.size_append] at *; omega))])
  simp only [Act.put, List.setIfInBounds_toArray, List.set_cons_zero, List.set_cons_succ]
  refine wpAnyH_take (i := 3) (oi := { dst := some 6, op := Go.Op.load 22 (Go.Operand.tmp 5), type := 22, pos := _, after := #[{ on := 2, ground := Go.Ground.data }], guard := none }) (v := ?_) rfl (by kernel_rfl) (by kernel_rfl) (by kernel_rfl) (fun _ _ _ h => h) (Or.inl ⟨by rfl, ?_⟩) (by assumption) ?_
  rotate_left
  · intro w hSw; (try dsimp only at hSw); go_simp <;> first | with_reducible rfl | (rw [if_neg (by first | omega | (simp only [ByteArray.size_append] at *; omega))])
  simp only [Act.put, List.setIfInBounds_toArray, List.set_cons_zero, List.set_cons_succ]
  refine wpAnyH_take (i := 5) (oi := { dst := some 8, op := Go.Op.fieldAddr 26 (Go.Operand.tmp 1) 2, type := 0, pos := _, after := #[], guard := none }) (v := ?_) rfl (by kernel_rfl) (by kernel_rfl) (by kernel_rfl) (fun _ _ _ h => h) (Or.inl ⟨by rfl, ?_⟩) (by assumption) ?_
  rotate_left
  · intro w hSw; (try dsimp only at hSw); go_simp <;> first | with_reducible rfl | (rw [if_neg (by first | omega | (simp only [ByteArray.size_append] at *; omega))])
  simp only [Act.put, List.setIfInBounds_toArray, List.set_cons_zero, List.set_cons_succ]
  refine wpAnyH_take (i := 6) (oi := { dst := some 9, op := Go.Op.load 23 (Go.Operand.tmp 8), type := 23, pos := _, after := #[{ on := 5, ground := Go.Ground.data }], guard := none }) (v := ?_) rfl (by kernel_rfl) (by kernel_rfl) (by kernel_rfl) (fun _ _ _ h => h) (Or.inl ⟨by rfl, ?_⟩) (by assumption) ?_
  rotate_left
  · intro w hSw; (try dsimp only at hSw); go_simp <;> first | with_reducible rfl | (rw [if_neg (by first | omega | (simp only [ByteArray.size_append] at *; omega))])
  simp only [Act.put, List.setIfInBounds_toArray, List.set_cons_zero, List.set_cons_succ]
  refine wpAnyH_take (i := 8) (oi := { dst := some 11, op := Go.Op.fieldAddr 26 (Go.Operand.tmp 1) 3, type := 0, pos := _, after := #[], guard := none }) (v := ?_) rfl (by kernel_rfl) (by kernel_rfl) (by kernel_rfl) (fun _ _ _ h => h) (Or.inl ⟨by rfl, ?_⟩) (by assumption) ?_
  rotate_left
  · intro w hSw; (try dsimp only at hSw); go_simp <;> first | with_reducible rfl | (rw [if_neg (by first | omega | (simp only [ByteArray.size_append] at *; omega))])
  simp only [Act.put, List.setIfInBounds_toArray, List.set_cons_zero, List.set_cons_succ]
  refine wpAnyH_take (i := 9) (oi := { dst := some 12, op := Go.Op.load 24 (Go.Operand.tmp 11), type := 24, pos := _, after := #[{ on := 8, ground := Go.Ground.data }], guard := none }) (v := ?_) rfl (by kernel_rfl) (by kernel_rfl) (by kernel_rfl) (fun _ _ _ h => h) (Or.inl ⟨by rfl, ?_⟩) (by assumption) ?_
  rotate_left
  · intro w hSw; (try dsimp only at hSw); go_simp <;> first | with_reducible rfl | (rw [if_neg (by first | omega | (simp only [ByteArray.size_append] at *; omega))])
  simp only [Act.put, List.setIfInBounds_toArray, List.set_cons_zero, List.set_cons_succ]
  refine wpAnyH_ready (rs := [4]) (by kernel_rfl) (by simp) ?_
  refine AllReadyH.cons (o := { dst := some 7, op := Go.Op.call { callee := Go.Callee.value (Go.Operand.func 17), args := #[Go.Operand.tmp 6], argTypes := #[22] }, type := 22, pos := _, after := #[{ on := 3, ground := Go.Ground.data }], guard := none }) rfl (fun K hK => ?_) AllReadyH.nil
  go_simp
  refine (twin_ins _ _ _ (P0.out.keep H2.out.drew).ins).mono ?_
  rintro e w3 ⟨s3, rfl, ht3, hb3⟩
  obtain ⟨g3, k3, rfl, _⟩ := id ht3
  have HB3 := hid (bstep H2.out.drew hb3)
  have HT3 := hid ht3
  have G3 := hid hb3
  obtain ⟨p1, p2, p3⟩ := two_boxes w w3 _ _ 26 hb3
  clear ht3 hb3
  go_wp2_with fail
  refine hK.out _ _ ?_ (fun hHeld1 => ?_)
  · exact ⟨p1 0 _ rfl, p1 1 _ rfl, p1 2 _ rfl, p1 3 _ rfl⟩
  clear hK K
  refine wpAnyH_ready (rs := [7]) (by kernel_rfl) (by simp) ?_
  refine AllReadyH.cons (o := { dst := some 10, op := Go.Op.call { callee := Go.Callee.value (Go.Operand.func 18), args := #[Go.Operand.tmp 9], argTypes := #[23] }, type := 23, pos := _, after := #[{ on := 6, ground := Go.Ground.data }, { on := 4, ground := Go.Ground.chain }], guard := none }) rfl (fun K hK => ?_) AllReadyH.nil
  go_simp
  refine (twin_flows _ _ _ (P0.out.keep HB3.out).flows).mono ?_
  rintro e w4 ⟨s4, rfl, ht4, hb4⟩
  obtain ⟨g4, k4, _, rfl, _⟩ := id ht4
  have HB4 := hid (bstep HB3.out hb4)
  have HT4 := hid ht4
  have G4 := hid (bstep G3.out hb4)
  have F4 := hid hb4
  obtain ⟨q1, q2, q3⟩ := two_boxes w w4 _ _ 26 G4.out
  clear ht4 hb4
  go_wp2_with fail
  refine hK.out _ _ ?_ (fun hHeld2 => ?_)
  · exact ⟨q1 0 _ rfl, q1 1 _ rfl, q1 2 _ rfl, q1 3 _ rfl⟩
  clear hK K
  refine wpAnyH_ready (rs := [10]) (by kernel_rfl) (by simp) ?_
  refine AllReadyH.cons (o := { dst := some 13, op := Go.Op.call { callee := Go.Callee.value (Go.Operand.func 19), args := #[Go.Operand.tmp 12], argTypes := #[24] }, type := 24, pos := _, after := #[{ on := 9, ground := Go.Ground.data }, { on := 7, ground := Go.Ground.chain }], guard := none }) rfl (fun K hK => ?_) AllReadyH.nil
  go_simp
  refine (twin_texts _ _ _ (P0.out.keep HB4.out).outs).mono ?_
  rintro e w5 ⟨s5, rfl, ht5, hb5⟩
  obtain ⟨g5, k5, rfl, _⟩ := id ht5
  have HB5 := hid (bstep HB4.out hb5)
  have HT5 := hid ht5
  have G5 := hid (bstep G4.out hb5)
  have F5 := hid hb5
  obtain ⟨r1, r2, r3⟩ := two_boxes w w5 _ _ 26 G5.out
  clear ht5 hb5
  go_wp2_with fail
  refine hK.out _ _ ?_ (fun hHeld3 => ?_)
  · exact ⟨r1 0 _ rfl, r1 1 _ rfl, r1 2 _ rfl, r1 3 _ rfl⟩
  clear hK K
  refine wpAnyH_take (i := 11) (oi := { dst := some 14, op := Go.Op.build 26 #[(0, Go.Operand.tmp 4), (1, Go.Operand.tmp 7), (2, Go.Operand.tmp 10), (3, Go.Operand.tmp 13)], type := 26, pos := _, after := #[{ on := 1, ground := Go.Ground.data }, { on := 4, ground := Go.Ground.data }, { on := 7, ground := Go.Ground.data }, { on := 10, ground := Go.Ground.data }], guard := none }) (v := ?_) rfl (by kernel_rfl) (by kernel_rfl) (by kernel_rfl) (fun _ _ _ h => h) (Or.inl ⟨by rfl, ?_⟩) (by assumption) ?_
  rotate_left
  · intro w hSw; (try dsimp only at hSw); go_simp <;> first | with_reducible rfl | (rw [if_neg (by first | omega | (simp only [ByteArray.size_append] at *; omega))])
  simp only [Act.put, List.setIfInBounds_toArray, List.set_cons_zero, List.set_cons_succ]
  refine wpAnyH_ready (rs := [12]) (by kernel_rfl) (by simp) ?_
  refine AllReadyH.cons (o := { dst := none, op := Go.Op.store 26 (Go.Operand.tmp 2) (Go.Operand.tmp 14), type := 0, pos := _, after := #[{ on := 11, ground := Go.Ground.data }, { on := 10, ground := Go.Ground.chain }, { on := 0, ground := Go.Ground.phase }, { on := 1, ground := Go.Ground.phase }, { on := 2, ground := Go.Ground.phase }, { on := 3, ground := Go.Ground.phase }, { on := 4, ground := Go.Ground.phase }, { on := 5, ground := Go.Ground.phase }, { on := 6, ground := Go.Ground.phase }, { on := 7, ground := Go.Ground.phase }, { on := 8, ground := Go.Ground.phase }, { on := 9, ground := Go.Ground.phase }, { on := 10, ground := Go.Ground.phase }, { on := 11, ground := Go.Ground.phase }], guard := none }) rfl (fun K hK => ?_) AllReadyH.nil
  refine if_take (by rfl) ?_
  refine wp_store_row 26 _ _ rfl (w.heap.size + 1) (pgC p (.slice (some ⟨g3, 0, none⟩) p.ins.length k3) (.slice (some ⟨g4, 0, none⟩) p.flows.length k4) (.slice (some ⟨g5, 0, none⟩) p.outs.length k5)) rfl rfl 26 _ r3 info26 rfl (by simp [Value.oneCell']) ?_
  refine hK.out _ _ ?_ (fun _ => ?_)
  · have hne : w.heap.size ≠ w.heap.size + 1 := by omega
    have kk : ∀ j v, w5.cell? ⟨w.heap.size, j, none⟩ = some v → (w5.setRow (w.heap.size + 1) (pgC p (.slice (some ⟨g3, 0, none⟩) p.ins.length k3) (.slice (some ⟨g4, 0, none⟩) p.flows.length k4) (.slice (some ⟨g5, 0, none⟩) p.outs.length k5))).cell? ⟨w.heap.size, j, none⟩ = some v := fun j v h => by
      rw [World.cell?_of_block (w := w5) (a := ⟨w.heap.size, j, none⟩) (setRow_other w5 _ _ _ hne)]
      exact h
    exact ⟨kk _ _ (r1 0 _ rfl), kk _ _ (r1 1 _ rfl), kk _ _ (r1 2 _ rfl), kk _ _ (r1 3 _ rfl)⟩
  clear hK K
  refine wpAnyH_done (by kernel_rfl) ?_ _
  go_wp2
  refine bodyPost_ret (results_cell_row rfl _ _ (w.heap.size + 1) 26 (pgC p (.slice (some ⟨g3, 0, none⟩) p.ins.length k3) (.slice (some ⟨g4, 0, none⟩) p.flows.length k4) (.slice (some ⟨g5, 0, none⟩) p.outs.length k5)) (0, 0) _ rfl (setRow_heap _ _ _ _ _ _ r3) Tryd.underlying26 rfl info26) rfl ⟨_, _, _, rfl, ?_, ?_, ?_⟩
  · have hlo : w.heap.size + 2 ≤ (((w.alloc (.cells (pgC p (.slice a0 p.ins.length a1) (.slice b0 p.flows.length b1) (.slice c0 p.outs.length c1)) 26)).alloc (.cells #[.int .i64 0, .slice none 0 0, .slice none 0 0, .slice none 0 0] 26)).drew).heap.size := by simp
    have h3 : w.heap.size + 2 ≤ w3.heap.size := Nat.le_trans hlo G3.out.size
    have h4 : w.heap.size + 2 ≤ w4.heap.size := Nat.le_trans h3 F4.out.size
    have T : TwPg w5 (w.heap.size + 2) p (.slice (some ⟨g3, 0, none⟩) p.ins.length k3) (.slice (some ⟨g4, 0, none⟩) p.flows.length k4) (.slice (some ⟨g5, 0, none⟩) p.outs.length k5) := ⟨P0.out.st, HT3.out.carry (fun b _ hb => (bstep F4.out F5.out).block b hb) hlo, HT4.out.carry (fun b _ hb => F5.out.block b hb) h3, HT5.out.carry (fun _ _ _ => rfl) h4⟩
    exact T.carry (fun b hb _ => setRow_other w5 _ _ _ (by omega)) (by omega)
  · exact below_row HB5.out HB5.out.size (by omega) _
  · intro i n c j m d e1 e2
    injection e1 with e1 _ _
    injection e1 with e1
    injection e1 with e1 _ _
    injection e2 with e2 _ _
    injection e2 with e2
    injection e2 with e2 _ _
    subst e1 e2
    obtain ⟨b, _, e, _, _, _, _, _, _, cur, hk, _⟩ := HT3.out
    injection e with e _ _
    injection e with e
    injection e with e _ _
    subst e
    have l3 := (Array.getElem?_eq_some_iff.1 hk).1
    obtain ⟨b, _, _, e, hlo, _⟩ := HT4.out
    injection e with e _ _
    injection e with e
    injection e with e _ _
    subst e
    omega
theorem twin_prog (p : Pg) (w : World) (a b c : Value) (hP : PgAt w p a b c) :
    Calls Tryd.prog 7 #[pgV p a b c] w fun e w' => ∃ a' b' c', e = .returned (pgV p a' b' c') ∧ TwPg w' w.heap.size p a' b' c' ∧ Below w.heap.size w w' :=
  (twin_prog2 p w a b c hP).mono fun _ _ ⟨a', b', c', h1, h2, h3, _⟩ => ⟨a', b', c', h1, h2, h3⟩
end Go.Proofs.YtakjkhfglihggabDoor.Lex
namespace Go.Proofs.YtakjkhfglihggabDoor.Lex
open Go.ChangeShapes Go.WideShapes Go.ChangeAt Go.RowKit Go.Shelf
theorem heap_setCells_other {b j : Nat} (hj : j ≠ b) : ∀ (vs : List Value) (o : Nat) (w : World), (w.setCells b o vs).heap[j]? = w.heap[j]?
  | [], _, _ => rfl
  | v :: r, o, w => by
    rw [World.setCells, heap_setCells_other hj r (o + 1)]
    exact Below.heap_setCell _ _ _ _ hj
theorem grown_setCells (b : Nat) : ∀ (vs : List Value) (o : Nat) (w : World), w.grownBy (w.setCells b o vs) (some b)
  | [], _, w => ⟨rfl, rfl, rfl, Nat.le_refl _, fun _ _ _ => rfl⟩
  | v :: r, o, w => by
    have h := grown_setCells b r (o + 1) (w.setCell ⟨b, o, none⟩ v)
    have g : w.grownBy (w.setCell ⟨b, o, none⟩ v) (some b) := ⟨rfl, rfl, rfl, by simp, fun k _ h => Below.heap_setCell _ _ _ _ (fun e => h (by rw [e]))⟩
    exact ⟨h.os.trans g.os, h.tape.trans g.tape, h.output.trans g.output, Nat.le_trans g.size h.size, fun k hk hn => (h.block k (Nat.lt_of_lt_of_le hk g.size) hn).trans (g.block k hk hn)⟩
theorem Blk.set {b t c cap : Nat} : ∀ (vs : List Value) (o : Nat) (w : World), Blk w b t c cap → Blk (w.setCells b o vs) b t c cap
  | [], _, _, h => h
  | v :: r, o, w, h => by
    obtain ⟨cur, h1, h2, h3⟩ := h
    rw [World.setCells]
    exact Blk.set r (o + 1) _ ⟨_, set_same h1 o v, by simpa using h2, h3⟩
theorem Blk.keep {w w' : World} {b t c cap : Nat} (h : Blk w b t c cap) (hb : Below w.heap.size w w') : Blk w' b t c cap := h.carry (lo := 0) (fun b _ hlt => hb.block b hlt) (Nat.zero_le _)
theorem Blk.there {w : World} {b t c cap o n : Nat} (h : Blk w b t c cap) (ho : o + n ≤ cap * c) : w.there b o n := by
  obtain ⟨cur, h1, h2, _⟩ := h
  intro j hj
  refine ⟨?_, ?_⟩
  · rw [cell_of_row w b (o + j) cur t (0, 0) h1]
    have : o + j < cur.size := by omega
    simp [this]
  · unfold World.frozen?
    rw [h1]
    simp
theorem InsAt.apart {w W : World} {l : List Hd} {b0 n c fb : Nat} (h : InsAt w l (.slice (some ⟨b0, 0, none⟩) n c)) (hne : b0 ≠ fb) (hk : ∀ b, b < w.heap.size → b ≠ fb → W.heap[b]? = w.heap[b]?) : InsAt W l (.slice (some ⟨b0, 0, none⟩) n c) := by
  obtain ⟨ao, cap, e, h1, h2, h3, h4⟩ := h
  refine ⟨ao, cap, e, h1, h2, h3, h4.imp_right ?_⟩
  rintro ⟨b, o, ha, hc⟩
  refine ⟨b, o, ha, fun i hi => ?_⟩
  subst ha
  injection e with e1 _ _
  injection e1 with e1
  injection e1 with e1 _ _
  subst e1
  have k : ∀ {o v}, w.cell? ⟨b0, o, none⟩ = some v → W.cell? ⟨b0, o, none⟩ = some v := fun {o v} h => by
    rw [World.cell?_of_block (w := w) (a := ⟨b0, o, none⟩) (hk b0 (World.block_lt_of_cell? w _ h) hne)]
    exact h
  exact ⟨k (hc i hi).1, k (hc i hi).2.1, k (hc i hi).2.2⟩
theorem TextsAt.apart {w W : World} {l : List ByteArray} {b0 n c fb : Nat} (h : TextsAt w l (.slice (some ⟨b0, 0, none⟩) n c)) (hne : b0 ≠ fb) (hk : ∀ b, b < w.heap.size → b ≠ fb → W.heap[b]? = w.heap[b]?) : TextsAt W l (.slice (some ⟨b0, 0, none⟩) n c) := by
  obtain ⟨ao, cap, e, h1, h2, h3, h4⟩ := h
  refine ⟨ao, cap, e, h1, h2, h3, h4.imp_right ?_⟩
  rintro ⟨b, o, ha, hc⟩
  refine ⟨b, o, ha, fun i hi => ?_⟩
  subst ha
  injection e with e1 _ _
  injection e1 with e1
  injection e1 with e1 _ _
  subst e1
  rw [World.cell?_of_block (w := w) (a := ⟨b0, o + i, none⟩) (hk b0 (World.block_lt_of_cell? w _ (hc i hi)) hne)]
  exact hc i hi
theorem Blk.ne {w : World} {b b' t t' c c' cap cap' : Nat} (h : Blk w b t c cap) (h' : Blk w b' t' c' cap') (ht : t ≠ t') : b ≠ b' := by
  rintro rfl
  obtain ⟨cur, h1, _⟩ := h
  obtain ⟨cur', h1', _⟩ := h'
  rw [h1] at h1'
  injection h1' with h1'
  injection h1' with _ e _
  exact ht e
/-- While the flows are turned. -/
structure TQ (w w9 : World) (p : Pg) (A B C a' c' : Value) (fb cap : Nat) (sl : Nat → Value) (k : Nat) (W : World) : Prop where
  below : Below w.heap.size w W
  row : W.heap[w.heap.size]? = some (.cells (pgC p A B C) 26 (0, 0))
  qrow : W.heap[w9.heap.size]? = some (.cells (pgC p a' (.slice (some ⟨fb, 0, none⟩) p.flows.length cap) c') 26 (0, 0))
  same : ∀ b, b < w9.heap.size → b ≠ fb → W.heap[b]? = w9.heap[b]?
  blk : Blk W fb 38 8 cap
  done : ∀ i (h : i < p.flows.length), i < k → FlCells W fb (i * 8) (p.flows[p.flows.length - 1 - i]) (sl (p.flows.length - 1 - i))
theorem TQ.start {w w9 : World} {p : Pg} {A B C a' c' : Value} {fb cap : Nat} {sl : Nat → Value} (h : FV w p A B C w9) (hb : Blk w9 fb 38 8 cap) :
    TQ w w9 p A B C a' c' fb cap sl 0 (w9.alloc (.cells #[.int .i64 p.st, a', .slice (some ⟨fb, 0, none⟩) p.flows.length cap, c'] 26)) where
  below := h.below.alloc h.below.size _
  row := push_old h.row
  qrow := push_new _ _ _ rfl
  same := fun b hb _ => Below.heap_alloc _ _ _ hb
  blk := hb.keep ((Below.refl _ _).alloc (Nat.le_refl _) _)
  done := fun i _ h => by omega
theorem TQ.keep {w w9 : World} {p : Pg} {A B C a' c' : Value} {fb cap : Nat} {sl : Nat → Value} {k : Nat} {W W' : World} (h : TQ w w9 p A B C a' c' fb cap sl k W) (hb : Below W.heap.size W W') : TQ w w9 p A B C a' c' fb cap sl k W' where
  below := h.below.trans (hb.mono h.below.size)
  row := keep_row h.row hb
  qrow := keep_row h.qrow hb
  same := fun b h1 h2 => (hb.block b (Nat.lt_of_lt_of_le (Nat.lt_of_lt_of_le h1 (Nat.le_of_lt (Array.getElem?_eq_some_iff.1 h.qrow).1)) (Nat.le_refl _))).trans (h.same b h1 h2)
  blk := h.blk.keep hb
  done := fun i h1 h2 => (h.done i h1 h2).keep hb
theorem TQ.store {w w9 : World} {p : Pg} {A B C a' c' : Value} {fb cap : Nat} {sl : Nat → Value} {k m : Nat} {W : World} (h : TQ w w9 p A B C a' c' fb cap sl k W) (h1 : w.heap.size < fb) (h2 : fb < w9.heap.size) (hc : p.flows.length < cap) (hm : p.flows.length = k + 1 + m) (y : Fl) (hy : p.flows[m]'(by omega) = y) (s : Value) (hs : sl m = s) : TQ w w9 p A B C a' c' fb cap sl (k + 1) (W.setCells fb (k * 8) (flL y s)) where
  below := h.below.grown (grown_setCells _ _ _ _) h.below.size (fun j hj => by cases hj; omega)
  row := by rw [heap_setCells_other (by omega)]; exact h.row
  qrow := by rw [heap_setCells_other (by omega)]; exact h.qrow
  same := fun b hb hn => by rw [heap_setCells_other hn]; exact h.same b hb hn
  blk := h.blk.set _ _ _
  done := fun i hi hik => by
    have ht := h.blk.there (o := k * 8) (n := 8) (by omega)
    by_cases e : i = k
    · subst e
      have C := World.rangeAt_setCells_same W fb (i * 8) (flL y s) ht
      have e1 : p.flows.length - 1 - i = m := by omega
      subst hy hs
      simp only [e1]
      exact ⟨C 0 _ rfl, C 1 _ rfl, C 2 _ rfl, C 3 _ rfl, C 4 _ rfl, C 5 _ rfl, C 6 _ rfl, C 7 _ rfl⟩
    · obtain ⟨d0, d1, d2, d3, d4, d5, d6, d7⟩ := h.done i hi (by omega)
      have k' : ∀ {o v}, o < k * 8 → W.cell? ⟨fb, o, none⟩ = some v → (W.setCells fb (k * 8) (flL y s)).cell? ⟨fb, o, none⟩ = some v := fun {o v} ho hv => by
        rw [World.cell?_setCells_out fb _ _ _ _ (fun _ _ => Or.inl ho)]; exact hv
      exact ⟨k' (by omega) d0, k' (by omega) d1, k' (by omega) d2, k' (by omega) d3, k' (by omega) d4, k' (by omega) d5, k' (by omega) d6, k' (by omega) d7⟩
/-- The program with its flows turned. -/
abbrev revP (p : Pg) : Pg := { p with flows := p.flows.reverse }
theorem TQ.pg {w w9 : World} {p : Pg} {A B C a' c' : Value} {fb cap : Nat} {sl : Nat → Value} {W : World} {lo : Nat} (h : TQ w w9 p A B C a' c' fb cap sl p.flows.length W)
    (hT : TwPg w9 lo p a' (.slice (some ⟨fb, 0, none⟩) p.flows.length cap) c') (hS : ∀ i (h : i < p.flows.length), St w p.flows[i].body (sl i)) :
    PgAt W (revP p) a' (.slice (some ⟨fb, 0, none⟩) p.flows.length cap) c' := by
  obtain ⟨b1, c1, e1, _, _, _, _, _, _, k1⟩ := id hT.ins
  obtain ⟨b3, c3, e3, _, _, _, _, _, _, k3⟩ := id hT.outs
  obtain ⟨b2, c2, sl2, e2, _, g1, g2, g3, _, _, _, k2⟩ := id hT.flows
  injection e2 with e2 _ e4
  injection e2 with e2
  injection e2 with e2 _ _
  subst e2 e4
  have hi := hT.ins.at
  have ho := hT.outs.at
  rw [e1] at hi ⊢
  rw [e3] at ho ⊢
  refine ⟨hT.st, hi.apart (k1.ne k2 (by decide)) h.same, ?_, ho.apart (k3.ne k2 (by decide)) h.same⟩
  refine ⟨some ⟨fb, 0, none⟩, cap, fun i => sl (p.flows.length - 1 - i), by simp, by simpa using g1, by simp; omega, fun x hx => g3 x (by simpa using hx), .inr ⟨fb, 0, rfl, fun i hi => ?_⟩, fun i hi => ?_⟩
  · have hi' : i < p.flows.length := by simpa using hi
    have := h.done i hi' hi'
    simpa using this
  · have hi' : i < p.flows.length := by simpa using hi
    have := (hS (p.flows.length - 1 - i) (by omega)).keep h.below
    simpa using this
end Go.Proofs.YtakjkhfglihggabDoor.Lex
namespace Go.Proofs.YtakjkhfglihggabDoor.Lex
/-- All that it asks for, as often as it does. -/
def pl : Nat → Ex → Nat → List Rf
  | 0, _, _ => []
  | k + 1, x, ago => (if x.op = 3 then [(x.name, ago)] else []) ++ x.args.flatMap fun y => pl k y (nextAgo x ago)
theorem foldl_flat {α β γ : Type} (f : β → γ → β) (g : α → List γ) : ∀ (l : List α) (b : β), l.foldl (fun b a => (g a).foldl f b) b = (l.flatMap g).foldl f b
  | [], _ => rfl
  | a :: l, b => by simp only [List.foldl_cons, List.flatMap_cons, List.foldl_append]; exact foldl_flat f g l _
theorem gat_pl : ∀ (k : Nat) (x : Ex) (ago : Nat) (acc : List Rf), gat k x ago acc = (pl k x ago).foldl addR acc
  | 0, _, _, _ => rfl
  | k + 1, x, ago, acc => by
    have e : (fun (acc : List Rf) (y : Ex) => gat k y (nextAgo x ago) acc) = fun acc y => (pl k y (nextAgo x ago)).foldl addR acc := by
      funext acc y
      exact gat_pl k y (nextAgo x ago) acc
    rw [gat, pl, e, foldl_flat addR (fun y => pl k y (nextAgo x ago)), List.foldl_append]
    congr 1
    unfold ownRefs
    split <;> rfl
theorem addR_mem (acc : List Rf) (r : Rf) (s : Rf) : s ∈ addR acc r ↔ s ∈ acc ∨ s = r := by
  unfold addR
  split
  · rename_i h
    constructor
    · exact .inl
    · rintro (h1 | rfl)
      · exact h1
      · exact rIn_mem.1 h
  · simp
theorem addR_in {acc : List Rf} {r : Rf} (h : r ∈ acc) : addR acc r = acc := by unfold addR; rw [if_pos (rIn_mem.2 h)]
theorem addR_new {acc : List Rf} {r : Rf} (h : r ∉ acc) : addR acc r = acc ++ [r] := by unfold addR; rw [if_neg (fun h' => h (rIn_mem.1 h'))]
theorem fold_mem : ∀ (l acc : List Rf) (s : Rf), s ∈ l.foldl addR acc ↔ s ∈ acc ∨ s ∈ l
  | [], acc, s => by simp
  | r :: l, acc, s => by rw [List.foldl_cons, fold_mem l, addR_mem, List.mem_cons, or_assoc]
theorem gat_mem (k : Nat) (x : Ex) (ago : Nat) (r : Rf) : r ∈ gat k x ago [] ↔ r ∈ pl k x ago := by
  rw [gat_pl, fold_mem]
  simp
/-- The names that it asks for. -/
def nmz : Nat → Ex → List ByteArray
  | 0, _ => []
  | k + 1, x => (if x.op = 3 then [x.name] else []) ++ x.args.flatMap (nmz k)
theorem pl_nmz : ∀ (k : Nat) (x : Ex) (ago : Nat), (pl k x ago).map (·.1) = nmz k x
  | 0, _, _ => rfl
  | k + 1, x, ago => by
    rw [pl, nmz, List.map_append]
    congr 1
    · split <;> rfl
    · rw [List.map_flatMap]
      congr 1
      funext y
      exact pl_nmz k y (nextAgo x ago)
theorem asks_nmz (p : Pg) (x : Ex) : asksAll p x = true ↔ ∀ s ∈ nmz 32 x, (findT (thingsL p) s).isSome = true := by
  unfold asksAll
  rw [List.all_eq_true]
  constructor
  · intro h s hs
    rw [← pl_nmz 32 x 0] at hs
    obtain ⟨r, hr, rfl⟩ := List.mem_map.1 hs
    exact h r ((gat_mem 32 x 0 r).2 hr)
  · intro h r hr
    exact h r.1 (by rw [← pl_nmz 32 x 0]; exact List.mem_map.2 ⟨r, (gat_mem 32 x 0 r).1 hr, rfl⟩)
theorem nmz_deep : ∀ (d : Nat) (x : Ex), okD d x → nmz (d + 1) x = nmz d x
  | 0, _, h => h.elim
  | d + 1, x, h => by
    rw [nmz, nmz]
    congr 1
    have key : ∀ l : List Ex, (∀ y ∈ l, okD d y) → l.flatMap (nmz (d + 1)) = l.flatMap (nmz d) := by
      intro l
      induction l with
      | nil => intro _; rfl
      | cons a l ih => intro hl; rw [List.flatMap_cons, List.flatMap_cons, nmz_deep d a (hl a (List.mem_cons_self ..)), ih fun y hy => hl y (List.mem_cons_of_mem _ hy)]
    exact key x.args h.2
theorem szL_mono {f g : Nat → Ex → Option Nat} (h : ∀ m m' a j, m ≤ m' → f m a = some j → g m' a = some j) (m m' : Nat) (hm : m ≤ m') : ∀ (l : List Ex) (n k : Nat), szL f m n l = some k → szL g m' n l = some k
  | [], n, k, hs => by simpa [szL] using hs
  | a :: l, n, k, hs => by
    simp only [szL] at hs ⊢
    cases e : f (m - n) a with
    | none => rw [e] at hs; cases hs
    | some j =>
      rw [e] at hs
      rw [h (m - n) (m' - n) a j (by omega) e]
      exact szL_mono h m m' hm l _ k hs
theorem sz_mono : ∀ (d d' : Nat), d ≤ d' → ∀ (m m' : Nat) (x : Ex) (k : Nat), m ≤ m' → sz d m x = some k → sz d' m' x = some k
  | 0, _, _, _, _, _, _, _, h => by simp [sz] at h
  | d + 1, 0, hd, _, _, _, _, _, _ => by omega
  | d + 1, d' + 1, hd, m, m', x, k, hm, h => by
    unfold sz at h ⊢
    by_cases hc : m = 0 ∨ fieldsOk x.op x.n x.name x.args.length = false
    · rw [if_pos hc] at h; cases h
    · rw [if_neg hc] at h
      rw [if_neg (fun h' => hc (by rcases h' with h' | h'; · exact .inl (by omega)
                                   · exact .inr h'))]
      exact szL_mono (fun a b y j hab hj => sz_mono d d' (by omega) a b y j hab hj) m m' hm x.args 1 k h
theorem chk_part {x y : Ex} (h : chk x = true) (hy : y ∈ x.args) : chk y = true := by
  unfold chk at h ⊢
  obtain ⟨k, hk⟩ := Option.isSome_iff_exists.1 h
  unfold sz at hk
  by_cases hc : 200 = 0 ∨ fieldsOk x.op x.n x.name x.args.length = false
  · rw [if_pos hc] at hk; cases hk
  · rw [if_neg hc] at hk
    have key : ∀ (l : List Ex) (n k : Nat), szL (sz 31) 200 n l = some k → y ∈ l → (sz 32 200 y).isSome = true := by
      intro l
      induction l with
      | nil => intro n k _ hy; cases hy
      | cons a l ih =>
        intro n k hs hy
        simp only [szL] at hs
        cases e : sz 31 (200 - n) a with
        | none => rw [e] at hs; cases hs
        | some j =>
          rw [e] at hs
          rcases List.mem_cons.1 hy with rfl | hy
          · rw [sz_mono 31 32 (by omega) (200 - n) 200 y j (by omega) e]; rfl
          · exact ih _ _ hs hy
    exact key x.args 1 k hk hy
theorem asks_part {p : Pg} {x y : Ex} (h : chk x = true) (ha : asksAll p x = true) (hy : y ∈ x.args) : asksAll p y = true := by
  rw [asks_nmz] at ha ⊢
  intro s hs
  have ho := chk_ok h
  have h31 : okD 31 y := ho.2 y hy
  rw [nmz_deep 31 y h31] at hs
  refine ha s ?_
  rw [nmz]
  exact List.mem_append.2 (.inr (List.mem_flatMap.2 ⟨y, hy, hs⟩))
theorem com_all {ts : List Nat} (h : com ts ≠ 0) : ∀ u ∈ ts, u = com ts := by
  intro u hu
  unfold com at h ⊢
  by_cases hc : (ts.all fun t => t == ts.headD 0) = true
  · rw [if_pos hc]
    exact beq_iff_eq.1 (List.all_eq_true.1 hc u hu)
  · rw [if_neg hc] at h; exact (h rfl).elim
theorem of_zero (p : Pg) (x : Ex) : (ofV p x).2 = 0 ↔ chk x = true ∧ asksAll p x = true ∧ tyE p x ≠ 0 := by
  unfold ofV
  by_cases h1 : chk x = false
  · rw [if_pos h1]; simp [h1]
  · rw [if_neg h1]
    have h1' : chk x = true := by simpa using h1
    by_cases h2 : asksAll p x = false
    · rw [if_pos h2]; simp [h2]
    · rw [if_neg h2]
      have h2' : asksAll p x = true := by simpa using h2
      by_cases h3 : tyE p x = 0
      · rw [if_pos h3]; simp [h3]
      · rw [if_neg h3]; simp [h1', h2', h3]
theorem of_ok {p : Pg} {x : Ex} (h1 : chk x = true) (h2 : asksAll p x = true) (h3 : tyE p x ≠ 0) : ofV p x = (tyE p x, 0) := by
  unfold ofV
  rw [if_neg (by rw [h1]; simp), if_neg (by rw [h2]; simp), if_neg h3]
theorem of_not {p : Pg} {x : Ex} (h : (ofV p x).2 ≠ 0) : (ofV p x).1 = 0 ∧ (decide ((ofV p x).2 = 1) = !chk x) := by
  unfold ofV at h ⊢
  by_cases h1 : chk x = false
  · rw [if_pos h1]; simp [h1]
  · rw [if_neg h1] at h ⊢
    have h1' : chk x = true := by simpa using h1
    by_cases h2 : asksAll p x = false
    · rw [if_pos h2]; simp [h1']
    · rw [if_neg h2] at h ⊢
      by_cases h3 : tyE p x = 0
      · rw [if_pos h3]; simp [h1']
      · rw [if_neg h3] at h; exact (h rfl).elim
/-- What is known of one that has a type. -/
theorem fields_len {x : Ex} (h : chk x = true) : fieldsOk x.op x.n x.name x.args.length = true := (chk_ok h).1
theorem part_ty {p : Pg} {x y : Ex} (h : chk x = true) (ht : tyE p x ≠ 0) (hy : y ∈ x.args) : tyE p y ≠ 0 := by
  have hf := fields_len h
  have hlen : x.args.length ≠ 0 := by intro e; rw [List.length_eq_zero_iff.1 e] at hy; cases hy
  by_cases h1 : x.op = 1
  · unfold fieldsOk at hf; rw [if_pos h1] at hf; simp at hf; rw [hf.2.2] at hy; cases hy
  by_cases h2 : x.op = 2
  · unfold fieldsOk at hf; rw [if_neg h1, if_pos h2] at hf; simp at hf; rw [hf.2.2] at hy; cases hy
  by_cases h3 : x.op = 3
  · unfold fieldsOk at hf; rw [if_neg h1, if_neg h2, if_pos h3] at hf; simp at hf; rw [hf.2.2] at hy; cases hy
  have hp := ok_parts hf h1 h2 h3
  rw [tyE_eq, if_neg h1, if_neg h2, if_neg h3] at ht
  have hm : tyE p y ∈ x.args.map (tyE p) := List.mem_map.2 ⟨y, hy, rfl⟩
  unfold ruleT at ht
  by_cases hk0 : x.op = 4 ∨ x.op = 6 ∨ x.op = 7 ∨ x.op = 8 ∨ x.op = 9 ∨ x.op = 10
  · rw [if_pos hk0] at ht
    by_cases hc : com (x.args.map (tyE p)) = 1
    · rw [com_all (by omega) _ hm]; omega
    · rw [if_neg hc] at ht; exact (ht rfl).elim
  rw [if_neg hk0] at ht
  by_cases hk1 : x.op = 5 ∨ x.op = 15 ∨ x.op = 16
  · rw [if_pos hk1] at ht
    by_cases hc : com (x.args.map (tyE p)) = 2
    · rw [com_all (by omega) _ hm]; omega
    · rw [if_neg hc] at ht; exact (ht rfl).elim
  rw [if_neg hk1] at ht
  by_cases hk2 : x.op = 13 ∨ x.op = 14
  · rw [if_pos hk2] at ht
    by_cases hc : com (x.args.map (tyE p)) = 1
    · rw [com_all (by omega) _ hm]; omega
    · rw [if_neg hc] at ht; exact (ht rfl).elim
  rw [if_neg hk2] at ht
  by_cases hk3 : x.op = 11 ∨ x.op = 12
  · rw [if_pos hk3] at ht
    by_cases hc : com (x.args.map (tyE p)) = 0
    · rw [if_pos hc] at ht; exact (ht rfl).elim
    · rw [com_all hc _ hm]; exact hc
  rw [if_neg hk3] at ht
  by_cases hk4 : x.op = 17
  · rw [if_pos hk4] at ht
    by_cases hc : (x.args.map (tyE p)).headD 0 = 2
    · rw [if_pos hc] at ht
      cases hts : x.args.map (tyE p) with
      | nil => rw [hts] at hm; cases hm
      | cons a l =>
        rw [hts] at hm hc ht
        rcases List.mem_cons.1 hm with e | hm'
        · rw [e]; simp at hc; omega
        · rw [com_all (ts := l) ht _ hm']; exact ht
    · rw [if_neg hc] at ht; exact (ht rfl).elim
  rw [if_neg hk4] at ht
  rw [com_all ht _ hm]; exact ht
theorem of_part {p : Pg} {x y : Ex} (h : (ofV p x).2 = 0) (hy : y ∈ x.args) : ofV p y = (tyE p y, 0) ∧ tyE p y ≠ 0 := by
  obtain ⟨h1, h2, h3⟩ := (of_zero p x).1 h
  have ht := part_ty h1 h3 hy
  exact ⟨of_ok (chk_part h1 hy) (asks_part h1 h2 hy) ht, ht⟩
/-- By the operator, what the parts have. -/
theorem ty_num {p : Pg} {x : Ex} (ht : tyE p x ≠ 0) (hk : x.op = 4 ∨ x.op = 6 ∨ x.op = 7 ∨ x.op = 8 ∨ x.op = 9 ∨ x.op = 10) : tyE p x = 1 ∧ ∀ u ∈ x.args.map (tyE p), u = 1 := by
  have h1 : x.op ≠ 1 := by omega
  have h2 : x.op ≠ 2 := by omega
  have h3 : x.op ≠ 3 := by omega
  have e := tyE_eq p x
  rw [if_neg h1, if_neg h2, if_neg h3] at e
  unfold ruleT at e
  rw [if_pos hk] at e
  by_cases hc : com (x.args.map (tyE p)) = 1
  · rw [if_pos hc] at e
    exact ⟨e, fun u hu => (com_all (by omega) u hu).trans hc⟩
  · rw [if_neg hc] at e; exact (ht e).elim
theorem ty_log {p : Pg} {x : Ex} (ht : tyE p x ≠ 0) (hk : x.op = 5 ∨ x.op = 15 ∨ x.op = 16) : tyE p x = 2 ∧ ∀ u ∈ x.args.map (tyE p), u = 2 := by
  have h1 : x.op ≠ 1 := by omega
  have h2 : x.op ≠ 2 := by omega
  have h3 : x.op ≠ 3 := by omega
  have e := tyE_eq p x
  rw [if_neg h1, if_neg h2, if_neg h3] at e
  unfold ruleT at e
  rw [if_neg (by omega), if_pos hk] at e
  by_cases hc : com (x.args.map (tyE p)) = 2
  · rw [if_pos hc] at e
    exact ⟨e, fun u hu => (com_all (by omega) u hu).trans hc⟩
  · rw [if_neg hc] at e; exact (ht e).elim
theorem ty_less {p : Pg} {x : Ex} (ht : tyE p x ≠ 0) (hk : x.op = 13 ∨ x.op = 14) : tyE p x = 2 ∧ ∀ u ∈ x.args.map (tyE p), u = 1 := by
  have h1 : x.op ≠ 1 := by omega
  have h2 : x.op ≠ 2 := by omega
  have h3 : x.op ≠ 3 := by omega
  have e := tyE_eq p x
  rw [if_neg h1, if_neg h2, if_neg h3] at e
  unfold ruleT at e
  rw [if_neg (by omega), if_neg (by omega), if_pos hk] at e
  by_cases hc : com (x.args.map (tyE p)) = 1
  · rw [if_pos hc] at e
    exact ⟨e, fun u hu => (com_all (by omega) u hu).trans hc⟩
  · rw [if_neg hc] at e; exact (ht e).elim
theorem ty_eq {p : Pg} {x : Ex} (ht : tyE p x ≠ 0) (hk : x.op = 11 ∨ x.op = 12) : tyE p x = 2 ∧ ∃ c, ∀ u ∈ x.args.map (tyE p), u = c := by
  have h1 : x.op ≠ 1 := by omega
  have h2 : x.op ≠ 2 := by omega
  have h3 : x.op ≠ 3 := by omega
  have e := tyE_eq p x
  rw [if_neg h1, if_neg h2, if_neg h3] at e
  unfold ruleT at e
  rw [if_neg (by omega), if_neg (by omega), if_neg (by omega), if_pos hk] at e
  by_cases hc : com (x.args.map (tyE p)) = 0
  · rw [if_pos hc] at e; exact (ht e).elim
  · rw [if_neg hc] at e
    exact ⟨e, _, com_all hc⟩
theorem ty_if {p : Pg} {x : Ex} (ht : tyE p x ≠ 0) (hk : x.op = 17) : (x.args.map (tyE p)).headD 0 = 2 ∧ ∀ u ∈ (x.args.map (tyE p)).drop 1, u = tyE p x := by
  have h1 : x.op ≠ 1 := by omega
  have h2 : x.op ≠ 2 := by omega
  have h3 : x.op ≠ 3 := by omega
  have e := tyE_eq p x
  rw [if_neg h1, if_neg h2, if_neg h3] at e
  unfold ruleT at e
  rw [if_neg (by omega), if_neg (by omega), if_neg (by omega), if_neg (by omega), if_pos hk] at e
  by_cases hc : (x.args.map (tyE p)).headD 0 = 2
  · rw [if_pos hc] at e
    refine ⟨hc, fun u hu => ?_⟩
    rw [e]
    exact com_all (fun h => ht (e.trans h)) u hu
  · rw [if_neg hc] at e; exact (ht e).elim
theorem ty_same {p : Pg} {x : Ex} (ht : tyE p x ≠ 0) (hk : x.op = 18 ∨ x.op = 19) : ∀ u ∈ x.args.map (tyE p), u = tyE p x := by
  have h1 : x.op ≠ 1 := by omega
  have h2 : x.op ≠ 2 := by omega
  have h3 : x.op ≠ 3 := by omega
  have e := tyE_eq p x
  rw [if_neg h1, if_neg h2, if_neg h3] at e
  unfold ruleT at e
  rw [if_neg (by omega), if_neg (by omega), if_neg (by omega), if_neg (by omega), if_neg (by omega)] at e
  intro u hu
  rw [e]
  exact com_all (fun h => ht (e.trans h)) u hu
theorem ty_name {p : Pg} {x : Ex} (ht : tyE p x ≠ 0) (hk : x.op = 3) : ∃ z, findT (thingsL p) x.name = some z ∧ z.2.ty = tyE p x := by
  have e := tyE_eq p x
  rw [if_neg (by omega), if_neg (by omega), if_pos hk] at e
  unfold tyN at e
  cases hz : findT (thingsL p) x.name with
  | none => rw [hz] at e; exact (ht e).elim
  | some z =>
    rw [hz] at e
    simp only at e
    by_cases hc : z.2.ty = 1 ∨ z.2.ty = 2
    · rw [if_pos hc] at e; exact ⟨z, rfl, e.symm⟩
    · rw [if_neg hc] at e; exact (ht e).elim
theorem len_parts {x : Ex} (h : chk x = true) (h1 : x.op ≠ 1) (h2 : x.op ≠ 2) (h3 : x.op ≠ 3) : x.args.length = parts x.op := by
  have hf := fields_len h
  unfold fieldsOk at hf
  rw [if_neg h1, if_neg h2, if_neg h3] at hf
  simp only [Bool.and_eq_true, decide_eq_true_eq] at hf
  exact hf.2.2.2
theorem parts_two {op : Nat} (h : op = 11 ∨ op = 12 ∨ op = 18) : parts op = 2 := by
  rcases h with rfl | rfl | rfl <;> decide +kernel
theorem parts_one : parts 19 = 1 := by decide +kernel
end Go.Proofs.YtakjkhfglihggabDoor.Lex
namespace Go.Proofs.YtakjkhfglihggabDoor.Lex
open Go.ChangeShapes Go.WideShapes Go.ChangeAt Go.RowKit Go.Joins
def fitT (v : Int) (t : Nat) : Bool := !decide (t = 2) || decide (v = 0) || decide (v = 1)
set_option maxRecDepth 100000 in
set_option maxHeartbeats 1000000 in
theorem fits_t (v : Int) (t : Nat) (w : World) :
    Calls Tryd.prog 16 #[.int .i64 v, .int .u8 (t : Int)] w fun e w' => e = .returned (.bool (fitT v t)) ∧ Below w.heap.size w w' := by
  have B0 := Below.refl w.heap.size w
  by_cases ht : t = 2
  · have ht' : (t : Int) = 2 := by omega
    by_cases h0 : v = 0
    · go_enter Tryd.func16, Tryd.ntmps16
      go_wp2_with (fail)
      go_ret
      refine ⟨?_, B0⟩
      simp [fitT, ht, h0]
    · go_enter Tryd.func16, Tryd.ntmps16
      go_wp2_with (fail)
      go_ret
      refine ⟨?_, B0⟩
      by_cases h1 : v = 1 <;> simp [fitT, ht, h0, h1]
  · have ht' : ¬ (t : Int) = 2 := by omega
    go_enter Tryd.func16, Tryd.ntmps16
    go_wp2_with (fail)
    go_ret
    refine ⟨?_, B0⟩
    simp [fitT, ht]
end Go.Proofs.YtakjkhfglihggabDoor.Lex
namespace Go.Proofs.YtakjkhfglihggabDoor.Lex
open Go.ChangeShapes Go.WideShapes Go.ChangeAt Go.RowKit Go.Joins
/-- Is a flow of its type, and its default? -/
def flT (p : Pg) (f : Fl) : Bool := decide (tyE p f.body = f.ty) && fitT f.df f.ty
/-- What types.Check answers. -/
def ckV (p : Pg) : Int := if nmErr p = 0 then (if p.flows.all (flT p) then 0 else 7) else nmErr p
theorem nmErr_ok {p : Pg} (h : nmErr p = 0) : pgOk p = true := by
  unfold nmErr at h
  by_cases hp : pgOk p = true
  · exact hp
  · rw [if_neg hp] at h; omega
set_option maxRecDepth 100000 in
set_option maxHeartbeats 4000000 in
theorem types_check (p : Pg) (w : World) (A B C : Value) (hP : PgAt w p A B C) (hR : TabR w) (hJ : TabJ w) : Calls Tryd.prog 6 #[pgV p A B C] w fun e w' => e = .returned (.int .i64 (ckV p)) ∧ Below w.heap.size w w' := by
  have X0 := hid (FV.new hP hR hJ)
  obtain ⟨ao, cap, sl0, rfl, _⟩ := hP.flows
  clear hP hR hJ
  go_enter Tryd.func6, Tryd.ntmps6
  go_wp2_with (fail)
  refine ((callsIn_wide (n := 20)).1 (names_check p _ _ _ _ X0.out.P X0.out.R X0.out.J)).mono ?_
  rintro e w1 ⟨rfl, hb1⟩
  have X1 := hid (X0.out.keep hb1)
  clear hb1 X0
  by_cases hn : nmErr p = 0
  · have HK := hid (pgOk_chk (nmErr_ok hn))
    have HOV : Hid (ckV p = if p.flows.all (flT p) then 0 else 7) := hid (by unfold ckV; rw [if_pos hn])
    rw [hn]
    clear hn
    go_wp2_with (fail)
    refine (rules _).mono ?_
    rintro e w2 ⟨ab, rfl, hasks, hb2⟩
    have X2 := hid (X1.out.keep hb2)
    have AS := hid hasks
    generalize w1.heap.size = an at AS
    obtain ⟨s0, s1, s2, s3⟩ := row4 X2.out.row
    clear hb2 hasks X1
    go_wp2_with (fail)
    clear s0 s1 s2 s3
    obtain ⟨ao', cap', sl, heq, hlen, _, hok, hc, hs⟩ := X2.out.P.flows
    obtain ⟨rfl, rfl⟩ : ao = ao' ∧ cap = cap' := by simpa using heq
    have HC := hid hc
    have HS := hid hs
    clear hc hs hok heq
    go_loopw [16] (fun i wr => ∃ r : Nat, r ≤ p.flows.length ∧ i = .int .i64 (r : Int) ∧ Hid (∀ z ∈ p.flows.take r, flT p z = true) ∧ Hid (Below w2.heap.size w2 wr)) (fun i _ => p.flows.length - (intOf i).toNat)
    case atStart => exact ⟨0, Nat.zero_le _, rfl, hid (by simp), hid (Below.refl _ _)⟩
    case round =>
      obtain ⟨r, hr, rfl, HE, hB⟩ := hrel
      have FX := hid (X2.out.keep hB.out)
      by_cases hrl : r < p.flows.length
      · have hrl' : (r : Int) < (p.flows.length : Int) := by omega
        have hr0 : (0 : Int) ≤ (r : Int) := by omega
        obtain ⟨gb, go, rfl, hcc⟩ := HC.out.resolve_left (by omega)
        obtain ⟨y0, y1, y2, y3, y4, y5, y6, y7⟩ := (hcc r hrl).keep hB.out
        have HTK := hid (List.take_succ_eq_append_getElem hrl)
        have HMG := hid (List.getElem_mem hrl)
        have HST := hid ((HS.out r hrl).keep hB.out)
        clear hcc
        generalize sl r = sv at *
        generalize hy : p.flows[r] = y at *
        clear hy
        obtain ⟨sa, sc, _, rfl, _⟩ := HST.out.out
        have BA := hid ((Below.refl wr.heap.size wr).alloc (Nat.le_refl _) (.cells #[.string y.name, .int .u8 (y.ty : Int), .int .i64 y.st, .int .i64 y.df, .int .u8 (y.body.op : Int), .int .i64 y.body.n, .string y.body.name, .slice sa y.body.args.length sc] 38))
        have FA := hid (FX.out.keep BA.out)
        have bx := fun j v => box_at wr #[.string y.name, .int .u8 (y.ty : Int), .int .i64 y.st, .int .i64 y.df, .int .u8 (y.body.op : Int), .int .i64 y.body.n, .string y.body.name, .slice sa y.body.args.length sc] 38 j v
        have q0 := bx 0 _ rfl
        have q1 := bx 1 _ rfl
        have q2 := bx 2 _ rfl
        have q3 := bx 3 _ rfl
        have q4 := bx 4 _ rfl
        have q5 := bx 5 _ rfl
        have q6 := bx 6 _ rfl
        have q7 := bx 7 _ rfl
        clear bx
        obtain ⟨s0, s1, s2, s3⟩ := row4 FA.out.row
        have c31 := type_of p y.body (HK.out y HMG.out) _ _ _ _ _ an ab (FA.out.P.keep (Below.refl _ _).drew) ((AS.out.keep (hB.out.trans (BA.out.mono hB.out.size))).keep (Below.refl _ _).drew) ((HST.out.keep BA.out).keep (Below.refl _ _).drew)
        by_cases ht : tyE p y.body = y.ty
        · rw [ht] at c31
          have HTB : Hid (((y.ty : Int) != (y.ty : Int)) = false) := hid (by simp)
          go_wp2_with (fail)
          refine wp_region_held_drew (S := fun W => W.cell? ⟨w.heap.size, 0, none⟩ = some (.int .i64 p.st) ∧ W.cell? ⟨w.heap.size, 1, none⟩ = some (A) ∧ W.cell? ⟨w.heap.size, 2, none⟩ = some ((.slice (some ⟨gb, go, none⟩) p.flows.length cap)) ∧ W.cell? ⟨w.heap.size, 3, none⟩ = some (C) ∧ W.cell? ⟨wr.heap.size, 0, none⟩ = some (.string y.name) ∧ W.cell? ⟨wr.heap.size, 1, none⟩ = some (.int .u8 (y.ty : Int)) ∧ W.cell? ⟨wr.heap.size, 2, none⟩ = some (.int .i64 y.st) ∧ W.cell? ⟨wr.heap.size, 3, none⟩ = some (.int .i64 y.df) ∧ W.cell? ⟨wr.heap.size, 4, none⟩ = some (.int .u8 (y.body.op : Int)) ∧ W.cell? ⟨wr.heap.size, 5, none⟩ = some (.int .i64 y.body.n) ∧ W.cell? ⟨wr.heap.size, 6, none⟩ = some (.string y.body.name) ∧ W.cell? ⟨wr.heap.size, 7, none⟩ = some (.slice sa y.body.args.length sc)) (by kernel_rfl) ?_ (fun hHeld => ?_)
          · exact ⟨s0, s1, s2, s3, q0, q1, q2, q3, q4, q5, q6, q7⟩
          refine wpAnyH_take (i := 0) (oi := { dst := some 20, op := Go.Op.load 26 (Go.Operand.tmp 1), type := 26, pos := _, after := #[], guard := none }) (v := ?_) rfl (by kernel_rfl) (by kernel_rfl) (by kernel_rfl) (fun _ _ _ h => h) (Or.inl ⟨by rfl, ?_⟩) (by assumption) ?_
          rotate_left
          · intro w hSw; (try dsimp only at hSw); go_simp <;> first | with_reducible rfl | (rw [if_neg (by first | omega | (simp only [ByteArray.size_append] at *; omega))])
          simp only [Act.put, List.setIfInBounds_toArray, List.set_cons_zero, List.set_cons_succ]
          refine wpAnyH_take (i := 1) (oi := { dst := some 21, op := Go.Op.move (Go.Operand.tmp 4), type := 44, pos := _, after := #[], guard := none }) (v := ?_) rfl (by kernel_rfl) (by kernel_rfl) (by kernel_rfl) (fun _ _ _ h => h) (Or.inl ⟨by rfl, ?_⟩) (by assumption) ?_
          rotate_left
          · intro w hSw; (try dsimp only at hSw); go_simp <;> first | with_reducible rfl | (rw [if_neg (by first | omega | (simp only [ByteArray.size_append] at *; omega))])
          simp only [Act.put, List.setIfInBounds_toArray, List.set_cons_zero, List.set_cons_succ]
          refine wpAnyH_take (i := 2) (oi := { dst := some 22, op := Go.Op.fieldAddr 38 (Go.Operand.tmp 6) 4, type := 0, pos := _, after := #[], guard := none }) (v := ?_) rfl (by kernel_rfl) (by kernel_rfl) (by kernel_rfl) (fun _ _ _ h => h) (Or.inl ⟨by rfl, ?_⟩) (by assumption) ?_
          rotate_left
          · intro w hSw; (try dsimp only at hSw); go_simp <;> first | with_reducible rfl | (rw [if_neg (by first | omega | (simp only [ByteArray.size_append] at *; omega))])
          simp only [Act.put, List.setIfInBounds_toArray, List.set_cons_zero, List.set_cons_succ]
          refine wpAnyH_take (i := 3) (oi := { dst := some 23, op := Go.Op.load 36 (Go.Operand.tmp 22), type := 36, pos := _, after := #[{ on := 2, ground := Go.Ground.data }], guard := none }) (v := ?_) rfl (by kernel_rfl) (by kernel_rfl) (by kernel_rfl) (fun _ _ _ h => h) (Or.inl ⟨by rfl, ?_⟩) (by assumption) ?_
          rotate_left
          · intro w hSw; (try dsimp only at hSw); go_simp <;> first | with_reducible rfl | (rw [if_neg (by first | omega | (simp only [ByteArray.size_append] at *; omega))])
          simp only [Act.put, List.setIfInBounds_toArray, List.set_cons_zero, List.set_cons_succ]
          refine wpAnyH_take (i := 5) (oi := { dst := some 25, op := Go.Op.fieldAddr 38 (Go.Operand.tmp 6) 1, type := 0, pos := _, after := #[], guard := none }) (v := ?_) rfl (by kernel_rfl) (by kernel_rfl) (by kernel_rfl) (fun _ _ _ h => h) (Or.inl ⟨by rfl, ?_⟩) (by assumption) ?_
          rotate_left
          · intro w hSw; (try dsimp only at hSw); go_simp <;> first | with_reducible rfl | (rw [if_neg (by first | omega | (simp only [ByteArray.size_append] at *; omega))])
          simp only [Act.put, List.setIfInBounds_toArray, List.set_cons_zero, List.set_cons_succ]
          refine wpAnyH_take (i := 6) (oi := { dst := some 26, op := Go.Op.load 32 (Go.Operand.tmp 25), type := 32, pos := _, after := #[{ on := 5, ground := Go.Ground.data }], guard := none }) (v := ?_) rfl (by kernel_rfl) (by kernel_rfl) (by kernel_rfl) (fun _ _ _ h => h) (Or.inl ⟨by rfl, ?_⟩) (by assumption) ?_
          rotate_left
          · intro w hSw; (try dsimp only at hSw); go_simp <;> first | with_reducible rfl | (rw [if_neg (by first | omega | (simp only [ByteArray.size_append] at *; omega))])
          simp only [Act.put, List.setIfInBounds_toArray, List.set_cons_zero, List.set_cons_succ]
          refine wpAnyH_ready (rs := [4]) (by kernel_rfl) (by simp) ?_
          refine AllReadyH.cons (o := { dst := some 24, op := Go.Op.call { callee := Go.Callee.value (Go.Operand.func 15), args := #[Go.Operand.tmp 20, Go.Operand.tmp 21, Go.Operand.tmp 23], argTypes := #[26, 44, 36] }, type := 32, pos := _, after := #[{ on := 0, ground := Go.Ground.data }, { on := 1, ground := Go.Ground.data }, { on := 3, ground := Go.Ground.data }], guard := none }) rfl (fun K hK => ?_) AllReadyH.nil
          go_simp
          refine c31.mono ?_
          rintro e v1 ⟨rfl, hb1⟩
          have HG1 : Hid (Below (wr.alloc (.cells #[.string y.name, .int .u8 (y.ty : Int), .int .i64 y.st, .int .i64 y.df, .int .u8 (y.body.op : Int), .int .i64 y.body.n, .string y.body.name, .slice sa y.body.args.length sc] 38)).heap.size (wr.alloc (.cells #[.string y.name, .int .u8 (y.ty : Int), .int .i64 y.st, .int .i64 y.df, .int .u8 (y.body.op : Int), .int .i64 y.body.n, .string y.body.name, .slice sa y.body.args.length sc] 38)) v1) := hid ((Below.refl _ _).drew.trans (hb1.mono (by simp)))
          have X1 := hid (FA.out.keep HG1.out)
          obtain ⟨t0, t1, t2, t3⟩ := row4 X1.out.row
          have u0 := cell_kept q0 HG1.out
          have u1 := cell_kept q1 HG1.out
          have u2 := cell_kept q2 HG1.out
          have u3 := cell_kept q3 HG1.out
          have u4 := cell_kept q4 HG1.out
          have u5 := cell_kept q5 HG1.out
          have u6 := cell_kept q6 HG1.out
          have u7 := cell_kept q7 HG1.out
          clear hb1
          go_wp2_with fail
          refine hK.out _ _ ?_ (fun hHeld1 => ?_)
          · exact ⟨t0, t1, t2, t3, u0, u1, u2, u3, u4, u5, u6, u7⟩
          clear hK K
          refine wpAnyH_take (i := 7) (oi := { dst := some 27, op := Go.Op.binOp Go.BinOp.neq 32 (Go.Operand.tmp 24) (Go.Operand.tmp 26) 32, type := 4, pos := _, after := #[{ on := 4, ground := Go.Ground.data }, { on := 6, ground := Go.Ground.data }], guard := none }) (v := ?_) rfl (by kernel_rfl) (by kernel_rfl) (by kernel_rfl) (fun _ _ _ h => h) (Or.inl ⟨by rfl, ?_⟩) (by assumption) ?_
          rotate_left
          · intro w hSw; (try dsimp only at hSw); go_simp <;> first | with_reducible rfl | (rw [if_neg (by first | omega | (simp only [ByteArray.size_append] at *; omega))])
          simp only [Act.put, List.setIfInBounds_toArray, List.set_cons_zero, List.set_cons_succ]
          (try simp only [HTB.out])
          refine wpAnyH_take (i := 8) (oi := { dst := some 28, op := Go.Op.move (Go.Operand.tmp 27), type := 4, pos := _, after := #[{ on := 7, ground := Go.Ground.data }, { on := 4, ground := Go.Ground.chain }], guard := none }) (v := ?_) rfl (by kernel_rfl) (by kernel_rfl) (by kernel_rfl) (fun _ _ _ h => h) (Or.inl ⟨by rfl, ?_⟩) (by assumption) ?_
          rotate_left
          · intro w hSw; (try dsimp only at hSw); go_simp <;> first | with_reducible rfl | (rw [if_neg (by first | omega | (simp only [ByteArray.size_append] at *; omega))])
          simp only [Act.put, List.setIfInBounds_toArray, List.set_cons_zero, List.set_cons_succ]
          refine wpAnyH_take (i := 9) (oi := { dst := some 29, op := Go.Op.fieldAddr 38 (Go.Operand.tmp 6) 3, type := 0, pos := _, after := #[{ on := 8, ground := Go.Ground.guard }], guard := some (8, false) }) (v := ?_) rfl (by kernel_rfl) (by kernel_rfl) (by kernel_rfl) (fun _ _ _ h => h) (Or.inl ⟨by rfl, ?_⟩) (by assumption) ?_
          rotate_left
          · intro w hSw; (try dsimp only at hSw); go_simp <;> first | with_reducible rfl | (rw [if_neg (by first | omega | (simp only [ByteArray.size_append] at *; omega))])
          simp only [Act.put, List.setIfInBounds_toArray, List.set_cons_zero, List.set_cons_succ]
          refine wpAnyH_take (i := 10) (oi := { dst := some 30, op := Go.Op.load 2 (Go.Operand.tmp 29), type := 2, pos := _, after := #[{ on := 9, ground := Go.Ground.data }, { on := 8, ground := Go.Ground.guard }], guard := some (8, false) }) (v := ?_) rfl (by kernel_rfl) (by kernel_rfl) (by kernel_rfl) (fun _ _ _ h => h) (Or.inl ⟨by rfl, ?_⟩) (by assumption) ?_
          rotate_left
          · intro w hSw; (try dsimp only at hSw); go_simp <;> first | with_reducible rfl | (rw [if_neg (by first | omega | (simp only [ByteArray.size_append] at *; omega))])
          simp only [Act.put, List.setIfInBounds_toArray, List.set_cons_zero, List.set_cons_succ]
          refine wpAnyH_take (i := 11) (oi := { dst := some 31, op := Go.Op.fieldAddr 38 (Go.Operand.tmp 6) 1, type := 0, pos := _, after := #[{ on := 8, ground := Go.Ground.guard }], guard := some (8, false) }) (v := ?_) rfl (by kernel_rfl) (by kernel_rfl) (by kernel_rfl) (fun _ _ _ h => h) (Or.inl ⟨by rfl, ?_⟩) (by assumption) ?_
          rotate_left
          · intro w hSw; (try dsimp only at hSw); go_simp <;> first | with_reducible rfl | (rw [if_neg (by first | omega | (simp only [ByteArray.size_append] at *; omega))])
          simp only [Act.put, List.setIfInBounds_toArray, List.set_cons_zero, List.set_cons_succ]
          refine wpAnyH_take (i := 12) (oi := { dst := some 32, op := Go.Op.load 32 (Go.Operand.tmp 31), type := 32, pos := _, after := #[{ on := 11, ground := Go.Ground.data }, { on := 8, ground := Go.Ground.guard }], guard := some (8, false) }) (v := ?_) rfl (by kernel_rfl) (by kernel_rfl) (by kernel_rfl) (fun _ _ _ h => h) (Or.inl ⟨by rfl, ?_⟩) (by assumption) ?_
          rotate_left
          · intro w hSw; (try dsimp only at hSw); go_simp <;> first | with_reducible rfl | (rw [if_neg (by first | omega | (simp only [ByteArray.size_append] at *; omega))])
          simp only [Act.put, List.setIfInBounds_toArray, List.set_cons_zero, List.set_cons_succ]
          refine wpAnyH_ready (rs := [13]) (by kernel_rfl) (by simp) ?_
          refine AllReadyH.cons (o := { dst := some 33, op := Go.Op.call { callee := Go.Callee.value (Go.Operand.func 16), args := #[Go.Operand.tmp 30, Go.Operand.tmp 32], argTypes := #[2, 32] }, type := 4, pos := _, after := #[{ on := 10, ground := Go.Ground.data }, { on := 12, ground := Go.Ground.data }, { on := 8, ground := Go.Ground.chain }, { on := 8, ground := Go.Ground.guard }], guard := some (8, false) }) rfl (fun K hK => ?_) AllReadyH.nil
          go_simp
          refine (fits_t y.df y.ty _).mono ?_
          rintro e v2 ⟨rfl, hb2⟩
          have X2' := hid (X1.out.keep hb2)
          obtain ⟨m0, m1, m2, m3⟩ := row4 X2'.out.row
          have n0 := cell_kept u0 hb2
          have n1 := cell_kept u1 hb2
          have n2 := cell_kept u2 hb2
          have n3 := cell_kept u3 hb2
          have n4 := cell_kept u4 hb2
          have n5 := cell_kept u5 hb2
          have n6 := cell_kept u6 hb2
          have n7 := cell_kept u7 hb2
          have HG2 := hid hb2
          clear hb2
          go_wp2_with fail
          refine hK.out _ _ ?_ (fun hHeld2 => ?_)
          · exact ⟨m0, m1, m2, m3, n0, n1, n2, n3, n4, n5, n6, n7⟩
          clear hK K
          refine wpAnyH_take (i := 14) (oi := { dst := some 34, op := Go.Op.unOp Go.UnOp.not 4 (Go.Operand.tmp 33), type := 4, pos := _, after := #[{ on := 13, ground := Go.Ground.data }, { on := 8, ground := Go.Ground.guard }], guard := some (8, false) }) (v := ?_) rfl (by kernel_rfl) (by kernel_rfl) (by kernel_rfl) (fun _ _ _ h => h) (Or.inl ⟨by rfl, ?_⟩) (by assumption) ?_
          rotate_left
          · intro w hSw; (try dsimp only at hSw); go_simp <;> first | with_reducible rfl | (rw [if_neg (by first | omega | (simp only [ByteArray.size_append] at *; omega))])
          simp only [Act.put, List.setIfInBounds_toArray, List.set_cons_zero, List.set_cons_succ]
          refine wpAnyH_take (i := 15) (oi := { dst := some 35, op := Go.Op.pick (Go.Operand.tmp 28) (Go.Operand.const (Go.Value.bool true)) (Go.Operand.tmp 34), type := 4, pos := _, after := #[{ on := 8, ground := Go.Ground.data }, { on := 14, ground := Go.Ground.data }], guard := none }) (v := ?_) rfl (by kernel_rfl) (by kernel_rfl) (by kernel_rfl) (fun _ _ _ h => h) (Or.inl ⟨by rfl, ?_⟩) (by assumption) ?_
          rotate_left
          · intro w hSw; (try dsimp only at hSw); go_simp <;> first | with_reducible rfl | (rw [if_neg (by first | omega | (simp only [ByteArray.size_append] at *; omega))])
          simp only [Act.put, List.setIfInBounds_toArray, List.set_cons_zero, List.set_cons_succ]
          refine wpAnyH_done (by kernel_rfl) ?_ _
          clear s0 s1 s2 s3 t0 t1 t2 t3 m0 m1 m2 m3 q0 q1 q2 q3 q4 q5 q6 q7 u0 u1 u2 u3 u4 u5 u6 u7 n0 n1 n2 n3 n4 n5 n6 n7 y0 y1 y2 y3 y4 y5 y6 y7
          cases hf : fitT y.df y.ty with
          | true =>
            have HE2 : Hid (∀ q ∈ p.flows.take (r + 1), flT p q = true) := hid (fun q hq => by
              rw [HTK.out] at hq
              rcases List.mem_append.1 hq with h | h
              · exact HE.out q h
              · rw [List.mem_singleton.1 h]; unfold flT; rw [hf, ht]; simp)
            have HB3 := hid (hB.out.trans ((bstep (bstep BA.out HG1.out) HG2.out).mono hB.out.size))
            clear hf ht
            go_wp2_with (fail)
            go_roundw
            case rel => exact ⟨r + 1, by omega, by go_num, HE2, HB3⟩
            case measure => simp [intOf]; omega
          | false =>
            have HV : Hid (ckV p = 7) := hid (by rw [HOV.out, if_neg]; intro h; have := List.all_eq_true.1 h y HMG.out; unfold flT at this; rw [hf] at this; simp at this)
            clear hf ht
            go_wp2_with (fail)
            go_ret
            exact ⟨by rw [HV.out]; rfl, X2'.out.below⟩
        · have HTB : Hid (((tyE p y.body : Int) != (y.ty : Int)) = true) := hid (by rw [bne_iff_ne]; omega)
          have HV : Hid (ckV p = 7) := hid (by rw [HOV.out, if_neg]; intro h; have := List.all_eq_true.1 h y HMG.out; unfold flT at this; simp [ht] at this)
          generalize tyE p y.body = ty at *
          go_wp2_with (fail)
          refine wp_region_held_drew (S := fun W => W.cell? ⟨w.heap.size, 0, none⟩ = some (.int .i64 p.st) ∧ W.cell? ⟨w.heap.size, 1, none⟩ = some (A) ∧ W.cell? ⟨w.heap.size, 2, none⟩ = some ((.slice (some ⟨gb, go, none⟩) p.flows.length cap)) ∧ W.cell? ⟨w.heap.size, 3, none⟩ = some (C) ∧ W.cell? ⟨wr.heap.size, 0, none⟩ = some (.string y.name) ∧ W.cell? ⟨wr.heap.size, 1, none⟩ = some (.int .u8 (y.ty : Int)) ∧ W.cell? ⟨wr.heap.size, 2, none⟩ = some (.int .i64 y.st) ∧ W.cell? ⟨wr.heap.size, 3, none⟩ = some (.int .i64 y.df) ∧ W.cell? ⟨wr.heap.size, 4, none⟩ = some (.int .u8 (y.body.op : Int)) ∧ W.cell? ⟨wr.heap.size, 5, none⟩ = some (.int .i64 y.body.n) ∧ W.cell? ⟨wr.heap.size, 6, none⟩ = some (.string y.body.name) ∧ W.cell? ⟨wr.heap.size, 7, none⟩ = some (.slice sa y.body.args.length sc)) (by kernel_rfl) ?_ (fun hHeld => ?_)
          · exact ⟨s0, s1, s2, s3, q0, q1, q2, q3, q4, q5, q6, q7⟩
          refine wpAnyH_take (i := 0) (oi := { dst := some 20, op := Go.Op.load 26 (Go.Operand.tmp 1), type := 26, pos := _, after := #[], guard := none }) (v := ?_) rfl (by kernel_rfl) (by kernel_rfl) (by kernel_rfl) (fun _ _ _ h => h) (Or.inl ⟨by rfl, ?_⟩) (by assumption) ?_
          rotate_left
          · intro w hSw; (try dsimp only at hSw); go_simp <;> first | with_reducible rfl | (rw [if_neg (by first | omega | (simp only [ByteArray.size_append] at *; omega))])
          simp only [Act.put, List.setIfInBounds_toArray, List.set_cons_zero, List.set_cons_succ]
          refine wpAnyH_take (i := 1) (oi := { dst := some 21, op := Go.Op.move (Go.Operand.tmp 4), type := 44, pos := _, after := #[], guard := none }) (v := ?_) rfl (by kernel_rfl) (by kernel_rfl) (by kernel_rfl) (fun _ _ _ h => h) (Or.inl ⟨by rfl, ?_⟩) (by assumption) ?_
          rotate_left
          · intro w hSw; (try dsimp only at hSw); go_simp <;> first | with_reducible rfl | (rw [if_neg (by first | omega | (simp only [ByteArray.size_append] at *; omega))])
          simp only [Act.put, List.setIfInBounds_toArray, List.set_cons_zero, List.set_cons_succ]
          refine wpAnyH_take (i := 2) (oi := { dst := some 22, op := Go.Op.fieldAddr 38 (Go.Operand.tmp 6) 4, type := 0, pos := _, after := #[], guard := none }) (v := ?_) rfl (by kernel_rfl) (by kernel_rfl) (by kernel_rfl) (fun _ _ _ h => h) (Or.inl ⟨by rfl, ?_⟩) (by assumption) ?_
          rotate_left
          · intro w hSw; (try dsimp only at hSw); go_simp <;> first | with_reducible rfl | (rw [if_neg (by first | omega | (simp only [ByteArray.size_append] at *; omega))])
          simp only [Act.put, List.setIfInBounds_toArray, List.set_cons_zero, List.set_cons_succ]
          refine wpAnyH_take (i := 3) (oi := { dst := some 23, op := Go.Op.load 36 (Go.Operand.tmp 22), type := 36, pos := _, after := #[{ on := 2, ground := Go.Ground.data }], guard := none }) (v := ?_) rfl (by kernel_rfl) (by kernel_rfl) (by kernel_rfl) (fun _ _ _ h => h) (Or.inl ⟨by rfl, ?_⟩) (by assumption) ?_
          rotate_left
          · intro w hSw; (try dsimp only at hSw); go_simp <;> first | with_reducible rfl | (rw [if_neg (by first | omega | (simp only [ByteArray.size_append] at *; omega))])
          simp only [Act.put, List.setIfInBounds_toArray, List.set_cons_zero, List.set_cons_succ]
          refine wpAnyH_take (i := 5) (oi := { dst := some 25, op := Go.Op.fieldAddr 38 (Go.Operand.tmp 6) 1, type := 0, pos := _, after := #[], guard := none }) (v := ?_) rfl (by kernel_rfl) (by kernel_rfl) (by kernel_rfl) (fun _ _ _ h => h) (Or.inl ⟨by rfl, ?_⟩) (by assumption) ?_
          rotate_left
          · intro w hSw; (try dsimp only at hSw); go_simp <;> first | with_reducible rfl | (rw [if_neg (by first | omega | (simp only [ByteArray.size_append] at *; omega))])
          simp only [Act.put, List.setIfInBounds_toArray, List.set_cons_zero, List.set_cons_succ]
          refine wpAnyH_take (i := 6) (oi := { dst := some 26, op := Go.Op.load 32 (Go.Operand.tmp 25), type := 32, pos := _, after := #[{ on := 5, ground := Go.Ground.data }], guard := none }) (v := ?_) rfl (by kernel_rfl) (by kernel_rfl) (by kernel_rfl) (fun _ _ _ h => h) (Or.inl ⟨by rfl, ?_⟩) (by assumption) ?_
          rotate_left
          · intro w hSw; (try dsimp only at hSw); go_simp <;> first | with_reducible rfl | (rw [if_neg (by first | omega | (simp only [ByteArray.size_append] at *; omega))])
          simp only [Act.put, List.setIfInBounds_toArray, List.set_cons_zero, List.set_cons_succ]
          refine wpAnyH_ready (rs := [4]) (by kernel_rfl) (by simp) ?_
          refine AllReadyH.cons (o := { dst := some 24, op := Go.Op.call { callee := Go.Callee.value (Go.Operand.func 15), args := #[Go.Operand.tmp 20, Go.Operand.tmp 21, Go.Operand.tmp 23], argTypes := #[26, 44, 36] }, type := 32, pos := _, after := #[{ on := 0, ground := Go.Ground.data }, { on := 1, ground := Go.Ground.data }, { on := 3, ground := Go.Ground.data }], guard := none }) rfl (fun K hK => ?_) AllReadyH.nil
          go_simp
          refine c31.mono ?_
          rintro e v1 ⟨rfl, hb1⟩
          have HG1 : Hid (Below (wr.alloc (.cells #[.string y.name, .int .u8 (y.ty : Int), .int .i64 y.st, .int .i64 y.df, .int .u8 (y.body.op : Int), .int .i64 y.body.n, .string y.body.name, .slice sa y.body.args.length sc] 38)).heap.size (wr.alloc (.cells #[.string y.name, .int .u8 (y.ty : Int), .int .i64 y.st, .int .i64 y.df, .int .u8 (y.body.op : Int), .int .i64 y.body.n, .string y.body.name, .slice sa y.body.args.length sc] 38)) v1) := hid ((Below.refl _ _).drew.trans (hb1.mono (by simp)))
          have X1 := hid (FA.out.keep HG1.out)
          obtain ⟨t0, t1, t2, t3⟩ := row4 X1.out.row
          have u0 := cell_kept q0 HG1.out
          have u1 := cell_kept q1 HG1.out
          have u2 := cell_kept q2 HG1.out
          have u3 := cell_kept q3 HG1.out
          have u4 := cell_kept q4 HG1.out
          have u5 := cell_kept q5 HG1.out
          have u6 := cell_kept q6 HG1.out
          have u7 := cell_kept q7 HG1.out
          clear hb1
          go_wp2_with fail
          refine hK.out _ _ ?_ (fun hHeld1 => ?_)
          · exact ⟨t0, t1, t2, t3, u0, u1, u2, u3, u4, u5, u6, u7⟩
          clear hK K
          refine wpAnyH_take (i := 7) (oi := { dst := some 27, op := Go.Op.binOp Go.BinOp.neq 32 (Go.Operand.tmp 24) (Go.Operand.tmp 26) 32, type := 4, pos := _, after := #[{ on := 4, ground := Go.Ground.data }, { on := 6, ground := Go.Ground.data }], guard := none }) (v := ?_) rfl (by kernel_rfl) (by kernel_rfl) (by kernel_rfl) (fun _ _ _ h => h) (Or.inl ⟨by rfl, ?_⟩) (by assumption) ?_
          rotate_left
          · intro w hSw; (try dsimp only at hSw); go_simp <;> first | with_reducible rfl | (rw [if_neg (by first | omega | (simp only [ByteArray.size_append] at *; omega))])
          simp only [Act.put, List.setIfInBounds_toArray, List.set_cons_zero, List.set_cons_succ]
          (try simp only [HTB.out])
          refine wpAnyH_take (i := 8) (oi := { dst := some 28, op := Go.Op.move (Go.Operand.tmp 27), type := 4, pos := _, after := #[{ on := 7, ground := Go.Ground.data }, { on := 4, ground := Go.Ground.chain }], guard := none }) (v := ?_) rfl (by kernel_rfl) (by kernel_rfl) (by kernel_rfl) (fun _ _ _ h => h) (Or.inl ⟨by rfl, ?_⟩) (by assumption) ?_
          rotate_left
          · intro w hSw; (try dsimp only at hSw); go_simp <;> first | with_reducible rfl | (rw [if_neg (by first | omega | (simp only [ByteArray.size_append] at *; omega))])
          simp only [Act.put, List.setIfInBounds_toArray, List.set_cons_zero, List.set_cons_succ]
          refine wpAnyH_take (i := 9) (oi := { dst := some 29, op := Go.Op.fieldAddr 38 (Go.Operand.tmp 6) 3, type := 0, pos := _, after := #[{ on := 8, ground := Go.Ground.guard }], guard := some (8, false) }) (v := undef) rfl (by kernel_rfl) (by kernel_rfl) (by kernel_rfl) (fun _ _ _ h => h) (Or.inr ⟨by rfl, rfl⟩) (by assumption) ?_
          simp only [Act.put, List.setIfInBounds_toArray, List.set_cons_zero, List.set_cons_succ]
          refine wpAnyH_take (i := 10) (oi := { dst := some 30, op := Go.Op.load 2 (Go.Operand.tmp 29), type := 2, pos := _, after := #[{ on := 9, ground := Go.Ground.data }, { on := 8, ground := Go.Ground.guard }], guard := some (8, false) }) (v := undef) rfl (by kernel_rfl) (by kernel_rfl) (by kernel_rfl) (fun _ _ _ h => h) (Or.inr ⟨by rfl, rfl⟩) (by assumption) ?_
          simp only [Act.put, List.setIfInBounds_toArray, List.set_cons_zero, List.set_cons_succ]
          refine wpAnyH_take (i := 11) (oi := { dst := some 31, op := Go.Op.fieldAddr 38 (Go.Operand.tmp 6) 1, type := 0, pos := _, after := #[{ on := 8, ground := Go.Ground.guard }], guard := some (8, false) }) (v := undef) rfl (by kernel_rfl) (by kernel_rfl) (by kernel_rfl) (fun _ _ _ h => h) (Or.inr ⟨by rfl, rfl⟩) (by assumption) ?_
          simp only [Act.put, List.setIfInBounds_toArray, List.set_cons_zero, List.set_cons_succ]
          refine wpAnyH_take (i := 12) (oi := { dst := some 32, op := Go.Op.load 32 (Go.Operand.tmp 31), type := 32, pos := _, after := #[{ on := 11, ground := Go.Ground.data }, { on := 8, ground := Go.Ground.guard }], guard := some (8, false) }) (v := undef) rfl (by kernel_rfl) (by kernel_rfl) (by kernel_rfl) (fun _ _ _ h => h) (Or.inr ⟨by rfl, rfl⟩) (by assumption) ?_
          simp only [Act.put, List.setIfInBounds_toArray, List.set_cons_zero, List.set_cons_succ]
          refine wpAnyH_take (i := 13) (oi := { dst := some 33, op := Go.Op.call { callee := Go.Callee.value (Go.Operand.func 16), args := #[Go.Operand.tmp 30, Go.Operand.tmp 32], argTypes := #[2, 32] }, type := 4, pos := _, after := #[{ on := 10, ground := Go.Ground.data }, { on := 12, ground := Go.Ground.data }, { on := 8, ground := Go.Ground.chain }, { on := 8, ground := Go.Ground.guard }], guard := some (8, false) }) (v := undef) rfl (by kernel_rfl) (by kernel_rfl) (by kernel_rfl) (fun _ _ _ h => h) (Or.inr ⟨by rfl, rfl⟩) (by assumption) ?_
          simp only [Act.put, List.setIfInBounds_toArray, List.set_cons_zero, List.set_cons_succ]
          refine wpAnyH_take (i := 14) (oi := { dst := some 34, op := Go.Op.unOp Go.UnOp.not 4 (Go.Operand.tmp 33), type := 4, pos := _, after := #[{ on := 13, ground := Go.Ground.data }, { on := 8, ground := Go.Ground.guard }], guard := some (8, false) }) (v := undef) rfl (by kernel_rfl) (by kernel_rfl) (by kernel_rfl) (fun _ _ _ h => h) (Or.inr ⟨by rfl, rfl⟩) (by assumption) ?_
          simp only [Act.put, List.setIfInBounds_toArray, List.set_cons_zero, List.set_cons_succ]
          refine wpAnyH_take (i := 15) (oi := { dst := some 35, op := Go.Op.pick (Go.Operand.tmp 28) (Go.Operand.const (Go.Value.bool true)) (Go.Operand.tmp 34), type := 4, pos := _, after := #[{ on := 8, ground := Go.Ground.data }, { on := 14, ground := Go.Ground.data }], guard := none }) (v := ?_) rfl (by kernel_rfl) (by kernel_rfl) (by kernel_rfl) (fun _ _ _ h => h) (Or.inl ⟨by rfl, ?_⟩) (by assumption) ?_
          rotate_left
          · intro w hSw; (try dsimp only at hSw); go_simp <;> first | with_reducible rfl | (rw [if_neg (by first | omega | (simp only [ByteArray.size_append] at *; omega))])
          simp only [Act.put, List.setIfInBounds_toArray, List.set_cons_zero, List.set_cons_succ]
          refine wpAnyH_done (by kernel_rfl) ?_ _
          go_wp2_with (fail)
          go_ret
          exact ⟨by rw [HV.out]; rfl, X1.out.below⟩
      · have hrl' : ¬ (r : Int) < (p.flows.length : Int) := by omega
        obtain rfl : r = p.flows.length := by omega
        have HV : Hid (ckV p = 0) := hid (by rw [HOV.out, if_pos]; exact List.all_eq_true.2 (fun q hq => HE.out q (by rw [List.take_length]; exact hq)))
        go_wp2_with (fail)
        go_ret
        exact ⟨by rw [HV.out]; rfl, FX.out.below⟩
  · have HV : Hid (ckV p = nmErr p) := hid (by unfold ckV; rw [if_neg hn])
    generalize nmErr p = ne at *
    go_wp2_with (fail)
    go_ret
    exact ⟨by rw [HV.out]; rfl, X1.out.below⟩
end Go.Proofs.YtakjkhfglihggabDoor.Lex
namespace Go.Proofs.YtakjkhfglihggabDoor.Lex
/-- At the first station. -/
def oneF (f : Fl) : Fl := ⟨f.name, f.ty, 1, f.df, f.body⟩
def turnP (p : Pg) : Pg := ⟨p.st, p.ins, (p.flows.map oneF).reverse, p.outs⟩
def firstP (p : Pg) : Pg := ⟨p.st, p.ins, p.flows.map oneF, p.outs⟩
/-- The types of names are what counts. -/
theorem tyE_names {p q : Pg} : ∀ (d : Nat) (x : Ex), okD d x → (∀ s ∈ nmz d x, tyN q s = tyN p s) → tyE q x = tyE p x
  | 0, _, h, _ => h.elim
  | d + 1, x, h, hs => by
    rw [tyE_eq q, tyE_eq p]
    by_cases h3 : x.op = 3
    · rw [if_neg (by omega), if_neg (by omega), if_pos h3, if_neg (by omega), if_neg (by omega), if_pos h3]
      refine hs _ ?_
      rw [nmz, if_pos h3]
      simp
    · have e : x.args.map (tyE q) = x.args.map (tyE p) := List.map_congr_left fun y hy => tyE_names d y (h.2 y hy) fun s hss => hs s (by
        rw [nmz]
        exact List.mem_append.2 (.inr (List.mem_flatMap.2 ⟨y, hy, hss⟩)))
      rw [e, if_neg h3, if_neg h3]
theorem nmOk_first (p : Pg) : nmOk (firstP p) = nmOk p := by
  have hn : namesOf (firstP p) = namesOf p := by unfold namesOf firstP; rw [List.map_map]; rfl
  have ha : askedL (firstP p) = askedL p := by unfold askedL firstP; rw [List.flatMap_map]; rfl
  have hc : ∀ u, cntT (thingsL (firstP p)) u = cntT (thingsL p) u := fun u => by rw [cntT_names, cntT_names, hn]
  have h1 : ∀ s, twice (firstP p) s = twice p s := fun s => by unfold twice; rw [hc]
  have h2 : ∀ s, none_ (firstP p) s = none_ p s := fun s => by unfold none_; rw [hc]
  have h3 : ∀ s, told (firstP p) s = told p s := fun s => rfl
  unfold nmOk
  rw [all_names (firstP p) (fun s => !twice (firstP p) s), all_names p (fun s => !twice p s)]
  simp only [h1, h2, h3]
  rw [hn, ha]
  rfl
theorem nmOk_turn (p : Pg) : nmOk (turnP p) = nmOk p := by
  rw [← nmOk_first p]
  exact nmOk_perm rfl rfl (List.reverse_perm _)
theorem pgOk_turn {p : Pg} (h : pgOk p = true) : pgOk (turnP p) = true := by
  unfold pgOk at h ⊢
  simp only [Bool.and_eq_true] at h ⊢
  obtain ⟨⟨h1, h2⟩, h3, h4, h5⟩ := h
  refine ⟨⟨h1, ?_⟩, h3, ?_, h5⟩
  · unfold roomOk turnP at *
    simpa using h2
  · rw [List.all_eq_true] at h4 ⊢
    intro x hx
    obtain ⟨f, hf, rfl⟩ := List.mem_map.1 (List.mem_reverse.1 hx)
    have := h4 f hf
    have hr : inR 1 p.st = true := by
      unfold inR at h1 ⊢
      simp only [Bool.and_eq_true, decide_eq_true_eq] at h1 ⊢
      omega
    unfold flOk hdOk at this ⊢
    simp only [Bool.and_eq_true] at this ⊢
    exact ⟨⟨this.1.1, this.1.2.1, hr⟩, this.2⟩
theorem ba_eq {a b : ByteArray} (h : a.toList = b.toList) : a = b := by
  rw [ByteArray.toList_eq, ByteArray.toList_eq] at h
  obtain ⟨⟨a⟩⟩ := a
  obtain ⟨⟨b⟩⟩ := b
  simp only at h
  rw [h]
theorem tyN_some {p : Pg} {s : ByteArray} {z : Int × Hd} (h : findT (thingsL p) s = some z) : tyN p s = if z.2.ty = 1 ∨ z.2.ty = 2 then z.2.ty else 0 := by
  unfold tyN
  rw [h]
theorem tyN_turn {p : Pg} (h : nmOk p = true) {s : ByteArray} {x : Int × Hd} (hx : findT (thingsL p) s = some x) : tyN (turnP p) s = tyN p s := by
  have hq : nmOk (turnP p) = true := by rw [nmOk_turn]; exact h
  have hm := List.mem_of_find?_eq_some hx
  have he := List.find?_some hx
  simp only [beq_iff_eq] at he
  have hs := ba_eq he
  unfold thingsL at hm
  rcases List.mem_append.1 hm with hm | hm
  · obtain ⟨y, hy, rfl⟩ := List.mem_map.1 hm
    obtain ⟨m, hm', rfl⟩ := List.getElem_of_mem hy
    have e := find_in_ok hq m hm'
    have e2 : findT (thingsL (turnP p)) s = some (-1, p.ins[m]) := by rw [← hs]; exact e
    rw [tyN_some e2, tyN_some hx]
  · unfold flowsL at hm
    obtain ⟨i, hi, rfl⟩ := List.mem_map.1 hm
    have hi' : i < p.flows.length := List.mem_range.1 hi
    have ehd : (p.flows[i]?.map Fl.hd).getD ⟨ByteArray.empty, 0, 0⟩ = p.flows[i].hd := by rw [List.getElem?_eq_getElem hi']; rfl
    simp only [ehd] at hs hx
    have hl : (turnP p).flows.length = p.flows.length := by unfold turnP; simp
    have hj : p.flows.length - 1 - i < (turnP p).flows.length := by omega
    have e := find_flow_ok hq (p.flows.length - 1 - i) hj
    have ef : (turnP p).flows[p.flows.length - 1 - i] = oneF p.flows[i] := by
      show ((p.flows.map oneF).reverse)[p.flows.length - 1 - i]'(by simp; omega) = _
      rw [List.getElem_reverse, List.getElem_map]
      congr 1
      simp only [List.length_map]
      congr 1
      omega
    rw [ef] at e
    have e2 : findT (thingsL (turnP p)) s = some (((p.flows.length - 1 - i : Nat) : Int), (oneF p.flows[i]).hd) := by rw [← hs]; exact e
    rw [tyN_some e2, tyN_some hx]
    rfl
theorem nmErr_zero' {p : Pg} (h : nmErr p = 0) : pgOk p = true ∧ nmOk p = true := nmErr_zero h
theorem ck_turn {p : Pg} (h : ckV p ≠ 1) : ckV (turnP p) = ckV p := by
  have hp : pgOk p = true := by
    by_cases hp : pgOk p = true
    · exact hp
    · exfalso
      apply h
      unfold ckV nmErr
      rw [if_neg hp]
      rfl
  have hn : nmErr (turnP p) = nmErr p := by
    unfold nmErr
    rw [if_pos (pgOk_turn hp), if_pos hp, nmOk_turn]
  unfold ckV
  rw [hn]
  by_cases h0 : nmErr p = 0
  · rw [if_pos h0, if_pos h0]
    have hk := (nmErr_zero h0).2
    have hf : ∀ f ∈ p.flows, flT (turnP p) (oneF f) = flT p f := fun f hf => by
      have hc := pgOk_chk hp f hf
      have e : tyE (turnP p) f.body = tyE p f.body := tyE_names 32 f.body (chk_ok hc) (fun s hs => by
        obtain ⟨x, hx⟩ := find_asked_ok hk (s := s) (by
          unfold askedL asksOf
          refine List.mem_flatMap.2 ⟨f, hf, ?_⟩
          rw [← pl_nmz 32 f.body 0] at hs
          obtain ⟨r, hr, rfl⟩ := List.mem_map.1 hs
          exact List.mem_map.2 ⟨r, (gat_mem 32 f.body 0 r).2 hr, rfl⟩)
        exact tyN_turn hk hx)
      unfold flT
      show (decide (tyE (turnP p) f.body = f.ty) && fitT f.df f.ty) = _
      rw [e]
    have e : (turnP p).flows.all (flT (turnP p)) = p.flows.all (flT p) := by
      show ((p.flows.map oneF).reverse).all (flT (turnP p)) = _
      rw [List.all_reverse, List.all_map, Bool.eq_iff_iff, List.all_eq_true, List.all_eq_true]
      exact ⟨fun g f hff => by rw [← hf f hff]; exact g f hff, fun g f hff => by show flT (turnP p) (oneF f) = true; rw [hf f hff]; exact g f hff⟩
    rw [e]
  · rw [if_neg h0, if_neg h0]
end Go.Proofs.YtakjkhfglihggabDoor.Lex
namespace Go.Proofs.YtakjkhfglihggabDoor.Lex
open Go.ChangeShapes Go.WideShapes Go.ChangeAt Go.RowKit Go.Shelf
/-- While the flows are turned. -/
structure TQ1 (w w9 : World) (p : Pg) (A B C a' c' : Value) (fb cap : Nat) (sl : Nat → Value) (k : Nat) (W : World) : Prop where
  below : Below w.heap.size w W
  row : W.heap[w.heap.size]? = some (.cells (pgC p A B C) 26 (0, 0))
  qrow : W.heap[w9.heap.size]? = some (.cells (pgC p a' (.slice (some ⟨fb, 0, none⟩) p.flows.length cap) c') 26 (0, 0))
  same : ∀ b, b < w9.heap.size → b ≠ fb → W.heap[b]? = w9.heap[b]?
  blk : Blk W fb 38 8 cap
  done : ∀ i (h : i < p.flows.length), i < k → FlCells W fb (i * 8) (oneF p.flows[p.flows.length - 1 - i]) (sl (p.flows.length - 1 - i))
theorem TQ1.start {w w9 : World} {p : Pg} {A B C a' c' : Value} {fb cap : Nat} {sl : Nat → Value} (h : FV w p A B C w9) (hb : Blk w9 fb 38 8 cap) :
    TQ1 w w9 p A B C a' c' fb cap sl 0 (w9.alloc (.cells #[.int .i64 p.st, a', .slice (some ⟨fb, 0, none⟩) p.flows.length cap, c'] 26)) where
  below := h.below.alloc h.below.size _
  row := push_old h.row
  qrow := push_new _ _ _ rfl
  same := fun b hb _ => Below.heap_alloc _ _ _ hb
  blk := hb.keep ((Below.refl _ _).alloc (Nat.le_refl _) _)
  done := fun i _ h => by omega
theorem TQ1.keep {w w9 : World} {p : Pg} {A B C a' c' : Value} {fb cap : Nat} {sl : Nat → Value} {k : Nat} {W W' : World} (h : TQ1 w w9 p A B C a' c' fb cap sl k W) (hb : Below W.heap.size W W') : TQ1 w w9 p A B C a' c' fb cap sl k W' where
  below := h.below.trans (hb.mono h.below.size)
  row := keep_row h.row hb
  qrow := keep_row h.qrow hb
  same := fun b h1 h2 => (hb.block b (Nat.lt_of_lt_of_le (Nat.lt_of_lt_of_le h1 (Nat.le_of_lt (Array.getElem?_eq_some_iff.1 h.qrow).1)) (Nat.le_refl _))).trans (h.same b h1 h2)
  blk := h.blk.keep hb
  done := fun i h1 h2 => (h.done i h1 h2).keep hb
theorem TQ1.put {w w9 : World} {p : Pg} {A B C a' c' : Value} {fb cap : Nat} {sl : Nat → Value} {k m : Nat} {V : World} (hb : Below w.heap.size w V) (hr : V.heap[w.heap.size]? = some (.cells (pgC p A B C) 26 (0, 0))) (hq : V.heap[w9.heap.size]? = some (.cells (pgC p a' (.slice (some ⟨fb, 0, none⟩) p.flows.length cap) c') 26 (0, 0))) (hs : ∀ b, b < w9.heap.size → b ≠ fb → V.heap[b]? = w9.heap[b]?) (hbk : Blk V fb 38 8 cap)
    (hd : ∀ i (h : i < p.flows.length), i < k → FlCells V fb (i * 8) (oneF p.flows[p.flows.length - 1 - i]) (sl (p.flows.length - 1 - i))) (h1 : w.heap.size < fb) (h2 : fb < w9.heap.size) (hm : p.flows.length = k + 1 + m) (hk : FlCells V fb (k * 8) (p.flows[m]'(by omega)) (sl m)) : TQ1 w w9 p A B C a' c' fb cap sl (k + 1) (V.setCell ⟨fb, k * 8 + 2, none⟩ (.int .i64 1)) := by
  have hV : ∀ b, b ≠ fb → (V.setCell ⟨fb, k * 8 + 2, none⟩ (.int .i64 1)).heap[b]? = V.heap[b]? := fun b hne => Below.heap_setCell V ⟨fb, k * 8 + 2, none⟩ _ _ hne
  have far : ∀ {o v}, o ≠ k * 8 + 2 → V.cell? ⟨fb, o, none⟩ = some v → (V.setCell ⟨fb, k * 8 + 2, none⟩ (.int .i64 1)).cell? ⟨fb, o, none⟩ = some v := fun {o v} ho hv => by
    rw [World.cell?_setCell_other V _ _ _ (by intro e; injection e with e1 e2 _; omega)]
    exact hv
  refine ⟨hb.setCell (p := ⟨fb, k * 8 + 2, none⟩) (Nat.le_of_lt h1) _, (hV _ (by omega)).trans hr, (hV _ (by omega)).trans hq, fun b hb' hn => (hV b hn).trans (hs b hb' hn), ?_, fun i hi hik => ?_⟩
  · obtain ⟨cur, e1, e2, e3⟩ := hbk
    have e1' : V.heap[fb]? = some (.cells cur 38 (0, 0)) := e1
    exact ⟨_, set_same e1' (k * 8 + 2) (.int .i64 1), by simpa using e2, e3⟩
  · by_cases e : i = k
    · subst e
      have e1 : p.flows.length - 1 - i = m := by omega
      simp only [e1]
      obtain ⟨d0, d1, d2, d3, d4, d5, d6, d7⟩ := hk
      have d2' : V.cell? ⟨fb, i * 8 + 2, none⟩ = some (.int .i64 (p.flows[m]'(by omega)).st) := d2
      exact ⟨far (by omega) d0, far (by omega) d1, World.cell?_setCell_same V _ _ d2', far (by omega) d3, far (by omega) d4, far (by omega) d5, far (by omega) d6, far (by omega) d7⟩
    · obtain ⟨d0, d1, d2, d3, d4, d5, d6, d7⟩ := hd i hi (by omega)
      exact ⟨far (by omega) d0, far (by omega) d1, far (by omega) d2, far (by omega) d3, far (by omega) d4, far (by omega) d5, far (by omega) d6, far (by omega) d7⟩
theorem TQ1.store {w w9 : World} {p : Pg} {A B C a' c' : Value} {fb cap : Nat} {sl : Nat → Value} {k m : Nat} {W : World} (h : TQ1 w w9 p A B C a' c' fb cap sl k W) (h1 : w.heap.size < fb) (h2 : fb < w9.heap.size) (hc : p.flows.length < cap) (hm : p.flows.length = k + 1 + m) (y : Fl) (hy : p.flows[m]'(by omega) = y) (s : Value) (hs : sl m = s) : TQ1 w w9 p A B C a' c' fb cap sl (k + 1) ((W.setCells fb (k * 8) (flL y s)).setCell ⟨fb, k * 8 + 2, none⟩ (.int .i64 1)) := by
  have ht := h.blk.there (o := k * 8) (n := 8) (by omega)
  have C := World.rangeAt_setCells_same W fb (k * 8) (flL y s) ht
  have hg := h.below.grown (grown_setCells fb (flL y s) (k * 8) W) h.below.size (fun j hj => by cases hj; omega)
  have hr : (W.setCells fb (k * 8) (flL y s)).heap[w.heap.size]? = _ := (heap_setCells_other (by omega) _ _ _).trans h.row
  have hq : (W.setCells fb (k * 8) (flL y s)).heap[w9.heap.size]? = _ := (heap_setCells_other (by omega) _ _ _).trans h.qrow
  have hsm : ∀ b, b < w9.heap.size → b ≠ fb → (W.setCells fb (k * 8) (flL y s)).heap[b]? = w9.heap[b]? := fun b hb hn => (heap_setCells_other hn _ _ _).trans (h.same b hb hn)
  have hbk := h.blk.set (flL y s) (k * 8) W
  have k' : ∀ {o v}, o < k * 8 → W.cell? ⟨fb, o, none⟩ = some v → (W.setCells fb (k * 8) (flL y s)).cell? ⟨fb, o, none⟩ = some v := fun {o v} ho hv => by
    rw [World.cell?_setCells_out fb _ _ _ _ (fun _ _ => Or.inl ho)]; exact hv
  have hd : ∀ i (hi : i < p.flows.length), i < k → FlCells (W.setCells fb (k * 8) (flL y s)) fb (i * 8) (oneF p.flows[p.flows.length - 1 - i]) (sl (p.flows.length - 1 - i)) := fun i hi hik => by
    obtain ⟨d0, d1, d2, d3, d4, d5, d6, d7⟩ := h.done i hi hik
    exact ⟨k' (by omega) d0, k' (by omega) d1, k' (by omega) d2, k' (by omega) d3, k' (by omega) d4, k' (by omega) d5, k' (by omega) d6, k' (by omega) d7⟩
  have hk : FlCells (W.setCells fb (k * 8) (flL y s)) fb (k * 8) (p.flows[m]'(by omega)) (sl m) := by
    rw [hy, hs]
    exact ⟨C 0 _ rfl, C 1 _ rfl, C 2 _ rfl, C 3 _ rfl, C 4 _ rfl, C 5 _ rfl, C 6 _ rfl, C 7 _ rfl⟩
  clear C ht k'
  generalize W.setCells fb (k * 8) (flL y s) = V at *
  exact TQ1.put hg hr hq hsm hbk hd h1 h2 hm hk
theorem TQ1.pg {w w9 : World} {p : Pg} {A B C a' c' : Value} {fb cap : Nat} {sl : Nat → Value} {W : World} {lo : Nat} (h : TQ1 w w9 p A B C a' c' fb cap sl p.flows.length W)
    (hT : TwPg w9 lo p a' (.slice (some ⟨fb, 0, none⟩) p.flows.length cap) c') (hS : ∀ i (h : i < p.flows.length), St w p.flows[i].body (sl i)) :
    PgAt W (turnP p) a' (.slice (some ⟨fb, 0, none⟩) p.flows.length cap) c' := by
  obtain ⟨b1, c1, e1, _, _, _, _, _, _, k1⟩ := id hT.ins
  obtain ⟨b3, c3, e3, _, _, _, _, _, _, k3⟩ := id hT.outs
  obtain ⟨b2, c2, sl2, e2, _, g1, g2, g3, _, _, _, k2⟩ := id hT.flows
  injection e2 with e2 _ e4
  injection e2 with e2
  injection e2 with e2 _ _
  subst e2 e4
  have hi := hT.ins.at
  have ho := hT.outs.at
  rw [e1] at hi ⊢
  rw [e3] at ho ⊢
  refine ⟨hT.st, hi.apart (k1.ne k2 (by decide)) h.same, ?_, ho.apart (k3.ne k2 (by decide)) h.same⟩
  refine ⟨some ⟨fb, 0, none⟩, cap, fun i => sl (p.flows.length - 1 - i), by simp [turnP], by simpa [turnP] using g1, by simp [turnP]; omega, fun x hx => by
    obtain ⟨f, hf, rfl⟩ := List.mem_map.1 (List.mem_reverse.1 hx)
    have := g3 f hf
    exact ⟨this.1, this.2.1, by show (-9223372036854775808 : Int) ≤ 1 ∧ (1 : Int) ≤ 9223372036854775807; omega, this.2.2.2⟩, .inr ⟨fb, 0, rfl, fun i hi => ?_⟩, fun i hi => ?_⟩
  · have hi' : i < p.flows.length := by simpa [turnP] using hi
    have := h.done i hi' hi'
    rw [Nat.zero_add]
    have ef : (turnP p).flows[i] = oneF p.flows[p.flows.length - 1 - i] := by
      show ((p.flows.map oneF).reverse)[i]'(by simpa using hi') = _
      rw [List.getElem_reverse, List.getElem_map]
      simp
    rw [ef]
    exact this
  · have hi' : i < p.flows.length := by simpa [turnP] using hi
    have := (hS (p.flows.length - 1 - i) (by omega)).keep h.below
    have ef : (turnP p).flows[i].body = p.flows[p.flows.length - 1 - i].body := by
      show (((p.flows.map oneF).reverse)[i]'(by simpa using hi')).body = _
      rw [List.getElem_reverse, List.getElem_map]
      simp [oneF]
    rw [ef]
    exact this
end Go.Proofs.YtakjkhfglihggabDoor.Lex
