/-
  The instructions of an expression: write.
  Where a station has a name's values: sourcesOf.
  What is written is short; two lists of places that are the same: Equal.
-/
import Derived.Test.YtdenddknbmiboaaDoorG12
namespace Go.Proofs.YtdenddknbmiboaaDoor.Lex
open Go.ChangeShapes Go.WideShapes Go.ChangeAt Go.RowKit Go.Joins
theorem results_none {fn : Func} (h : fn.results = #[]) (tmps : Array Value) (w : World) : (results fn tmps).run Tryd.prog w = .ok (.tuple #[]) w := by
  simp [results, h, go_sem]
/-- The instructions of parts. -/
def FL (T : List UInt8 → Int × Int) (late : Int) (wi : Nat) (l : List Ex) : List Cin := (l.map fun y => wrF T late y wi).flatten
theorem FL_nil (T : List UInt8 → Int × Int) (late : Int) (wi : Nat) : FL T late wi [] = [] := rfl
theorem FL_snoc (T : List UInt8 → Int × Int) (late : Int) (wi : Nat) (l : List Ex) (y : Ex) : FL T late wi (l ++ [y]) = FL T late wi l ++ wrF T late y wi := by
  unfold FL
  rw [List.map_append, List.flatten_append]
  simp
theorem FL_append (T : List UInt8 → Int × Int) (late : Int) (wi : Nat) (l m : List Ex) : FL T late wi (l ++ m) = FL T late wi l ++ FL T late wi m := by
  unfold FL
  rw [List.map_append, List.flatten_append]
theorem FL_le (T : List UInt8 → Int × Int) (late : Int) (wi : Nat) {l : List Ex} {k : Nat} (h : k < l.length) : (FL T late wi (l.take k)).length + (wrF T late l[k] wi).length ≤ (FL T late wi l).length := by
  have e : l = (l.take k ++ [l[k]]) ++ l.drop (k + 1) := by rw [List.append_assoc, List.singleton_append, List.getElem_cons_drop, List.take_append_drop]
  have h2 : (FL T late wi l).length = (FL T late wi ((l.take k ++ [l[k]]) ++ l.drop (k + 1))).length := by rw [← e]
  rw [h2, FL_append, FL_snoc, List.length_append, List.length_append]
  omega
/-- What is answered: nothing; the writer has more. -/
def WrE (c : Wp) (L' : List Cin) (dv : Value) (W : World) (e : Ending) (w' : World) : Prop := e = .returned (.tuple #[]) ∧ ∃ dv', WrS c L' dv' w' ∧ Mvd c.wb dv dv' W w'
def WrC (c : Wp) (d : Nat) (x : Ex) : Prop := ∀ (L : List Cin) (dv s : Value) (ago : Nat) (W : World), WrS c L dv W → St c.w x s → ago + d ≤ 1000 → L.length + (wrF c.T c.late x ago).length ≤ 100000 →
    Calls Tryd.prog 35 #[.pointer (some ⟨c.wb, 0, none⟩), exV x s, .int .i64 (ago : Int)] W (WrE c (L ++ wrF c.T c.late x ago) dv W)
theorem infoIn : (Tryd.prog.info? 38).map (fun i => (i.zero, i.size, i.bytes)) = some (some (.agg #[.int .u8 0, .int .i64 0, .int .i64 0]), 3, 24) := by kernel_rfl
set_option maxRecDepth 100000 in
set_option maxHeartbeats 16000000 in
theorem write_ (c : Wp) (hlate : 0 ≤ c.late ∧ c.late ≤ 1000000) (hTB : ∀ u, -1000000 ≤ (c.T u).2 ∧ (c.T u).2 ≤ 1000000) (d : Nat) (ih : ∀ x, Typ.okD d x → WrC c d x) (x : Ex) (hx : Typ.okD (d + 1) x) : WrC c (d + 1) x := by
  intro L dv s ago W h hS hag hln
  obtain ⟨ao, cap, sl, rfl, hop, hn, hnm, hlen, _, hc, hs⟩ := hS.out
  have HS := hid hs
  have HC := hid hc
  have HI := hid (fun i (hi : i < x.args.length) => ih x.args[i] (hx.2 _ (List.getElem_mem hi)))
  have HTB := hid hTB
  have HNM := hid hnm
  have hlate' := hlate
  have HAG := hid hag
  have HXW : Hid (W.heap.size ≠ c.wb) := hid (by have := (Array.getElem?_eq_some_iff.1 h.box).1; omega)
  have HXO : Hid (dv.ownBlock ≠ some W.heap.size) := hid (fun e => by have := (h.row.lt _ e).2; omega)
  have HWX := hid (wrF_eq c.T c.late x ago)
  obtain ⟨op, n, nm, args⟩ := x
  dsimp only at *
  have hal := (Below.refl W.heap.size W).alloc (Nat.le_refl _) (.cells #[.int .u8 (op : Int), .int .i64 n, .string nm, .slice ao args.length cap] 70)
  obtain ⟨V1, hV1⟩ : ∃ V, V = W.alloc (.cells #[.int .u8 (op : Int), .int .i64 n, .string nm, .slice ao args.length cap] 70) := ⟨_, rfl⟩
  have HX1 : Hid (V1.heap[W.heap.size]? = some (.cells #[.int .u8 (op : Int), .int .i64 n, .string nm, .slice ao args.length cap] 70 (0, 0))) := hid (by rw [hV1]; exact heap_alloc_new _ _)
  have HV1 : Hid (V1.heap.size = W.heap.size + 1) := hid (by rw [hV1]; simp)
  rw [← hV1] at hal
  have S1 := hid (h.keep hal)
  have M1 : Hid (Mvd c.wb dv dv W V1) := hid (Mvd.of_below hal)
  obtain ⟨i0, hi, hz0, hz1, hz2⟩ := info_parts infoIn
  have p0 := (cell_of_row V1 W.heap.size 0 _ 70 (0, 0) HX1.out).trans (show _ = some (.int .u8 (op : Int)) from rfl)
  have p3 := (cell_of_row V1 W.heap.size 3 _ 70 (0, 0) HX1.out).trans (show _ = some (.slice ao args.length cap) from rfl)
  have hago' : 0 ≤ (ago : Int) ∧ (ago : Int) ≤ 1000000 := by omega
  have HLNX := hid hln
  clear hs hc ih hx hS hal h hTB hag hlate hln
  by_cases h19 : op = 19
  · have b19 : ((op : Int) == 19) = true := by rw [beq_iff_eq]; omega
    have HW : Hid (wrF c.T c.late ⟨op, n, nm, args⟩ ago = FL c.T c.late (ago + 1) args) := hid (by rw [HWX.out]; unfold lastW FL; simp [h19])
    have HLN : Hid (L.length + (FL c.T c.late (ago + 1) args).length ≤ 100000) := hid (by rw [← HW.out]; exact HLNX.out)
    clear h19 HWX HLNX
    go_enter Tryd.func35, Tryd.ntmps35
    go_wp2_with (first | (rw [← hV1]; clear hV1))
    go_loopw [18] (fun i wr => ∃ k : Nat, k ≤ args.length ∧ i = .int .i64 (k : Int) ∧ Hid (∃ dv2, WrS c (L ++ FL c.T c.late (ago + 1) (args.take k)) dv2 wr ∧ Mvd c.wb dv dv2 V1 wr)) (fun i _ => args.length - (intOf i).toNat)
    case atStart => exact ⟨0, Nat.zero_le _, rfl, hid ⟨dv, by rw [List.take_zero, FL_nil, List.append_nil]; exact S1.out, Mvd.refl _ _ _⟩⟩
    case round =>
      obtain ⟨k, hk, rfl, HY⟩ := hrel
      obtain ⟨dv2, hS2, hM2⟩ := HY.out
      have S2 := hid hS2
      have M2 := hid hM2
      clear HY hS2 hM2
      have hxb := (M2.out.old W.heap.size (by rw [HV1.out]; omega) HXW.out HXO.out).trans HX1.out
      have HXB := hid hxb
      have q0 := (cell_of_row wr W.heap.size 0 _ 70 (0, 0) hxb).trans (show _ = some (.int .u8 (op : Int)) from rfl)
      have q1 := (cell_of_row wr W.heap.size 1 _ 70 (0, 0) hxb).trans (show _ = some (.int .i64 n) from rfl)
      have q2 := (cell_of_row wr W.heap.size 2 _ 70 (0, 0) hxb).trans (show _ = some (.string nm) from rfl)
      have q3 := (cell_of_row wr W.heap.size 3 _ 70 (0, 0) hxb).trans (show _ = some (.slice ao args.length cap) from rfl)
      clear hxb
      by_cases hlt : k < args.length
      · have hlt' : (k : Int) < (args.length : Int) := by omega
        have hk0 : (0 : Int) ≤ (k : Int) := by omega
        obtain ⟨bb, o, rfl, hc⟩ := HC.out.resolve_left (by omega)
        obtain ⟨g0, g1, g2, g3⟩ := hc k hlt
        have y0 := cell_kept g0 S2.out.below
        have y1 := cell_kept g1 S2.out.below
        have y2 := cell_kept g2 S2.out.below
        have y3 := cell_kept g3 S2.out.below
        obtain ⟨a4, c4, _, e4, _⟩ := (HS.out k hlt).out
        rw [e4] at y3
        have HT : Hid (FL c.T c.late (ago + 1) (args.take (k + 1)) = FL c.T c.late (ago + 1) (args.take k) ++ wrF c.T c.late args[k] (ago + 1)) := hid (by rw [List.take_succ_eq_append_getElem hlt, FL_snoc])
        have HLK := hid (FL_le c.T c.late (ago + 1) hlt)
        have HST := hid (e4 ▸ HS.out k hlt)
        have HIK := hid (HI.out k hlt)
        clear g0 g1 g2 g3 hc e4
        generalize args[k] = y at *
        have BA := hid ((Below.refl wr.heap.size wr).alloc (Nat.le_refl _) (.cells #[.int .u8 (y.op : Int), .int .i64 y.n, .string y.name, .slice a4 y.args.length c4] 70))
        have c35 := HIK.out _ _ _ ((ago + 1)) _ (S2.out.keep BA.out) HST.out (by have := HAG.out; omega) (by have h1 := HLK.out; have h2 := HLN.out; rw [List.length_append]; omega)
        generalize wrF c.T c.late y ((ago + 1)) = yl at *
        generalize FL c.T c.late (ago + 1) (args.take k) = L1 at *
        go_wp2_with (fail)
        refine c35.mono ?_
        rintro e w3 ⟨rfl, dv3, hS3, hM3⟩
        have S3 := hid hS3
        have M3 := hid ((M2.out.trans (Mvd.of_below BA.out)).trans hM3)
        clear hS3 hM3 c35
        go_wp2_with (fail)
        go_roundw
        case rel => exact ⟨k + 1, by omega, by go_num, hid ⟨dv3, by rw [HT.out, ← List.append_assoc]; exact S3.out, M3.out⟩⟩
        case measure => simp [intOf]; omega
      · have hlt' : ¬ (k : Int) < (args.length : Int) := by omega
        obtain rfl : k = args.length := by omega
        have HL2 : Hid (L ++ FL c.T c.late (ago + 1) (args.take args.length) = L ++ FL c.T c.late (ago + 1) args) := hid (by rw [List.take_length])
        have S2' := S2.out
        rw [HL2.out] at S2'
        have S2 := hid S2'
        clear S2' hk hlt
        have HEND : Hid (WrE c (L ++ wrF c.T c.late ⟨op, n, nm, args⟩ ago) dv W (.returned (.tuple #[])) wr) := hid ⟨rfl, dv2, by rw [HW.out]; exact S2.out, M1.out.trans M2.out⟩
        go_wp2_with (fail)
        (try simp only [Exit.inBlock, Exit.then])
        refine bodyPost_ret (results_none rfl _ _) rfl ?_
        exact HEND.out
  · have b19 : ((op : Int) == 19) = false := by rw [beq_eq_false_iff_ne]; omega
    have HW : Hid (wrF c.T c.late ⟨op, n, nm, args⟩ ago = FL c.T c.late ago args ++ lastW c.T c.late op n nm ago) := hid (by rw [HWX.out]; unfold FL; simp [h19])
    have HLN : Hid (L.length + (FL c.T c.late ago args).length ≤ 100000) := hid (by have := HLNX.out; rw [HW.out, List.length_append] at this; omega)
    have H19 := hid h19
    clear h19 HWX HLNX
    go_enter Tryd.func35, Tryd.ntmps35
    go_wp2_with (first | (rw [← hV1]; clear hV1))
    go_loopw [18] (fun i wr => ∃ k : Nat, k ≤ args.length ∧ i = .int .i64 (k : Int) ∧ Hid (∃ dv2, WrS c (L ++ FL c.T c.late ago (args.take k)) dv2 wr ∧ Mvd c.wb dv dv2 V1 wr)) (fun i _ => args.length - (intOf i).toNat)
    case atStart => exact ⟨0, Nat.zero_le _, rfl, hid ⟨dv, by rw [List.take_zero, FL_nil, List.append_nil]; exact S1.out, Mvd.refl _ _ _⟩⟩
    case round =>
      obtain ⟨k, hk, rfl, HY⟩ := hrel
      obtain ⟨dv2, hS2, hM2⟩ := HY.out
      have S2 := hid hS2
      have M2 := hid hM2
      clear HY hS2 hM2
      have hxb := (M2.out.old W.heap.size (by rw [HV1.out]; omega) HXW.out HXO.out).trans HX1.out
      have HXB := hid hxb
      have q0 := (cell_of_row wr W.heap.size 0 _ 70 (0, 0) hxb).trans (show _ = some (.int .u8 (op : Int)) from rfl)
      have q1 := (cell_of_row wr W.heap.size 1 _ 70 (0, 0) hxb).trans (show _ = some (.int .i64 n) from rfl)
      have q2 := (cell_of_row wr W.heap.size 2 _ 70 (0, 0) hxb).trans (show _ = some (.string nm) from rfl)
      have q3 := (cell_of_row wr W.heap.size 3 _ 70 (0, 0) hxb).trans (show _ = some (.slice ao args.length cap) from rfl)
      clear hxb
      by_cases hlt : k < args.length
      · have hlt' : (k : Int) < (args.length : Int) := by omega
        have hk0 : (0 : Int) ≤ (k : Int) := by omega
        obtain ⟨bb, o, rfl, hc⟩ := HC.out.resolve_left (by omega)
        obtain ⟨g0, g1, g2, g3⟩ := hc k hlt
        have y0 := cell_kept g0 S2.out.below
        have y1 := cell_kept g1 S2.out.below
        have y2 := cell_kept g2 S2.out.below
        have y3 := cell_kept g3 S2.out.below
        obtain ⟨a4, c4, _, e4, _⟩ := (HS.out k hlt).out
        rw [e4] at y3
        have HT : Hid (FL c.T c.late ago (args.take (k + 1)) = FL c.T c.late ago (args.take k) ++ wrF c.T c.late args[k] ago) := hid (by rw [List.take_succ_eq_append_getElem hlt, FL_snoc])
        have HLK := hid (FL_le c.T c.late ago hlt)
        have HST := hid (e4 ▸ HS.out k hlt)
        have HIK := hid (HI.out k hlt)
        clear g0 g1 g2 g3 hc e4
        generalize args[k] = y at *
        have BA := hid ((Below.refl wr.heap.size wr).alloc (Nat.le_refl _) (.cells #[.int .u8 (y.op : Int), .int .i64 y.n, .string y.name, .slice a4 y.args.length c4] 70))
        have c35 := HIK.out _ _ _ (ago) _ (S2.out.keep BA.out) HST.out (by have := HAG.out; omega) (by have h1 := HLK.out; have h2 := HLN.out; rw [List.length_append]; omega)
        generalize wrF c.T c.late y (ago) = yl at *
        generalize FL c.T c.late ago (args.take k) = L1 at *
        go_wp2_with (fail)
        refine c35.mono ?_
        rintro e w3 ⟨rfl, dv3, hS3, hM3⟩
        have S3 := hid hS3
        have M3 := hid ((M2.out.trans (Mvd.of_below BA.out)).trans hM3)
        clear hS3 hM3 c35
        go_wp2_with (fail)
        go_roundw
        case rel => exact ⟨k + 1, by omega, by go_num, hid ⟨dv3, by rw [HT.out, ← List.append_assoc]; exact S3.out, M3.out⟩⟩
        case measure => simp [intOf]; omega
      · have hlt' : ¬ (k : Int) < (args.length : Int) := by omega
        obtain rfl : k = args.length := by omega
        have HL2 : Hid (L ++ FL c.T c.late ago (args.take args.length) = L ++ FL c.T c.late ago args) := hid (by rw [List.take_length])
        have S2' := S2.out
        rw [HL2.out] at S2'
        have S2 := hid S2'
        clear S2' hk hlt
        by_cases h3 : op = 3
        · have b3 : ((op : Int) == 3) = true := by rw [beq_iff_eq]; omega
          have HLW : Hid (lastW c.T c.late op n nm ago = [⟨3, (c.T nm.data.toList).1, c.late + (ago : Int) - (c.T nm.data.toList).2⟩]) := hid (by unfold lastW; rw [if_neg H19.out, if_pos h3])
          clear h3
          generalize hL2 : L ++ FL c.T c.late ago args = L2 at *
          have HQ2 := hid hL2
          clear hL2
          obtain ⟨qa, qc, rfl⟩ : ∃ a c, dv2 = .slice a L2.length c := by
            rcases S2.out.row.2 with ⟨h, h0⟩ | ⟨g, cap', cur, h, _⟩
            · exact ⟨none, 0, by rw [h, h0]⟩
            · exact ⟨_, _, h⟩
          have HXN : Hid ((Value.slice qa L2.length qc).ownBlock ≠ some W.heap.size) := hid (fun e => by
            rcases M2.out.own _ e with h | h
            · exact HXO.out h
            · rw [HV1.out] at h; omega)
          have HLL : Hid (L2.length ≤ 100000) := hid (by have := HLN.out; rw [← HQ2.out, List.length_append]; omega)
          have HLM : Hid (L2.length + 1 ≤ maxLen) := hid (by have := HLL.out; unfold maxLen; omega)
          have HLB : Hid ((L2.length + 1) * 24 ≤ 140737488355328) := hid (by have := HLL.out; omega)
          have HLO : Hid (c.lo ≤ wr.heap.size) := hid S2.out.l5
          have HL3 := S2.out.l3
          have HL2' := S2.out.l2
          have hSx : ∀ V : World, V.heap[W.heap.size]? = some (.cells #[.int .u8 (op : Int), .int .i64 n, .string nm, .slice ao args.length cap] 70 (0, 0)) → V.cell? ⟨W.heap.size, 0, none⟩ = some (.int .u8 (op : Int)) ∧ V.cell? ⟨W.heap.size, 1, none⟩ = some (.int .i64 n) ∧ V.cell? ⟨W.heap.size, 2, none⟩ = some (.string nm) := fun V h => ⟨(cell_of_row _ _ 0 _ 70 (0, 0) h).trans rfl, (cell_of_row _ _ 1 _ 70 (0, 0) h).trans rfl, (cell_of_row _ _ 2 _ 70 (0, 0) h).trans rfl⟩
          have HEND : Hid (∀ v' wa', WrS c (L2 ++ [⟨3, (c.T nm.data.toList).1, c.late + (ago : Int) - (c.T nm.data.toList).2⟩]) v' wa' → Mvd c.wb (.slice qa L2.length qc) v' wr wa' → WrE c (L ++ wrF c.T c.late ⟨op, n, nm, args⟩ ago) dv W (.returned (.tuple #[])) wa') := hid (fun v' wa' h1 h2 => ⟨rfl, v', by rw [HW.out, HLW.out, ← List.append_assoc, HQ2.out]; exact h1, (M1.out.trans M2.out).trans h2⟩)
          go_wp2_with (fail)
          refine wp_region_held_drew (S := fun V => V.cell? ⟨W.heap.size, 0, none⟩ = some (.int .u8 (op : Int)) ∧ V.cell? ⟨W.heap.size, 1, none⟩ = some (.int .i64 n) ∧ V.cell? ⟨W.heap.size, 2, none⟩ = some (.string nm)) (by kernel_rfl) ?_ (fun hHeld => ?_)
          · exact hSx _ HXB.out
          refine wpAnyH_take (i := 0) (oi := { dst := some 47, op := Go.Op.move (Go.Operand.tmp 0), type := 127, pos := _, after := #[], guard := none }) (v := ?_) rfl (by kernel_rfl) (by kernel_rfl) (by kernel_rfl) (fun _ _ _ h => h) (Or.inl ⟨by rfl, ?_⟩) (by assumption) ?_
          rotate_left
          · intro w hSw; (try dsimp only at hSw); go_simp <;> first | with_reducible rfl | (rw [if_neg (by first | omega | (simp only [ByteArray.size_append] at *; omega))])
          simp only [Act.put, List.setIfInBounds_toArray, List.set_cons_zero, List.set_cons_succ]
          refine wpAnyH_take (i := 1) (oi := { dst := some 48, op := Go.Op.move (Go.Operand.tmp 0), type := 127, pos := _, after := #[], guard := none }) (v := ?_) rfl (by kernel_rfl) (by kernel_rfl) (by kernel_rfl) (fun _ _ _ h => h) (Or.inl ⟨by rfl, ?_⟩) (by assumption) ?_
          rotate_left
          · intro w hSw; (try dsimp only at hSw); go_simp <;> first | with_reducible rfl | (rw [if_neg (by first | omega | (simp only [ByteArray.size_append] at *; omega))])
          simp only [Act.put, List.setIfInBounds_toArray, List.set_cons_zero, List.set_cons_succ]
          refine wpAnyH_take (i := 2) (oi := { dst := some 49, op := Go.Op.nilCheck (Go.Operand.tmp 48), type := 0, pos := _, after := #[{ on := 1, ground := Go.Ground.data }], guard := none }) (v := ?_) rfl (by kernel_rfl) (by kernel_rfl) (by kernel_rfl) (fun _ _ _ h => h) (Or.inl ⟨by rfl, ?_⟩) (by assumption) ?_
          rotate_left
          · intro w hSw; (try dsimp only at hSw); go_simp <;> first | with_reducible rfl | (rw [if_neg (by first | omega | (simp only [ByteArray.size_append] at *; omega))])
          simp only [Act.put, List.setIfInBounds_toArray, List.set_cons_zero, List.set_cons_succ]
          refine wpAnyH_take (i := 3) (oi := { dst := some 50, op := Go.Op.fieldAddr 91 (Go.Operand.tmp 49) 2, type := 0, pos := _, after := #[{ on := 2, ground := Go.Ground.data }], guard := none }) (v := ?_) rfl (by kernel_rfl) (by kernel_rfl) (by kernel_rfl) (fun _ _ _ h => h) (Or.inl ⟨by rfl, ?_⟩) (by assumption) ?_
          rotate_left
          · intro w hSw; (try dsimp only at hSw); go_simp <;> first | with_reducible rfl | (rw [if_neg (by first | omega | (simp only [ByteArray.size_append] at *; omega))])
          simp only [Act.put, List.setIfInBounds_toArray, List.set_cons_zero, List.set_cons_succ]
          refine wpAnyH_take (i := 5) (oi := { dst := some 52, op := Go.Op.move (Go.Operand.tmp 0), type := 127, pos := _, after := #[], guard := none }) (v := ?_) rfl (by kernel_rfl) (by kernel_rfl) (by kernel_rfl) (fun _ _ _ h => h) (Or.inl ⟨by rfl, ?_⟩) (by assumption) ?_
          rotate_left
          · intro w hSw; (try dsimp only at hSw); go_simp <;> first | with_reducible rfl | (rw [if_neg (by first | omega | (simp only [ByteArray.size_append] at *; omega))])
          simp only [Act.put, List.setIfInBounds_toArray, List.set_cons_zero, List.set_cons_succ]
          refine wpAnyH_take (i := 6) (oi := { dst := some 53, op := Go.Op.fieldAddr 70 (Go.Operand.tmp 4) 2, type := 0, pos := _, after := #[], guard := none }) (v := ?_) rfl (by kernel_rfl) (by kernel_rfl) (by kernel_rfl) (fun _ _ _ h => h) (Or.inl ⟨by rfl, ?_⟩) (by assumption) ?_
          rotate_left
          · intro w hSw; (try dsimp only at hSw); go_simp <;> first | with_reducible rfl | (rw [if_neg (by first | omega | (simp only [ByteArray.size_append] at *; omega))])
          simp only [Act.put, List.setIfInBounds_toArray, List.set_cons_zero, List.set_cons_succ]
          refine wpAnyH_take (i := 7) (oi := { dst := some 54, op := Go.Op.load 9 (Go.Operand.tmp 53), type := 9, pos := _, after := #[{ on := 6, ground := Go.Ground.data }], guard := none }) (v := ?_) rfl (by kernel_rfl) (by kernel_rfl) (by kernel_rfl) (fun _ _ _ h => h) (Or.inl ⟨by rfl, ?_⟩) (by assumption) ?_
          rotate_left
          · intro w hSw; (try dsimp only at hSw); go_simp <;> first | with_reducible rfl | (rw [if_neg (by first | omega | (simp only [ByteArray.size_append] at *; omega))])
          simp only [Act.put, List.setIfInBounds_toArray, List.set_cons_zero, List.set_cons_succ]
          refine wpAnyH_take (i := 8) (oi := { dst := some 55, op := Go.Op.move (Go.Operand.tmp 2), type := 3, pos := _, after := #[], guard := none }) (v := ?_) rfl (by kernel_rfl) (by kernel_rfl) (by kernel_rfl) (fun _ _ _ h => h) (Or.inl ⟨by rfl, ?_⟩) (by assumption) ?_
          rotate_left
          · intro w hSw; (try dsimp only at hSw); go_simp <;> first | with_reducible rfl | (rw [if_neg (by first | omega | (simp only [ByteArray.size_append] at *; omega))])
          simp only [Act.put, List.setIfInBounds_toArray, List.set_cons_zero, List.set_cons_succ]
          refine wpAnyH_ready (rs := [4, 9]) (by kernel_rfl) (by simp) ?_
          refine AllReadyH.cons (o := { dst := some 51, op := Go.Op.load 23 (Go.Operand.tmp 50), type := 23, pos := _, after := #[{ on := 3, ground := Go.Ground.data }], guard := none }) rfl (fun K hK => ?_) (AllReadyH.cons (o := { dst := some 56, op := Go.Op.call { callee := Go.Callee.value (Go.Operand.func 58), args := #[Go.Operand.tmp 52, Go.Operand.tmp 54, Go.Operand.tmp 55], argTypes := #[127, 9, 3] }, type := 38, pos := _, after := #[{ on := 5, ground := Go.Ground.data }, { on := 7, ground := Go.Ground.data }, { on := 8, ground := Go.Ground.data }], guard := none }) rfl (fun K hK => ?_) AllReadyH.nil)
          · have qq : (wr).cell? ⟨c.wb, 2, none⟩ = some (.slice qa L2.length qc) := (S2.out.keep ((Below.refl wr.heap.size wr).drew)).cells.2.2
            go_simp
            refine hK.out _ _ ?_ (fun hHeld1 => ?_)
            · exact hSx _ (keep_row HXB.out ((Below.refl wr.heap.size wr).drew))
            clear hK K qq
            (try simp only [Act.put, List.setIfInBounds_toArray, List.set_cons_zero, List.set_cons_succ])
            refine wpAnyH_ready (rs := [9]) (by kernel_rfl) (by simp) ?_
            refine AllReadyH.cons (o := { dst := some 56, op := Go.Op.call { callee := Go.Callee.value (Go.Operand.func 58), args := #[Go.Operand.tmp 52, Go.Operand.tmp 54, Go.Operand.tmp 55], argTypes := #[127, 9, 3] }, type := 38, pos := _, after := #[{ on := 5, ground := Go.Ground.data }, { on := 7, ground := Go.Ground.data }, { on := 8, ground := Go.Ground.data }], guard := none }) rfl (fun K hK => ?_) AllReadyH.nil
            go_simp
            refine (taken_ c L2 (.slice qa L2.length qc) nm (ago : Int) _ (S2.out.keep ((Below.refl wr.heap.size wr).drew)) HNM.out hlate' hago' HTB.out).mono ?_
            rintro e w2 ⟨rfl, hbc2⟩
            have hbk2 := ((Below.refl wr.heap.size wr).drew).trans (hbc2.mono ((Below.refl wr.heap.size wr).drew).size)
            go_wp2_with fail
            refine hK.out _ _ ?_ (fun hHeld2 => ?_)
            · exact hSx _ (keep_row HXB.out hbk2)
            clear hK K
            (try simp only [Act.put, List.setIfInBounds_toArray, List.set_cons_zero, List.set_cons_succ])
            refine wpAnyH_ready (rs := [10]) (by kernel_rfl) (by simp) ?_
            refine AllReadyH.cons (o := { dst := some 57, op := Go.Op.buildSlice 23 1 #[(0, Go.Operand.tmp 56)], type := 23, pos := _, after := #[{ on := 9, ground := Go.Ground.data }], guard := none }) rfl (fun K hK => ?_) AllReadyH.nil
            go_simp
            have hbk3 := (hbk2).trans (((Below.refl (w2).heap.size (w2)).alloc (Nat.le_refl _) (.cells #[.int .u8 3, .int .i64 (c.T nm.data.toList).1, .int .i64 (c.late + (ago : Int) - (c.T nm.data.toList).2)] 38)).mono (hbk2).size)
            have HNX3 := hid (next_cells (w2) [.int .u8 3, .int .i64 (c.T nm.data.toList).1, .int .i64 (c.late + (ago : Int) - (c.T nm.data.toList).2)] 38)
            refine hK.out _ _ ?_ (fun hHeld3 => ?_)
            · exact hSx _ (keep_row HXB.out hbk3)
            clear hK K
            (try simp only [Act.put, List.setIfInBounds_toArray, List.set_cons_zero, List.set_cons_succ])
            refine wpAnyH_ready (rs := [11]) (by kernel_rfl) (by simp) ?_
            refine AllReadyH.cons (o := { dst := some 58, op := Go.Op.call { callee := Go.Callee.builtin Go.Builtin.append, args := #[Go.Operand.tmp 51, Go.Operand.tmp 57], argTypes := #[23, 23] }, type := 23, pos := _, after := #[{ on := 4, ground := Go.Ground.data }, { on := 10, ground := Go.Ground.data }, { on := 9, ground := Go.Ground.chain }], guard := none }) rfl (fun K hK => ?_) AllReadyH.nil
            refine if_take (by rfl) ?_
            refine wp_append_at (.tmp 51) (.tmp 57) 23 rfl c.lo 38 i0 _ 3 24 Tryd.underlying23 hi hz0 hz1 hz2 rfl (by decide) (.slice qa L2.length qc) _ _ rfl (S2.out.keep (hbk3)).row ⟨(w2).heap.size, 0, none⟩ 1 1 [.int .u8 3, .int .i64 (c.T nm.data.toList).1, .int .i64 (c.late + (ago : Int) - (c.T nm.data.toList).2)] rfl rfl HNX3.out (by simp [Value.oneCell']) HLM.out HLB.out (Nat.le_trans HLO.out (hbk3).size) ?_
            intro v8 wa hown8 hgr8 _ hloc8
            have hbx := (hgr8.block _ (Array.getElem?_eq_some_iff.1 (S2.out.keep (hbk3)).box).1 (fun e => by have := (S2.out.keep (hbk3)).row.lt _ e.symm; omega)).trans (S2.out.keep (hbk3)).box
            have hxx := (hgr8.block _ (Array.getElem?_eq_some_iff.1 (keep_row HXB.out (hbk3))).1 (fun e => HXN.out e.symm)).trans (keep_row HXB.out (hbk3))
            have hFI := hid (WrS.app (x := ⟨3, (c.T nm.data.toList).1, c.late + (ago : Int) - (c.T nm.data.toList).2⟩) (S2.out.keep (hbk3)) hown8 hgr8)
            have hFM := hid (Mvd.app (wb := c.wb) (hbk3) hgr8 hloc8)
            obtain ⟨g8, c8, rfl⟩ := ownsRow_succ hown8
            refine hK.out _ _ ?_ (fun hHeld4 => ?_)
            · exact hSx _ hxx
            clear hK K hown8 hgr8 hloc8
            (try simp only [Act.put, List.setIfInBounds_toArray, List.set_cons_zero, List.set_cons_succ])
            refine wpAnyH_take (i := 12) (oi := { dst := some 59, op := Go.Op.nilCheck (Go.Operand.tmp 47), type := 0, pos := _, after := #[{ on := 0, ground := Go.Ground.data }, { on := 0, ground := Go.Ground.phase }, { on := 1, ground := Go.Ground.phase }, { on := 2, ground := Go.Ground.phase }, { on := 3, ground := Go.Ground.phase }, { on := 4, ground := Go.Ground.phase }, { on := 5, ground := Go.Ground.phase }, { on := 6, ground := Go.Ground.phase }, { on := 7, ground := Go.Ground.phase }, { on := 8, ground := Go.Ground.phase }, { on := 9, ground := Go.Ground.phase }, { on := 10, ground := Go.Ground.phase }, { on := 11, ground := Go.Ground.phase }], guard := none }) (v := ?_) rfl (by kernel_rfl) (by kernel_rfl) (by kernel_rfl) (fun _ _ _ h => h) (Or.inl ⟨by rfl, ?_⟩) (by assumption) ?_
            rotate_left
            · intro w hSw; (try dsimp only at hSw); go_simp <;> first | with_reducible rfl | (rw [if_neg (by first | omega | (simp only [ByteArray.size_append] at *; omega))])
            simp only [Act.put, List.setIfInBounds_toArray, List.set_cons_zero, List.set_cons_succ]
            refine wpAnyH_take (i := 13) (oi := { dst := some 60, op := Go.Op.fieldAddr 91 (Go.Operand.tmp 59) 2, type := 0, pos := _, after := #[{ on := 12, ground := Go.Ground.data }, { on := 0, ground := Go.Ground.phase }, { on := 1, ground := Go.Ground.phase }, { on := 2, ground := Go.Ground.phase }, { on := 3, ground := Go.Ground.phase }, { on := 4, ground := Go.Ground.phase }, { on := 5, ground := Go.Ground.phase }, { on := 6, ground := Go.Ground.phase }, { on := 7, ground := Go.Ground.phase }, { on := 8, ground := Go.Ground.phase }, { on := 9, ground := Go.Ground.phase }, { on := 10, ground := Go.Ground.phase }, { on := 11, ground := Go.Ground.phase }], guard := none }) (v := ?_) rfl (by kernel_rfl) (by kernel_rfl) (by kernel_rfl) (fun _ _ _ h => h) (Or.inl ⟨by rfl, ?_⟩) (by assumption) ?_
            rotate_left
            · intro w hSw; (try dsimp only at hSw); go_simp <;> first | with_reducible rfl | (rw [if_neg (by first | omega | (simp only [ByteArray.size_append] at *; omega))])
            simp only [Act.put, List.setIfInBounds_toArray, List.set_cons_zero, List.set_cons_succ]
            refine wpAnyH_ready (rs := [14]) (by kernel_rfl) (by simp) ?_
            refine AllReadyH.cons (o := { dst := none, op := Go.Op.store 23 (Go.Operand.tmp 60) (Go.Operand.tmp 58), type := 0, pos := _, after := #[{ on := 13, ground := Go.Ground.data }, { on := 11, ground := Go.Ground.data }, { on := 11, ground := Go.Ground.chain }, { on := 0, ground := Go.Ground.phase }, { on := 1, ground := Go.Ground.phase }, { on := 2, ground := Go.Ground.phase }, { on := 3, ground := Go.Ground.phase }, { on := 4, ground := Go.Ground.phase }, { on := 5, ground := Go.Ground.phase }, { on := 6, ground := Go.Ground.phase }, { on := 7, ground := Go.Ground.phase }, { on := 8, ground := Go.Ground.phase }, { on := 9, ground := Go.Ground.phase }, { on := 10, ground := Go.Ground.phase }, { on := 11, ground := Go.Ground.phase }], guard := none }) rfl (fun K hK => ?_) AllReadyH.nil
            have z2 := (cell_of_row _ _ 2 _ 91 (0, 0) hbx).trans rfl
            have f2 : wa.frozen? ⟨c.wb, 2, none⟩ = false := frozen_of_row _ _ _ _ _ hbx
            go_simp
            refine hK.out _ _ ?_ (fun hHeld5 => ?_)
            · exact hSx _ ((Below.heap_setCell _ _ _ _ (by simp; exact HXW.out)).trans hxx)
            clear hK K
            refine wpAnyH_done (by kernel_rfl) ?_ _
            go_wp2_with (fail)
            (try simp only [Exit.inBlock, Exit.then])
            refine bodyPost_ret (results_none rfl _ _) rfl ?_
            exact HEND.out _ _ hFI.out hFM.out
          · go_simp
            refine (taken_ c L2 (.slice qa L2.length qc) nm (ago : Int) _ (S2.out.keep ((Below.refl wr.heap.size wr).drew)) HNM.out hlate' hago' HTB.out).mono ?_
            rintro e w6 ⟨rfl, hbc6⟩
            have hbk6 := ((Below.refl wr.heap.size wr).drew).trans (hbc6.mono ((Below.refl wr.heap.size wr).drew).size)
            go_wp2_with fail
            refine hK.out _ _ ?_ (fun hHeld6 => ?_)
            · exact hSx _ (keep_row HXB.out hbk6)
            clear hK K
            (try simp only [Act.put, List.setIfInBounds_toArray, List.set_cons_zero, List.set_cons_succ])
            refine wpAnyH_ready (rs := [4, 10]) (by kernel_rfl) (by simp) ?_
            refine AllReadyH.cons (o := { dst := some 51, op := Go.Op.load 23 (Go.Operand.tmp 50), type := 23, pos := _, after := #[{ on := 3, ground := Go.Ground.data }], guard := none }) rfl (fun K hK => ?_) (AllReadyH.cons (o := { dst := some 57, op := Go.Op.buildSlice 23 1 #[(0, Go.Operand.tmp 56)], type := 23, pos := _, after := #[{ on := 9, ground := Go.Ground.data }], guard := none }) rfl (fun K hK => ?_) AllReadyH.nil)
            · have qq : (w6).cell? ⟨c.wb, 2, none⟩ = some (.slice qa L2.length qc) := (S2.out.keep (hbk6)).cells.2.2
              go_simp
              refine hK.out _ _ ?_ (fun hHeld7 => ?_)
              · exact hSx _ (keep_row HXB.out (hbk6))
              clear hK K qq
              (try simp only [Act.put, List.setIfInBounds_toArray, List.set_cons_zero, List.set_cons_succ])
              refine wpAnyH_ready (rs := [10]) (by kernel_rfl) (by simp) ?_
              refine AllReadyH.cons (o := { dst := some 57, op := Go.Op.buildSlice 23 1 #[(0, Go.Operand.tmp 56)], type := 23, pos := _, after := #[{ on := 9, ground := Go.Ground.data }], guard := none }) rfl (fun K hK => ?_) AllReadyH.nil
              go_simp
              have hbk8 := (hbk6).trans (((Below.refl (w6).heap.size (w6)).alloc (Nat.le_refl _) (.cells #[.int .u8 3, .int .i64 (c.T nm.data.toList).1, .int .i64 (c.late + (ago : Int) - (c.T nm.data.toList).2)] 38)).mono (hbk6).size)
              have HNX8 := hid (next_cells (w6) [.int .u8 3, .int .i64 (c.T nm.data.toList).1, .int .i64 (c.late + (ago : Int) - (c.T nm.data.toList).2)] 38)
              refine hK.out _ _ ?_ (fun hHeld8 => ?_)
              · exact hSx _ (keep_row HXB.out hbk8)
              clear hK K
              (try simp only [Act.put, List.setIfInBounds_toArray, List.set_cons_zero, List.set_cons_succ])
              refine wpAnyH_ready (rs := [11]) (by kernel_rfl) (by simp) ?_
              refine AllReadyH.cons (o := { dst := some 58, op := Go.Op.call { callee := Go.Callee.builtin Go.Builtin.append, args := #[Go.Operand.tmp 51, Go.Operand.tmp 57], argTypes := #[23, 23] }, type := 23, pos := _, after := #[{ on := 4, ground := Go.Ground.data }, { on := 10, ground := Go.Ground.data }, { on := 9, ground := Go.Ground.chain }], guard := none }) rfl (fun K hK => ?_) AllReadyH.nil
              refine if_take (by rfl) ?_
              refine wp_append_at (.tmp 51) (.tmp 57) 23 rfl c.lo 38 i0 _ 3 24 Tryd.underlying23 hi hz0 hz1 hz2 rfl (by decide) (.slice qa L2.length qc) _ _ rfl (S2.out.keep (hbk8)).row ⟨(w6).heap.size, 0, none⟩ 1 1 [.int .u8 3, .int .i64 (c.T nm.data.toList).1, .int .i64 (c.late + (ago : Int) - (c.T nm.data.toList).2)] rfl rfl HNX8.out (by simp [Value.oneCell']) HLM.out HLB.out (Nat.le_trans HLO.out (hbk8).size) ?_
              intro v8 wa hown8 hgr8 _ hloc8
              have hbx := (hgr8.block _ (Array.getElem?_eq_some_iff.1 (S2.out.keep (hbk8)).box).1 (fun e => by have := (S2.out.keep (hbk8)).row.lt _ e.symm; omega)).trans (S2.out.keep (hbk8)).box
              have hxx := (hgr8.block _ (Array.getElem?_eq_some_iff.1 (keep_row HXB.out (hbk8))).1 (fun e => HXN.out e.symm)).trans (keep_row HXB.out (hbk8))
              have hFI := hid (WrS.app (x := ⟨3, (c.T nm.data.toList).1, c.late + (ago : Int) - (c.T nm.data.toList).2⟩) (S2.out.keep (hbk8)) hown8 hgr8)
              have hFM := hid (Mvd.app (wb := c.wb) (hbk8) hgr8 hloc8)
              obtain ⟨g8, c8, rfl⟩ := ownsRow_succ hown8
              refine hK.out _ _ ?_ (fun hHeld9 => ?_)
              · exact hSx _ hxx
              clear hK K hown8 hgr8 hloc8
              (try simp only [Act.put, List.setIfInBounds_toArray, List.set_cons_zero, List.set_cons_succ])
              refine wpAnyH_take (i := 12) (oi := { dst := some 59, op := Go.Op.nilCheck (Go.Operand.tmp 47), type := 0, pos := _, after := #[{ on := 0, ground := Go.Ground.data }, { on := 0, ground := Go.Ground.phase }, { on := 1, ground := Go.Ground.phase }, { on := 2, ground := Go.Ground.phase }, { on := 3, ground := Go.Ground.phase }, { on := 4, ground := Go.Ground.phase }, { on := 5, ground := Go.Ground.phase }, { on := 6, ground := Go.Ground.phase }, { on := 7, ground := Go.Ground.phase }, { on := 8, ground := Go.Ground.phase }, { on := 9, ground := Go.Ground.phase }, { on := 10, ground := Go.Ground.phase }, { on := 11, ground := Go.Ground.phase }], guard := none }) (v := ?_) rfl (by kernel_rfl) (by kernel_rfl) (by kernel_rfl) (fun _ _ _ h => h) (Or.inl ⟨by rfl, ?_⟩) (by assumption) ?_
              rotate_left
              · intro w hSw; (try dsimp only at hSw); go_simp <;> first | with_reducible rfl | (rw [if_neg (by first | omega | (simp only [ByteArray.size_append] at *; omega))])
              simp only [Act.put, List.setIfInBounds_toArray, List.set_cons_zero, List.set_cons_succ]
              refine wpAnyH_take (i := 13) (oi := { dst := some 60, op := Go.Op.fieldAddr 91 (Go.Operand.tmp 59) 2, type := 0, pos := _, after := #[{ on := 12, ground := Go.Ground.data }, { on := 0, ground := Go.Ground.phase }, { on := 1, ground := Go.Ground.phase }, { on := 2, ground := Go.Ground.phase }, { on := 3, ground := Go.Ground.phase }, { on := 4, ground := Go.Ground.phase }, { on := 5, ground := Go.Ground.phase }, { on := 6, ground := Go.Ground.phase }, { on := 7, ground := Go.Ground.phase }, { on := 8, ground := Go.Ground.phase }, { on := 9, ground := Go.Ground.phase }, { on := 10, ground := Go.Ground.phase }, { on := 11, ground := Go.Ground.phase }], guard := none }) (v := ?_) rfl (by kernel_rfl) (by kernel_rfl) (by kernel_rfl) (fun _ _ _ h => h) (Or.inl ⟨by rfl, ?_⟩) (by assumption) ?_
              rotate_left
              · intro w hSw; (try dsimp only at hSw); go_simp <;> first | with_reducible rfl | (rw [if_neg (by first | omega | (simp only [ByteArray.size_append] at *; omega))])
              simp only [Act.put, List.setIfInBounds_toArray, List.set_cons_zero, List.set_cons_succ]
              refine wpAnyH_ready (rs := [14]) (by kernel_rfl) (by simp) ?_
              refine AllReadyH.cons (o := { dst := none, op := Go.Op.store 23 (Go.Operand.tmp 60) (Go.Operand.tmp 58), type := 0, pos := _, after := #[{ on := 13, ground := Go.Ground.data }, { on := 11, ground := Go.Ground.data }, { on := 11, ground := Go.Ground.chain }, { on := 0, ground := Go.Ground.phase }, { on := 1, ground := Go.Ground.phase }, { on := 2, ground := Go.Ground.phase }, { on := 3, ground := Go.Ground.phase }, { on := 4, ground := Go.Ground.phase }, { on := 5, ground := Go.Ground.phase }, { on := 6, ground := Go.Ground.phase }, { on := 7, ground := Go.Ground.phase }, { on := 8, ground := Go.Ground.phase }, { on := 9, ground := Go.Ground.phase }, { on := 10, ground := Go.Ground.phase }, { on := 11, ground := Go.Ground.phase }], guard := none }) rfl (fun K hK => ?_) AllReadyH.nil
              have z2 := (cell_of_row _ _ 2 _ 91 (0, 0) hbx).trans rfl
              have f2 : wa.frozen? ⟨c.wb, 2, none⟩ = false := frozen_of_row _ _ _ _ _ hbx
              go_simp
              refine hK.out _ _ ?_ (fun hHeld10 => ?_)
              · exact hSx _ ((Below.heap_setCell _ _ _ _ (by simp; exact HXW.out)).trans hxx)
              clear hK K
              refine wpAnyH_done (by kernel_rfl) ?_ _
              go_wp2_with (fail)
              (try simp only [Exit.inBlock, Exit.then])
              refine bodyPost_ret (results_none rfl _ _) rfl ?_
              exact HEND.out _ _ hFI.out hFM.out
            · go_simp
              have hbk11 := (hbk6).trans (((Below.refl (w6).heap.size (w6)).alloc (Nat.le_refl _) (.cells #[.int .u8 3, .int .i64 (c.T nm.data.toList).1, .int .i64 (c.late + (ago : Int) - (c.T nm.data.toList).2)] 38)).mono (hbk6).size)
              have HNX11 := hid (next_cells (w6) [.int .u8 3, .int .i64 (c.T nm.data.toList).1, .int .i64 (c.late + (ago : Int) - (c.T nm.data.toList).2)] 38)
              refine hK.out _ _ ?_ (fun hHeld11 => ?_)
              · exact hSx _ (keep_row HXB.out hbk11)
              clear hK K
              (try simp only [Act.put, List.setIfInBounds_toArray, List.set_cons_zero, List.set_cons_succ])
              refine wpAnyH_ready (rs := [4]) (by kernel_rfl) (by simp) ?_
              refine AllReadyH.cons (o := { dst := some 51, op := Go.Op.load 23 (Go.Operand.tmp 50), type := 23, pos := _, after := #[{ on := 3, ground := Go.Ground.data }], guard := none }) rfl (fun K hK => ?_) AllReadyH.nil
              have qq : (((w6).alloc (.cells #[.int .u8 3, .int .i64 (c.T nm.data.toList).1, .int .i64 (c.late + (ago : Int) - (c.T nm.data.toList).2)] 38))).cell? ⟨c.wb, 2, none⟩ = some (.slice qa L2.length qc) := (S2.out.keep (hbk11)).cells.2.2
              go_simp
              refine hK.out _ _ ?_ (fun hHeld12 => ?_)
              · exact hSx _ (keep_row HXB.out (hbk11))
              clear hK K qq
              (try simp only [Act.put, List.setIfInBounds_toArray, List.set_cons_zero, List.set_cons_succ])
              refine wpAnyH_ready (rs := [11]) (by kernel_rfl) (by simp) ?_
              refine AllReadyH.cons (o := { dst := some 58, op := Go.Op.call { callee := Go.Callee.builtin Go.Builtin.append, args := #[Go.Operand.tmp 51, Go.Operand.tmp 57], argTypes := #[23, 23] }, type := 23, pos := _, after := #[{ on := 4, ground := Go.Ground.data }, { on := 10, ground := Go.Ground.data }, { on := 9, ground := Go.Ground.chain }], guard := none }) rfl (fun K hK => ?_) AllReadyH.nil
              refine if_take (by rfl) ?_
              refine wp_append_at (.tmp 51) (.tmp 57) 23 rfl c.lo 38 i0 _ 3 24 Tryd.underlying23 hi hz0 hz1 hz2 rfl (by decide) (.slice qa L2.length qc) _ _ rfl (S2.out.keep (hbk11)).row ⟨(w6).heap.size, 0, none⟩ 1 1 [.int .u8 3, .int .i64 (c.T nm.data.toList).1, .int .i64 (c.late + (ago : Int) - (c.T nm.data.toList).2)] rfl rfl HNX11.out (by simp [Value.oneCell']) HLM.out HLB.out (Nat.le_trans HLO.out (hbk11).size) ?_
              intro v8 wa hown8 hgr8 _ hloc8
              have hbx := (hgr8.block _ (Array.getElem?_eq_some_iff.1 (S2.out.keep (hbk11)).box).1 (fun e => by have := (S2.out.keep (hbk11)).row.lt _ e.symm; omega)).trans (S2.out.keep (hbk11)).box
              have hxx := (hgr8.block _ (Array.getElem?_eq_some_iff.1 (keep_row HXB.out (hbk11))).1 (fun e => HXN.out e.symm)).trans (keep_row HXB.out (hbk11))
              have hFI := hid (WrS.app (x := ⟨3, (c.T nm.data.toList).1, c.late + (ago : Int) - (c.T nm.data.toList).2⟩) (S2.out.keep (hbk11)) hown8 hgr8)
              have hFM := hid (Mvd.app (wb := c.wb) (hbk11) hgr8 hloc8)
              obtain ⟨g8, c8, rfl⟩ := ownsRow_succ hown8
              refine hK.out _ _ ?_ (fun hHeld13 => ?_)
              · exact hSx _ hxx
              clear hK K hown8 hgr8 hloc8
              (try simp only [Act.put, List.setIfInBounds_toArray, List.set_cons_zero, List.set_cons_succ])
              refine wpAnyH_take (i := 12) (oi := { dst := some 59, op := Go.Op.nilCheck (Go.Operand.tmp 47), type := 0, pos := _, after := #[{ on := 0, ground := Go.Ground.data }, { on := 0, ground := Go.Ground.phase }, { on := 1, ground := Go.Ground.phase }, { on := 2, ground := Go.Ground.phase }, { on := 3, ground := Go.Ground.phase }, { on := 4, ground := Go.Ground.phase }, { on := 5, ground := Go.Ground.phase }, { on := 6, ground := Go.Ground.phase }, { on := 7, ground := Go.Ground.phase }, { on := 8, ground := Go.Ground.phase }, { on := 9, ground := Go.Ground.phase }, { on := 10, ground := Go.Ground.phase }, { on := 11, ground := Go.Ground.phase }], guard := none }) (v := ?_) rfl (by kernel_rfl) (by kernel_rfl) (by kernel_rfl) (fun _ _ _ h => h) (Or.inl ⟨by rfl, ?_⟩) (by assumption) ?_
              rotate_left
              · intro w hSw; (try dsimp only at hSw); go_simp <;> first | with_reducible rfl | (rw [if_neg (by first | omega | (simp only [ByteArray.size_append] at *; omega))])
              simp only [Act.put, List.setIfInBounds_toArray, List.set_cons_zero, List.set_cons_succ]
              refine wpAnyH_take (i := 13) (oi := { dst := some 60, op := Go.Op.fieldAddr 91 (Go.Operand.tmp 59) 2, type := 0, pos := _, after := #[{ on := 12, ground := Go.Ground.data }, { on := 0, ground := Go.Ground.phase }, { on := 1, ground := Go.Ground.phase }, { on := 2, ground := Go.Ground.phase }, { on := 3, ground := Go.Ground.phase }, { on := 4, ground := Go.Ground.phase }, { on := 5, ground := Go.Ground.phase }, { on := 6, ground := Go.Ground.phase }, { on := 7, ground := Go.Ground.phase }, { on := 8, ground := Go.Ground.phase }, { on := 9, ground := Go.Ground.phase }, { on := 10, ground := Go.Ground.phase }, { on := 11, ground := Go.Ground.phase }], guard := none }) (v := ?_) rfl (by kernel_rfl) (by kernel_rfl) (by kernel_rfl) (fun _ _ _ h => h) (Or.inl ⟨by rfl, ?_⟩) (by assumption) ?_
              rotate_left
              · intro w hSw; (try dsimp only at hSw); go_simp <;> first | with_reducible rfl | (rw [if_neg (by first | omega | (simp only [ByteArray.size_append] at *; omega))])
              simp only [Act.put, List.setIfInBounds_toArray, List.set_cons_zero, List.set_cons_succ]
              refine wpAnyH_ready (rs := [14]) (by kernel_rfl) (by simp) ?_
              refine AllReadyH.cons (o := { dst := none, op := Go.Op.store 23 (Go.Operand.tmp 60) (Go.Operand.tmp 58), type := 0, pos := _, after := #[{ on := 13, ground := Go.Ground.data }, { on := 11, ground := Go.Ground.data }, { on := 11, ground := Go.Ground.chain }, { on := 0, ground := Go.Ground.phase }, { on := 1, ground := Go.Ground.phase }, { on := 2, ground := Go.Ground.phase }, { on := 3, ground := Go.Ground.phase }, { on := 4, ground := Go.Ground.phase }, { on := 5, ground := Go.Ground.phase }, { on := 6, ground := Go.Ground.phase }, { on := 7, ground := Go.Ground.phase }, { on := 8, ground := Go.Ground.phase }, { on := 9, ground := Go.Ground.phase }, { on := 10, ground := Go.Ground.phase }, { on := 11, ground := Go.Ground.phase }], guard := none }) rfl (fun K hK => ?_) AllReadyH.nil
              have z2 := (cell_of_row _ _ 2 _ 91 (0, 0) hbx).trans rfl
              have f2 : wa.frozen? ⟨c.wb, 2, none⟩ = false := frozen_of_row _ _ _ _ _ hbx
              go_simp
              refine hK.out _ _ ?_ (fun hHeld14 => ?_)
              · exact hSx _ ((Below.heap_setCell _ _ _ _ (by simp; exact HXW.out)).trans hxx)
              clear hK K
              refine wpAnyH_done (by kernel_rfl) ?_ _
              go_wp2_with (fail)
              (try simp only [Exit.inBlock, Exit.then])
              refine bodyPost_ret (results_none rfl _ _) rfl ?_
              exact HEND.out _ _ hFI.out hFM.out
        by_cases h18 : op = 18
        · have b3 : ((op : Int) == 3) = false := by rw [beq_eq_false_iff_ne]; omega
          have b18 : ((op : Int) == 18) = true := by rw [beq_iff_eq]; omega
          have HLW : Hid (lastW c.T c.late op n nm ago = [⟨op, 0, (ago : Int)⟩]) := hid (by unfold lastW; rw [if_neg H19.out, if_neg h3, if_pos h18, h18])
          clear h3 h18
          generalize hL2 : L ++ FL c.T c.late ago args = L2 at *
          have HQ2 := hid hL2
          clear hL2
          obtain ⟨qa, qc, rfl⟩ : ∃ a c, dv2 = .slice a L2.length c := by
            rcases S2.out.row.2 with ⟨h, h0⟩ | ⟨g, cap', cur, h, _⟩
            · exact ⟨none, 0, by rw [h, h0]⟩
            · exact ⟨_, _, h⟩
          have HXN : Hid ((Value.slice qa L2.length qc).ownBlock ≠ some W.heap.size) := hid (fun e => by
            rcases M2.out.own _ e with h | h
            · exact HXO.out h
            · rw [HV1.out] at h; omega)
          have HLL : Hid (L2.length ≤ 100000) := hid (by have := HLN.out; rw [← HQ2.out, List.length_append]; omega)
          have HLM : Hid (L2.length + 1 ≤ maxLen) := hid (by have := HLL.out; unfold maxLen; omega)
          have HLB : Hid ((L2.length + 1) * 24 ≤ 140737488355328) := hid (by have := HLL.out; omega)
          have HLO : Hid (c.lo ≤ wr.heap.size) := hid S2.out.l5
          have HL3 := S2.out.l3
          have HL2' := S2.out.l2
          have hSx : ∀ V : World, V.heap[W.heap.size]? = some (.cells #[.int .u8 (op : Int), .int .i64 n, .string nm, .slice ao args.length cap] 70 (0, 0)) → V.cell? ⟨W.heap.size, 0, none⟩ = some (.int .u8 (op : Int)) ∧ V.cell? ⟨W.heap.size, 1, none⟩ = some (.int .i64 n) ∧ V.cell? ⟨W.heap.size, 2, none⟩ = some (.string nm) := fun V h => ⟨(cell_of_row _ _ 0 _ 70 (0, 0) h).trans rfl, (cell_of_row _ _ 1 _ 70 (0, 0) h).trans rfl, (cell_of_row _ _ 2 _ 70 (0, 0) h).trans rfl⟩
          have HEND : Hid (∀ v' wa', WrS c (L2 ++ [⟨op, 0, (ago : Int)⟩]) v' wa' → Mvd c.wb (.slice qa L2.length qc) v' wr wa' → WrE c (L ++ wrF c.T c.late ⟨op, n, nm, args⟩ ago) dv W (.returned (.tuple #[])) wa') := hid (fun v' wa' h1 h2 => ⟨rfl, v', by rw [HW.out, HLW.out, ← List.append_assoc, HQ2.out]; exact h1, (M1.out.trans M2.out).trans h2⟩)
          go_wp2_with (fail)
          refine wp_region_held_drew (S := fun V => V.cell? ⟨W.heap.size, 0, none⟩ = some (.int .u8 (op : Int)) ∧ V.cell? ⟨W.heap.size, 1, none⟩ = some (.int .i64 n) ∧ V.cell? ⟨W.heap.size, 2, none⟩ = some (.string nm)) (by kernel_rfl) ?_ (fun hHeld => ?_)
          · exact hSx _ HXB.out
          refine wpAnyH_take (i := 0) (oi := { dst := some 63, op := Go.Op.move (Go.Operand.tmp 0), type := 127, pos := _, after := #[], guard := none }) (v := ?_) rfl (by kernel_rfl) (by kernel_rfl) (by kernel_rfl) (fun _ _ _ h => h) (Or.inl ⟨by rfl, ?_⟩) (by assumption) ?_
          rotate_left
          · intro w hSw; (try dsimp only at hSw); go_simp <;> first | with_reducible rfl | (rw [if_neg (by first | omega | (simp only [ByteArray.size_append] at *; omega))])
          simp only [Act.put, List.setIfInBounds_toArray, List.set_cons_zero, List.set_cons_succ]
          refine wpAnyH_take (i := 1) (oi := { dst := some 64, op := Go.Op.move (Go.Operand.tmp 0), type := 127, pos := _, after := #[], guard := none }) (v := ?_) rfl (by kernel_rfl) (by kernel_rfl) (by kernel_rfl) (fun _ _ _ h => h) (Or.inl ⟨by rfl, ?_⟩) (by assumption) ?_
          rotate_left
          · intro w hSw; (try dsimp only at hSw); go_simp <;> first | with_reducible rfl | (rw [if_neg (by first | omega | (simp only [ByteArray.size_append] at *; omega))])
          simp only [Act.put, List.setIfInBounds_toArray, List.set_cons_zero, List.set_cons_succ]
          refine wpAnyH_take (i := 2) (oi := { dst := some 65, op := Go.Op.nilCheck (Go.Operand.tmp 64), type := 0, pos := _, after := #[{ on := 1, ground := Go.Ground.data }], guard := none }) (v := ?_) rfl (by kernel_rfl) (by kernel_rfl) (by kernel_rfl) (fun _ _ _ h => h) (Or.inl ⟨by rfl, ?_⟩) (by assumption) ?_
          rotate_left
          · intro w hSw; (try dsimp only at hSw); go_simp <;> first | with_reducible rfl | (rw [if_neg (by first | omega | (simp only [ByteArray.size_append] at *; omega))])
          simp only [Act.put, List.setIfInBounds_toArray, List.set_cons_zero, List.set_cons_succ]
          refine wpAnyH_take (i := 3) (oi := { dst := some 66, op := Go.Op.fieldAddr 91 (Go.Operand.tmp 65) 2, type := 0, pos := _, after := #[{ on := 2, ground := Go.Ground.data }], guard := none }) (v := ?_) rfl (by kernel_rfl) (by kernel_rfl) (by kernel_rfl) (fun _ _ _ h => h) (Or.inl ⟨by rfl, ?_⟩) (by assumption) ?_
          rotate_left
          · intro w hSw; (try dsimp only at hSw); go_simp <;> first | with_reducible rfl | (rw [if_neg (by first | omega | (simp only [ByteArray.size_append] at *; omega))])
          simp only [Act.put, List.setIfInBounds_toArray, List.set_cons_zero, List.set_cons_succ]
          refine wpAnyH_take (i := 5) (oi := { dst := some 68, op := Go.Op.fieldAddr 70 (Go.Operand.tmp 4) 0, type := 0, pos := _, after := #[], guard := none }) (v := ?_) rfl (by kernel_rfl) (by kernel_rfl) (by kernel_rfl) (fun _ _ _ h => h) (Or.inl ⟨by rfl, ?_⟩) (by assumption) ?_
          rotate_left
          · intro w hSw; (try dsimp only at hSw); go_simp <;> first | with_reducible rfl | (rw [if_neg (by first | omega | (simp only [ByteArray.size_append] at *; omega))])
          simp only [Act.put, List.setIfInBounds_toArray, List.set_cons_zero, List.set_cons_succ]
          refine wpAnyH_take (i := 6) (oi := { dst := some 69, op := Go.Op.load 36 (Go.Operand.tmp 68), type := 36, pos := _, after := #[{ on := 5, ground := Go.Ground.data }], guard := none }) (v := ?_) rfl (by kernel_rfl) (by kernel_rfl) (by kernel_rfl) (fun _ _ _ h => h) (Or.inl ⟨by rfl, ?_⟩) (by assumption) ?_
          rotate_left
          · intro w hSw; (try dsimp only at hSw); go_simp <;> first | with_reducible rfl | (rw [if_neg (by first | omega | (simp only [ByteArray.size_append] at *; omega))])
          simp only [Act.put, List.setIfInBounds_toArray, List.set_cons_zero, List.set_cons_succ]
          refine wpAnyH_take (i := 7) (oi := { dst := some 70, op := Go.Op.move (Go.Operand.tmp 2), type := 3, pos := _, after := #[], guard := none }) (v := ?_) rfl (by kernel_rfl) (by kernel_rfl) (by kernel_rfl) (fun _ _ _ h => h) (Or.inl ⟨by rfl, ?_⟩) (by assumption) ?_
          rotate_left
          · intro w hSw; (try dsimp only at hSw); go_simp <;> first | with_reducible rfl | (rw [if_neg (by first | omega | (simp only [ByteArray.size_append] at *; omega))])
          simp only [Act.put, List.setIfInBounds_toArray, List.set_cons_zero, List.set_cons_succ]
          refine wpAnyH_take (i := 8) (oi := { dst := some 71, op := Go.Op.build 38 #[(0, Go.Operand.tmp 69), (2, Go.Operand.tmp 70)], type := 38, pos := _, after := #[{ on := 6, ground := Go.Ground.data }, { on := 7, ground := Go.Ground.data }], guard := none }) (v := ?_) rfl (by kernel_rfl) (by kernel_rfl) (by kernel_rfl) (fun _ _ _ h => h) (Or.inl ⟨by rfl, ?_⟩) (by assumption) ?_
          rotate_left
          · intro w hSw; (try dsimp only at hSw); go_simp <;> first | with_reducible rfl | (rw [if_neg (by first | omega | (simp only [ByteArray.size_append] at *; omega))])
          simp only [Act.put, List.setIfInBounds_toArray, List.set_cons_zero, List.set_cons_succ]
          refine wpAnyH_ready (rs := [4, 9]) (by kernel_rfl) (by simp) ?_
          refine AllReadyH.cons (o := { dst := some 67, op := Go.Op.load 23 (Go.Operand.tmp 66), type := 23, pos := _, after := #[{ on := 3, ground := Go.Ground.data }], guard := none }) rfl (fun K hK => ?_) (AllReadyH.cons (o := { dst := some 72, op := Go.Op.buildSlice 23 1 #[(0, Go.Operand.tmp 71)], type := 23, pos := _, after := #[{ on := 8, ground := Go.Ground.data }], guard := none }) rfl (fun K hK => ?_) AllReadyH.nil)
          · have qq : (wr).cell? ⟨c.wb, 2, none⟩ = some (.slice qa L2.length qc) := (S2.out.keep ((Below.refl wr.heap.size wr).drew)).cells.2.2
            go_simp
            refine hK.out _ _ ?_ (fun hHeld1 => ?_)
            · exact hSx _ (keep_row HXB.out ((Below.refl wr.heap.size wr).drew))
            clear hK K qq
            (try simp only [Act.put, List.setIfInBounds_toArray, List.set_cons_zero, List.set_cons_succ])
            refine wpAnyH_ready (rs := [9]) (by kernel_rfl) (by simp) ?_
            refine AllReadyH.cons (o := { dst := some 72, op := Go.Op.buildSlice 23 1 #[(0, Go.Operand.tmp 71)], type := 23, pos := _, after := #[{ on := 8, ground := Go.Ground.data }], guard := none }) rfl (fun K hK => ?_) AllReadyH.nil
            go_simp
            have hbk2 := ((Below.refl wr.heap.size wr).drew).trans (((Below.refl (wr.drew).heap.size (wr.drew)).alloc (Nat.le_refl _) (.cells #[.int .u8 (op : Int), .int .i64 0, .int .i64 (ago : Int)] 38)).mono ((Below.refl wr.heap.size wr).drew).size)
            have HNX2 := hid (next_cells (wr.drew) [.int .u8 (op : Int), .int .i64 0, .int .i64 (ago : Int)] 38)
            refine hK.out _ _ ?_ (fun hHeld2 => ?_)
            · exact hSx _ (keep_row HXB.out hbk2)
            clear hK K
            (try simp only [Act.put, List.setIfInBounds_toArray, List.set_cons_zero, List.set_cons_succ])
            refine wpAnyH_ready (rs := [10]) (by kernel_rfl) (by simp) ?_
            refine AllReadyH.cons (o := { dst := some 73, op := Go.Op.call { callee := Go.Callee.builtin Go.Builtin.append, args := #[Go.Operand.tmp 67, Go.Operand.tmp 72], argTypes := #[23, 23] }, type := 23, pos := _, after := #[{ on := 4, ground := Go.Ground.data }, { on := 9, ground := Go.Ground.data }], guard := none }) rfl (fun K hK => ?_) AllReadyH.nil
            refine if_take (by rfl) ?_
            refine wp_append_at (.tmp 67) (.tmp 72) 23 rfl c.lo 38 i0 _ 3 24 Tryd.underlying23 hi hz0 hz1 hz2 rfl (by decide) (.slice qa L2.length qc) _ _ rfl (S2.out.keep (hbk2)).row ⟨(wr.drew).heap.size, 0, none⟩ 1 1 [.int .u8 (op : Int), .int .i64 0, .int .i64 (ago : Int)] rfl rfl HNX2.out (by simp [Value.oneCell']) HLM.out HLB.out (Nat.le_trans HLO.out (hbk2).size) ?_
            intro v8 wa hown8 hgr8 _ hloc8
            have hbx := (hgr8.block _ (Array.getElem?_eq_some_iff.1 (S2.out.keep (hbk2)).box).1 (fun e => by have := (S2.out.keep (hbk2)).row.lt _ e.symm; omega)).trans (S2.out.keep (hbk2)).box
            have hxx := (hgr8.block _ (Array.getElem?_eq_some_iff.1 (keep_row HXB.out (hbk2))).1 (fun e => HXN.out e.symm)).trans (keep_row HXB.out (hbk2))
            have hFI := hid (WrS.app (x := ⟨op, 0, (ago : Int)⟩) (S2.out.keep (hbk2)) hown8 hgr8)
            have hFM := hid (Mvd.app (wb := c.wb) (hbk2) hgr8 hloc8)
            obtain ⟨g8, c8, rfl⟩ := ownsRow_succ hown8
            refine hK.out _ _ ?_ (fun hHeld3 => ?_)
            · exact hSx _ hxx
            clear hK K hown8 hgr8 hloc8
            (try simp only [Act.put, List.setIfInBounds_toArray, List.set_cons_zero, List.set_cons_succ])
            refine wpAnyH_take (i := 11) (oi := { dst := some 74, op := Go.Op.nilCheck (Go.Operand.tmp 63), type := 0, pos := _, after := #[{ on := 0, ground := Go.Ground.data }, { on := 0, ground := Go.Ground.phase }, { on := 1, ground := Go.Ground.phase }, { on := 2, ground := Go.Ground.phase }, { on := 3, ground := Go.Ground.phase }, { on := 4, ground := Go.Ground.phase }, { on := 5, ground := Go.Ground.phase }, { on := 6, ground := Go.Ground.phase }, { on := 7, ground := Go.Ground.phase }, { on := 8, ground := Go.Ground.phase }, { on := 9, ground := Go.Ground.phase }, { on := 10, ground := Go.Ground.phase }], guard := none }) (v := ?_) rfl (by kernel_rfl) (by kernel_rfl) (by kernel_rfl) (fun _ _ _ h => h) (Or.inl ⟨by rfl, ?_⟩) (by assumption) ?_
            rotate_left
            · intro w hSw; (try dsimp only at hSw); go_simp <;> first | with_reducible rfl | (rw [if_neg (by first | omega | (simp only [ByteArray.size_append] at *; omega))])
            simp only [Act.put, List.setIfInBounds_toArray, List.set_cons_zero, List.set_cons_succ]
            refine wpAnyH_take (i := 12) (oi := { dst := some 75, op := Go.Op.fieldAddr 91 (Go.Operand.tmp 74) 2, type := 0, pos := _, after := #[{ on := 11, ground := Go.Ground.data }, { on := 0, ground := Go.Ground.phase }, { on := 1, ground := Go.Ground.phase }, { on := 2, ground := Go.Ground.phase }, { on := 3, ground := Go.Ground.phase }, { on := 4, ground := Go.Ground.phase }, { on := 5, ground := Go.Ground.phase }, { on := 6, ground := Go.Ground.phase }, { on := 7, ground := Go.Ground.phase }, { on := 8, ground := Go.Ground.phase }, { on := 9, ground := Go.Ground.phase }, { on := 10, ground := Go.Ground.phase }], guard := none }) (v := ?_) rfl (by kernel_rfl) (by kernel_rfl) (by kernel_rfl) (fun _ _ _ h => h) (Or.inl ⟨by rfl, ?_⟩) (by assumption) ?_
            rotate_left
            · intro w hSw; (try dsimp only at hSw); go_simp <;> first | with_reducible rfl | (rw [if_neg (by first | omega | (simp only [ByteArray.size_append] at *; omega))])
            simp only [Act.put, List.setIfInBounds_toArray, List.set_cons_zero, List.set_cons_succ]
            refine wpAnyH_ready (rs := [13]) (by kernel_rfl) (by simp) ?_
            refine AllReadyH.cons (o := { dst := none, op := Go.Op.store 23 (Go.Operand.tmp 75) (Go.Operand.tmp 73), type := 0, pos := _, after := #[{ on := 12, ground := Go.Ground.data }, { on := 10, ground := Go.Ground.data }, { on := 10, ground := Go.Ground.chain }, { on := 0, ground := Go.Ground.phase }, { on := 1, ground := Go.Ground.phase }, { on := 2, ground := Go.Ground.phase }, { on := 3, ground := Go.Ground.phase }, { on := 4, ground := Go.Ground.phase }, { on := 5, ground := Go.Ground.phase }, { on := 6, ground := Go.Ground.phase }, { on := 7, ground := Go.Ground.phase }, { on := 8, ground := Go.Ground.phase }, { on := 9, ground := Go.Ground.phase }, { on := 10, ground := Go.Ground.phase }], guard := none }) rfl (fun K hK => ?_) AllReadyH.nil
            have z2 := (cell_of_row _ _ 2 _ 91 (0, 0) hbx).trans rfl
            have f2 : wa.frozen? ⟨c.wb, 2, none⟩ = false := frozen_of_row _ _ _ _ _ hbx
            go_simp
            refine hK.out _ _ ?_ (fun hHeld4 => ?_)
            · exact hSx _ ((Below.heap_setCell _ _ _ _ (by simp; exact HXW.out)).trans hxx)
            clear hK K
            refine wpAnyH_done (by kernel_rfl) ?_ _
            go_wp2_with (fail)
            (try simp only [Exit.inBlock, Exit.then])
            refine bodyPost_ret (results_none rfl _ _) rfl ?_
            exact HEND.out _ _ hFI.out hFM.out
          · go_simp
            have hbk5 := ((Below.refl wr.heap.size wr).drew).trans (((Below.refl (wr.drew).heap.size (wr.drew)).alloc (Nat.le_refl _) (.cells #[.int .u8 (op : Int), .int .i64 0, .int .i64 (ago : Int)] 38)).mono ((Below.refl wr.heap.size wr).drew).size)
            have HNX5 := hid (next_cells (wr.drew) [.int .u8 (op : Int), .int .i64 0, .int .i64 (ago : Int)] 38)
            refine hK.out _ _ ?_ (fun hHeld5 => ?_)
            · exact hSx _ (keep_row HXB.out hbk5)
            clear hK K
            (try simp only [Act.put, List.setIfInBounds_toArray, List.set_cons_zero, List.set_cons_succ])
            refine wpAnyH_ready (rs := [4]) (by kernel_rfl) (by simp) ?_
            refine AllReadyH.cons (o := { dst := some 67, op := Go.Op.load 23 (Go.Operand.tmp 66), type := 23, pos := _, after := #[{ on := 3, ground := Go.Ground.data }], guard := none }) rfl (fun K hK => ?_) AllReadyH.nil
            have qq : (((wr).alloc (.cells #[.int .u8 (op : Int), .int .i64 0, .int .i64 (ago : Int)] 38))).cell? ⟨c.wb, 2, none⟩ = some (.slice qa L2.length qc) := (S2.out.keep (hbk5)).cells.2.2
            go_simp
            refine hK.out _ _ ?_ (fun hHeld6 => ?_)
            · exact hSx _ (keep_row HXB.out (hbk5))
            clear hK K qq
            (try simp only [Act.put, List.setIfInBounds_toArray, List.set_cons_zero, List.set_cons_succ])
            refine wpAnyH_ready (rs := [10]) (by kernel_rfl) (by simp) ?_
            refine AllReadyH.cons (o := { dst := some 73, op := Go.Op.call { callee := Go.Callee.builtin Go.Builtin.append, args := #[Go.Operand.tmp 67, Go.Operand.tmp 72], argTypes := #[23, 23] }, type := 23, pos := _, after := #[{ on := 4, ground := Go.Ground.data }, { on := 9, ground := Go.Ground.data }], guard := none }) rfl (fun K hK => ?_) AllReadyH.nil
            refine if_take (by rfl) ?_
            refine wp_append_at (.tmp 67) (.tmp 72) 23 rfl c.lo 38 i0 _ 3 24 Tryd.underlying23 hi hz0 hz1 hz2 rfl (by decide) (.slice qa L2.length qc) _ _ rfl (S2.out.keep (hbk5)).row ⟨(wr.drew).heap.size, 0, none⟩ 1 1 [.int .u8 (op : Int), .int .i64 0, .int .i64 (ago : Int)] rfl rfl HNX5.out (by simp [Value.oneCell']) HLM.out HLB.out (Nat.le_trans HLO.out (hbk5).size) ?_
            intro v8 wa hown8 hgr8 _ hloc8
            have hbx := (hgr8.block _ (Array.getElem?_eq_some_iff.1 (S2.out.keep (hbk5)).box).1 (fun e => by have := (S2.out.keep (hbk5)).row.lt _ e.symm; omega)).trans (S2.out.keep (hbk5)).box
            have hxx := (hgr8.block _ (Array.getElem?_eq_some_iff.1 (keep_row HXB.out (hbk5))).1 (fun e => HXN.out e.symm)).trans (keep_row HXB.out (hbk5))
            have hFI := hid (WrS.app (x := ⟨op, 0, (ago : Int)⟩) (S2.out.keep (hbk5)) hown8 hgr8)
            have hFM := hid (Mvd.app (wb := c.wb) (hbk5) hgr8 hloc8)
            obtain ⟨g8, c8, rfl⟩ := ownsRow_succ hown8
            refine hK.out _ _ ?_ (fun hHeld7 => ?_)
            · exact hSx _ hxx
            clear hK K hown8 hgr8 hloc8
            (try simp only [Act.put, List.setIfInBounds_toArray, List.set_cons_zero, List.set_cons_succ])
            refine wpAnyH_take (i := 11) (oi := { dst := some 74, op := Go.Op.nilCheck (Go.Operand.tmp 63), type := 0, pos := _, after := #[{ on := 0, ground := Go.Ground.data }, { on := 0, ground := Go.Ground.phase }, { on := 1, ground := Go.Ground.phase }, { on := 2, ground := Go.Ground.phase }, { on := 3, ground := Go.Ground.phase }, { on := 4, ground := Go.Ground.phase }, { on := 5, ground := Go.Ground.phase }, { on := 6, ground := Go.Ground.phase }, { on := 7, ground := Go.Ground.phase }, { on := 8, ground := Go.Ground.phase }, { on := 9, ground := Go.Ground.phase }, { on := 10, ground := Go.Ground.phase }], guard := none }) (v := ?_) rfl (by kernel_rfl) (by kernel_rfl) (by kernel_rfl) (fun _ _ _ h => h) (Or.inl ⟨by rfl, ?_⟩) (by assumption) ?_
            rotate_left
            · intro w hSw; (try dsimp only at hSw); go_simp <;> first | with_reducible rfl | (rw [if_neg (by first | omega | (simp only [ByteArray.size_append] at *; omega))])
            simp only [Act.put, List.setIfInBounds_toArray, List.set_cons_zero, List.set_cons_succ]
            refine wpAnyH_take (i := 12) (oi := { dst := some 75, op := Go.Op.fieldAddr 91 (Go.Operand.tmp 74) 2, type := 0, pos := _, after := #[{ on := 11, ground := Go.Ground.data }, { on := 0, ground := Go.Ground.phase }, { on := 1, ground := Go.Ground.phase }, { on := 2, ground := Go.Ground.phase }, { on := 3, ground := Go.Ground.phase }, { on := 4, ground := Go.Ground.phase }, { on := 5, ground := Go.Ground.phase }, { on := 6, ground := Go.Ground.phase }, { on := 7, ground := Go.Ground.phase }, { on := 8, ground := Go.Ground.phase }, { on := 9, ground := Go.Ground.phase }, { on := 10, ground := Go.Ground.phase }], guard := none }) (v := ?_) rfl (by kernel_rfl) (by kernel_rfl) (by kernel_rfl) (fun _ _ _ h => h) (Or.inl ⟨by rfl, ?_⟩) (by assumption) ?_
            rotate_left
            · intro w hSw; (try dsimp only at hSw); go_simp <;> first | with_reducible rfl | (rw [if_neg (by first | omega | (simp only [ByteArray.size_append] at *; omega))])
            simp only [Act.put, List.setIfInBounds_toArray, List.set_cons_zero, List.set_cons_succ]
            refine wpAnyH_ready (rs := [13]) (by kernel_rfl) (by simp) ?_
            refine AllReadyH.cons (o := { dst := none, op := Go.Op.store 23 (Go.Operand.tmp 75) (Go.Operand.tmp 73), type := 0, pos := _, after := #[{ on := 12, ground := Go.Ground.data }, { on := 10, ground := Go.Ground.data }, { on := 10, ground := Go.Ground.chain }, { on := 0, ground := Go.Ground.phase }, { on := 1, ground := Go.Ground.phase }, { on := 2, ground := Go.Ground.phase }, { on := 3, ground := Go.Ground.phase }, { on := 4, ground := Go.Ground.phase }, { on := 5, ground := Go.Ground.phase }, { on := 6, ground := Go.Ground.phase }, { on := 7, ground := Go.Ground.phase }, { on := 8, ground := Go.Ground.phase }, { on := 9, ground := Go.Ground.phase }, { on := 10, ground := Go.Ground.phase }], guard := none }) rfl (fun K hK => ?_) AllReadyH.nil
            have z2 := (cell_of_row _ _ 2 _ 91 (0, 0) hbx).trans rfl
            have f2 : wa.frozen? ⟨c.wb, 2, none⟩ = false := frozen_of_row _ _ _ _ _ hbx
            go_simp
            refine hK.out _ _ ?_ (fun hHeld8 => ?_)
            · exact hSx _ ((Below.heap_setCell _ _ _ _ (by simp; exact HXW.out)).trans hxx)
            clear hK K
            refine wpAnyH_done (by kernel_rfl) ?_ _
            go_wp2_with (fail)
            (try simp only [Exit.inBlock, Exit.then])
            refine bodyPost_ret (results_none rfl _ _) rfl ?_
            exact HEND.out _ _ hFI.out hFM.out
        have b3 : ((op : Int) == 3) = false := by rw [beq_eq_false_iff_ne]; omega
        have b18 : ((op : Int) == 18) = false := by rw [beq_eq_false_iff_ne]; omega
        have HLW : Hid (lastW c.T c.late op n nm ago = [⟨op, n, 0⟩]) := hid (by unfold lastW; rw [if_neg H19.out, if_neg h3, if_neg h18])
        clear h3 h18
        generalize hL2 : L ++ FL c.T c.late ago args = L2 at *
        have HQ2 := hid hL2
        clear hL2
        obtain ⟨qa, qc, rfl⟩ : ∃ a c, dv2 = .slice a L2.length c := by
          rcases S2.out.row.2 with ⟨h, h0⟩ | ⟨g, cap', cur, h, _⟩
          · exact ⟨none, 0, by rw [h, h0]⟩
          · exact ⟨_, _, h⟩
        have HXN : Hid ((Value.slice qa L2.length qc).ownBlock ≠ some W.heap.size) := hid (fun e => by
          rcases M2.out.own _ e with h | h
          · exact HXO.out h
          · rw [HV1.out] at h; omega)
        have HLL : Hid (L2.length ≤ 100000) := hid (by have := HLN.out; rw [← HQ2.out, List.length_append]; omega)
        have HLM : Hid (L2.length + 1 ≤ maxLen) := hid (by have := HLL.out; unfold maxLen; omega)
        have HLB : Hid ((L2.length + 1) * 24 ≤ 140737488355328) := hid (by have := HLL.out; omega)
        have HLO : Hid (c.lo ≤ wr.heap.size) := hid S2.out.l5
        have HL3 := S2.out.l3
        have HL2' := S2.out.l2
        have hSx : ∀ V : World, V.heap[W.heap.size]? = some (.cells #[.int .u8 (op : Int), .int .i64 n, .string nm, .slice ao args.length cap] 70 (0, 0)) → V.cell? ⟨W.heap.size, 0, none⟩ = some (.int .u8 (op : Int)) ∧ V.cell? ⟨W.heap.size, 1, none⟩ = some (.int .i64 n) ∧ V.cell? ⟨W.heap.size, 2, none⟩ = some (.string nm) := fun V h => ⟨(cell_of_row _ _ 0 _ 70 (0, 0) h).trans rfl, (cell_of_row _ _ 1 _ 70 (0, 0) h).trans rfl, (cell_of_row _ _ 2 _ 70 (0, 0) h).trans rfl⟩
        have HEND : Hid (∀ v' wa', WrS c (L2 ++ [⟨op, n, 0⟩]) v' wa' → Mvd c.wb (.slice qa L2.length qc) v' wr wa' → WrE c (L ++ wrF c.T c.late ⟨op, n, nm, args⟩ ago) dv W (.returned (.tuple #[])) wa') := hid (fun v' wa' h1 h2 => ⟨rfl, v', by rw [HW.out, HLW.out, ← List.append_assoc, HQ2.out]; exact h1, (M1.out.trans M2.out).trans h2⟩)
        go_wp2_with (fail)
        refine wp_region_held_drew (S := fun V => V.cell? ⟨W.heap.size, 0, none⟩ = some (.int .u8 (op : Int)) ∧ V.cell? ⟨W.heap.size, 1, none⟩ = some (.int .i64 n) ∧ V.cell? ⟨W.heap.size, 2, none⟩ = some (.string nm)) (by kernel_rfl) ?_ (fun hHeld => ?_)
        · exact hSx _ HXB.out
        refine wpAnyH_take (i := 0) (oi := { dst := some 29, op := Go.Op.move (Go.Operand.tmp 0), type := 127, pos := _, after := #[], guard := none }) (v := ?_) rfl (by kernel_rfl) (by kernel_rfl) (by kernel_rfl) (fun _ _ _ h => h) (Or.inl ⟨by rfl, ?_⟩) (by assumption) ?_
        rotate_left
        · intro w hSw; (try dsimp only at hSw); go_simp <;> first | with_reducible rfl | (rw [if_neg (by first | omega | (simp only [ByteArray.size_append] at *; omega))])
        simp only [Act.put, List.setIfInBounds_toArray, List.set_cons_zero, List.set_cons_succ]
        refine wpAnyH_take (i := 1) (oi := { dst := some 30, op := Go.Op.move (Go.Operand.tmp 0), type := 127, pos := _, after := #[], guard := none }) (v := ?_) rfl (by kernel_rfl) (by kernel_rfl) (by kernel_rfl) (fun _ _ _ h => h) (Or.inl ⟨by rfl, ?_⟩) (by assumption) ?_
        rotate_left
        · intro w hSw; (try dsimp only at hSw); go_simp <;> first | with_reducible rfl | (rw [if_neg (by first | omega | (simp only [ByteArray.size_append] at *; omega))])
        simp only [Act.put, List.setIfInBounds_toArray, List.set_cons_zero, List.set_cons_succ]
        refine wpAnyH_take (i := 2) (oi := { dst := some 31, op := Go.Op.nilCheck (Go.Operand.tmp 30), type := 0, pos := _, after := #[{ on := 1, ground := Go.Ground.data }], guard := none }) (v := ?_) rfl (by kernel_rfl) (by kernel_rfl) (by kernel_rfl) (fun _ _ _ h => h) (Or.inl ⟨by rfl, ?_⟩) (by assumption) ?_
        rotate_left
        · intro w hSw; (try dsimp only at hSw); go_simp <;> first | with_reducible rfl | (rw [if_neg (by first | omega | (simp only [ByteArray.size_append] at *; omega))])
        simp only [Act.put, List.setIfInBounds_toArray, List.set_cons_zero, List.set_cons_succ]
        refine wpAnyH_take (i := 3) (oi := { dst := some 32, op := Go.Op.fieldAddr 91 (Go.Operand.tmp 31) 2, type := 0, pos := _, after := #[{ on := 2, ground := Go.Ground.data }], guard := none }) (v := ?_) rfl (by kernel_rfl) (by kernel_rfl) (by kernel_rfl) (fun _ _ _ h => h) (Or.inl ⟨by rfl, ?_⟩) (by assumption) ?_
        rotate_left
        · intro w hSw; (try dsimp only at hSw); go_simp <;> first | with_reducible rfl | (rw [if_neg (by first | omega | (simp only [ByteArray.size_append] at *; omega))])
        simp only [Act.put, List.setIfInBounds_toArray, List.set_cons_zero, List.set_cons_succ]
        refine wpAnyH_take (i := 5) (oi := { dst := some 34, op := Go.Op.fieldAddr 70 (Go.Operand.tmp 4) 0, type := 0, pos := _, after := #[], guard := none }) (v := ?_) rfl (by kernel_rfl) (by kernel_rfl) (by kernel_rfl) (fun _ _ _ h => h) (Or.inl ⟨by rfl, ?_⟩) (by assumption) ?_
        rotate_left
        · intro w hSw; (try dsimp only at hSw); go_simp <;> first | with_reducible rfl | (rw [if_neg (by first | omega | (simp only [ByteArray.size_append] at *; omega))])
        simp only [Act.put, List.setIfInBounds_toArray, List.set_cons_zero, List.set_cons_succ]
        refine wpAnyH_take (i := 6) (oi := { dst := some 35, op := Go.Op.load 36 (Go.Operand.tmp 34), type := 36, pos := _, after := #[{ on := 5, ground := Go.Ground.data }], guard := none }) (v := ?_) rfl (by kernel_rfl) (by kernel_rfl) (by kernel_rfl) (fun _ _ _ h => h) (Or.inl ⟨by rfl, ?_⟩) (by assumption) ?_
        rotate_left
        · intro w hSw; (try dsimp only at hSw); go_simp <;> first | with_reducible rfl | (rw [if_neg (by first | omega | (simp only [ByteArray.size_append] at *; omega))])
        simp only [Act.put, List.setIfInBounds_toArray, List.set_cons_zero, List.set_cons_succ]
        refine wpAnyH_take (i := 7) (oi := { dst := some 36, op := Go.Op.fieldAddr 70 (Go.Operand.tmp 4) 1, type := 0, pos := _, after := #[], guard := none }) (v := ?_) rfl (by kernel_rfl) (by kernel_rfl) (by kernel_rfl) (fun _ _ _ h => h) (Or.inl ⟨by rfl, ?_⟩) (by assumption) ?_
        rotate_left
        · intro w hSw; (try dsimp only at hSw); go_simp <;> first | with_reducible rfl | (rw [if_neg (by first | omega | (simp only [ByteArray.size_append] at *; omega))])
        simp only [Act.put, List.setIfInBounds_toArray, List.set_cons_zero, List.set_cons_succ]
        refine wpAnyH_take (i := 8) (oi := { dst := some 37, op := Go.Op.load 2 (Go.Operand.tmp 36), type := 2, pos := _, after := #[{ on := 7, ground := Go.Ground.data }], guard := none }) (v := ?_) rfl (by kernel_rfl) (by kernel_rfl) (by kernel_rfl) (fun _ _ _ h => h) (Or.inl ⟨by rfl, ?_⟩) (by assumption) ?_
        rotate_left
        · intro w hSw; (try dsimp only at hSw); go_simp <;> first | with_reducible rfl | (rw [if_neg (by first | omega | (simp only [ByteArray.size_append] at *; omega))])
        simp only [Act.put, List.setIfInBounds_toArray, List.set_cons_zero, List.set_cons_succ]
        refine wpAnyH_take (i := 9) (oi := { dst := some 38, op := Go.Op.build 38 #[(0, Go.Operand.tmp 35), (1, Go.Operand.tmp 37)], type := 38, pos := _, after := #[{ on := 6, ground := Go.Ground.data }, { on := 8, ground := Go.Ground.data }], guard := none }) (v := ?_) rfl (by kernel_rfl) (by kernel_rfl) (by kernel_rfl) (fun _ _ _ h => h) (Or.inl ⟨by rfl, ?_⟩) (by assumption) ?_
        rotate_left
        · intro w hSw; (try dsimp only at hSw); go_simp <;> first | with_reducible rfl | (rw [if_neg (by first | omega | (simp only [ByteArray.size_append] at *; omega))])
        simp only [Act.put, List.setIfInBounds_toArray, List.set_cons_zero, List.set_cons_succ]
        refine wpAnyH_ready (rs := [4, 10]) (by kernel_rfl) (by simp) ?_
        refine AllReadyH.cons (o := { dst := some 33, op := Go.Op.load 23 (Go.Operand.tmp 32), type := 23, pos := _, after := #[{ on := 3, ground := Go.Ground.data }], guard := none }) rfl (fun K hK => ?_) (AllReadyH.cons (o := { dst := some 39, op := Go.Op.buildSlice 23 1 #[(0, Go.Operand.tmp 38)], type := 23, pos := _, after := #[{ on := 9, ground := Go.Ground.data }], guard := none }) rfl (fun K hK => ?_) AllReadyH.nil)
        · have qq : (wr).cell? ⟨c.wb, 2, none⟩ = some (.slice qa L2.length qc) := (S2.out.keep ((Below.refl wr.heap.size wr).drew)).cells.2.2
          go_simp
          refine hK.out _ _ ?_ (fun hHeld1 => ?_)
          · exact hSx _ (keep_row HXB.out ((Below.refl wr.heap.size wr).drew))
          clear hK K qq
          (try simp only [Act.put, List.setIfInBounds_toArray, List.set_cons_zero, List.set_cons_succ])
          refine wpAnyH_ready (rs := [10]) (by kernel_rfl) (by simp) ?_
          refine AllReadyH.cons (o := { dst := some 39, op := Go.Op.buildSlice 23 1 #[(0, Go.Operand.tmp 38)], type := 23, pos := _, after := #[{ on := 9, ground := Go.Ground.data }], guard := none }) rfl (fun K hK => ?_) AllReadyH.nil
          go_simp
          have hbk2 := ((Below.refl wr.heap.size wr).drew).trans (((Below.refl (wr.drew).heap.size (wr.drew)).alloc (Nat.le_refl _) (.cells #[.int .u8 (op : Int), .int .i64 n, .int .i64 0] 38)).mono ((Below.refl wr.heap.size wr).drew).size)
          have HNX2 := hid (next_cells (wr.drew) [.int .u8 (op : Int), .int .i64 n, .int .i64 0] 38)
          refine hK.out _ _ ?_ (fun hHeld2 => ?_)
          · exact hSx _ (keep_row HXB.out hbk2)
          clear hK K
          (try simp only [Act.put, List.setIfInBounds_toArray, List.set_cons_zero, List.set_cons_succ])
          refine wpAnyH_ready (rs := [11]) (by kernel_rfl) (by simp) ?_
          refine AllReadyH.cons (o := { dst := some 40, op := Go.Op.call { callee := Go.Callee.builtin Go.Builtin.append, args := #[Go.Operand.tmp 33, Go.Operand.tmp 39], argTypes := #[23, 23] }, type := 23, pos := _, after := #[{ on := 4, ground := Go.Ground.data }, { on := 10, ground := Go.Ground.data }], guard := none }) rfl (fun K hK => ?_) AllReadyH.nil
          refine if_take (by rfl) ?_
          refine wp_append_at (.tmp 33) (.tmp 39) 23 rfl c.lo 38 i0 _ 3 24 Tryd.underlying23 hi hz0 hz1 hz2 rfl (by decide) (.slice qa L2.length qc) _ _ rfl (S2.out.keep (hbk2)).row ⟨(wr.drew).heap.size, 0, none⟩ 1 1 [.int .u8 (op : Int), .int .i64 n, .int .i64 0] rfl rfl HNX2.out (by simp [Value.oneCell']) HLM.out HLB.out (Nat.le_trans HLO.out (hbk2).size) ?_
          intro v8 wa hown8 hgr8 _ hloc8
          have hbx := (hgr8.block _ (Array.getElem?_eq_some_iff.1 (S2.out.keep (hbk2)).box).1 (fun e => by have := (S2.out.keep (hbk2)).row.lt _ e.symm; omega)).trans (S2.out.keep (hbk2)).box
          have hxx := (hgr8.block _ (Array.getElem?_eq_some_iff.1 (keep_row HXB.out (hbk2))).1 (fun e => HXN.out e.symm)).trans (keep_row HXB.out (hbk2))
          have hFI := hid (WrS.app (x := ⟨op, n, 0⟩) (S2.out.keep (hbk2)) hown8 hgr8)
          have hFM := hid (Mvd.app (wb := c.wb) (hbk2) hgr8 hloc8)
          obtain ⟨g8, c8, rfl⟩ := ownsRow_succ hown8
          refine hK.out _ _ ?_ (fun hHeld3 => ?_)
          · exact hSx _ hxx
          clear hK K hown8 hgr8 hloc8
          (try simp only [Act.put, List.setIfInBounds_toArray, List.set_cons_zero, List.set_cons_succ])
          refine wpAnyH_take (i := 12) (oi := { dst := some 41, op := Go.Op.nilCheck (Go.Operand.tmp 29), type := 0, pos := _, after := #[{ on := 0, ground := Go.Ground.data }, { on := 0, ground := Go.Ground.phase }, { on := 1, ground := Go.Ground.phase }, { on := 2, ground := Go.Ground.phase }, { on := 3, ground := Go.Ground.phase }, { on := 4, ground := Go.Ground.phase }, { on := 5, ground := Go.Ground.phase }, { on := 6, ground := Go.Ground.phase }, { on := 7, ground := Go.Ground.phase }, { on := 8, ground := Go.Ground.phase }, { on := 9, ground := Go.Ground.phase }, { on := 10, ground := Go.Ground.phase }, { on := 11, ground := Go.Ground.phase }], guard := none }) (v := ?_) rfl (by kernel_rfl) (by kernel_rfl) (by kernel_rfl) (fun _ _ _ h => h) (Or.inl ⟨by rfl, ?_⟩) (by assumption) ?_
          rotate_left
          · intro w hSw; (try dsimp only at hSw); go_simp <;> first | with_reducible rfl | (rw [if_neg (by first | omega | (simp only [ByteArray.size_append] at *; omega))])
          simp only [Act.put, List.setIfInBounds_toArray, List.set_cons_zero, List.set_cons_succ]
          refine wpAnyH_take (i := 13) (oi := { dst := some 42, op := Go.Op.fieldAddr 91 (Go.Operand.tmp 41) 2, type := 0, pos := _, after := #[{ on := 12, ground := Go.Ground.data }, { on := 0, ground := Go.Ground.phase }, { on := 1, ground := Go.Ground.phase }, { on := 2, ground := Go.Ground.phase }, { on := 3, ground := Go.Ground.phase }, { on := 4, ground := Go.Ground.phase }, { on := 5, ground := Go.Ground.phase }, { on := 6, ground := Go.Ground.phase }, { on := 7, ground := Go.Ground.phase }, { on := 8, ground := Go.Ground.phase }, { on := 9, ground := Go.Ground.phase }, { on := 10, ground := Go.Ground.phase }, { on := 11, ground := Go.Ground.phase }], guard := none }) (v := ?_) rfl (by kernel_rfl) (by kernel_rfl) (by kernel_rfl) (fun _ _ _ h => h) (Or.inl ⟨by rfl, ?_⟩) (by assumption) ?_
          rotate_left
          · intro w hSw; (try dsimp only at hSw); go_simp <;> first | with_reducible rfl | (rw [if_neg (by first | omega | (simp only [ByteArray.size_append] at *; omega))])
          simp only [Act.put, List.setIfInBounds_toArray, List.set_cons_zero, List.set_cons_succ]
          refine wpAnyH_ready (rs := [14]) (by kernel_rfl) (by simp) ?_
          refine AllReadyH.cons (o := { dst := none, op := Go.Op.store 23 (Go.Operand.tmp 42) (Go.Operand.tmp 40), type := 0, pos := _, after := #[{ on := 13, ground := Go.Ground.data }, { on := 11, ground := Go.Ground.data }, { on := 11, ground := Go.Ground.chain }, { on := 0, ground := Go.Ground.phase }, { on := 1, ground := Go.Ground.phase }, { on := 2, ground := Go.Ground.phase }, { on := 3, ground := Go.Ground.phase }, { on := 4, ground := Go.Ground.phase }, { on := 5, ground := Go.Ground.phase }, { on := 6, ground := Go.Ground.phase }, { on := 7, ground := Go.Ground.phase }, { on := 8, ground := Go.Ground.phase }, { on := 9, ground := Go.Ground.phase }, { on := 10, ground := Go.Ground.phase }, { on := 11, ground := Go.Ground.phase }], guard := none }) rfl (fun K hK => ?_) AllReadyH.nil
          have z2 := (cell_of_row _ _ 2 _ 91 (0, 0) hbx).trans rfl
          have f2 : wa.frozen? ⟨c.wb, 2, none⟩ = false := frozen_of_row _ _ _ _ _ hbx
          go_simp
          refine hK.out _ _ ?_ (fun hHeld4 => ?_)
          · exact hSx _ ((Below.heap_setCell _ _ _ _ (by simp; exact HXW.out)).trans hxx)
          clear hK K
          refine wpAnyH_done (by kernel_rfl) ?_ _
          go_wp2_with (fail)
          (try simp only [Exit.inBlock, Exit.then])
          refine bodyPost_ret (results_none rfl _ _) rfl ?_
          exact HEND.out _ _ hFI.out hFM.out
        · go_simp
          have hbk5 := ((Below.refl wr.heap.size wr).drew).trans (((Below.refl (wr.drew).heap.size (wr.drew)).alloc (Nat.le_refl _) (.cells #[.int .u8 (op : Int), .int .i64 n, .int .i64 0] 38)).mono ((Below.refl wr.heap.size wr).drew).size)
          have HNX5 := hid (next_cells (wr.drew) [.int .u8 (op : Int), .int .i64 n, .int .i64 0] 38)
          refine hK.out _ _ ?_ (fun hHeld5 => ?_)
          · exact hSx _ (keep_row HXB.out hbk5)
          clear hK K
          (try simp only [Act.put, List.setIfInBounds_toArray, List.set_cons_zero, List.set_cons_succ])
          refine wpAnyH_ready (rs := [4]) (by kernel_rfl) (by simp) ?_
          refine AllReadyH.cons (o := { dst := some 33, op := Go.Op.load 23 (Go.Operand.tmp 32), type := 23, pos := _, after := #[{ on := 3, ground := Go.Ground.data }], guard := none }) rfl (fun K hK => ?_) AllReadyH.nil
          have qq : (((wr).alloc (.cells #[.int .u8 (op : Int), .int .i64 n, .int .i64 0] 38))).cell? ⟨c.wb, 2, none⟩ = some (.slice qa L2.length qc) := (S2.out.keep (hbk5)).cells.2.2
          go_simp
          refine hK.out _ _ ?_ (fun hHeld6 => ?_)
          · exact hSx _ (keep_row HXB.out (hbk5))
          clear hK K qq
          (try simp only [Act.put, List.setIfInBounds_toArray, List.set_cons_zero, List.set_cons_succ])
          refine wpAnyH_ready (rs := [11]) (by kernel_rfl) (by simp) ?_
          refine AllReadyH.cons (o := { dst := some 40, op := Go.Op.call { callee := Go.Callee.builtin Go.Builtin.append, args := #[Go.Operand.tmp 33, Go.Operand.tmp 39], argTypes := #[23, 23] }, type := 23, pos := _, after := #[{ on := 4, ground := Go.Ground.data }, { on := 10, ground := Go.Ground.data }], guard := none }) rfl (fun K hK => ?_) AllReadyH.nil
          refine if_take (by rfl) ?_
          refine wp_append_at (.tmp 33) (.tmp 39) 23 rfl c.lo 38 i0 _ 3 24 Tryd.underlying23 hi hz0 hz1 hz2 rfl (by decide) (.slice qa L2.length qc) _ _ rfl (S2.out.keep (hbk5)).row ⟨(wr.drew).heap.size, 0, none⟩ 1 1 [.int .u8 (op : Int), .int .i64 n, .int .i64 0] rfl rfl HNX5.out (by simp [Value.oneCell']) HLM.out HLB.out (Nat.le_trans HLO.out (hbk5).size) ?_
          intro v8 wa hown8 hgr8 _ hloc8
          have hbx := (hgr8.block _ (Array.getElem?_eq_some_iff.1 (S2.out.keep (hbk5)).box).1 (fun e => by have := (S2.out.keep (hbk5)).row.lt _ e.symm; omega)).trans (S2.out.keep (hbk5)).box
          have hxx := (hgr8.block _ (Array.getElem?_eq_some_iff.1 (keep_row HXB.out (hbk5))).1 (fun e => HXN.out e.symm)).trans (keep_row HXB.out (hbk5))
          have hFI := hid (WrS.app (x := ⟨op, n, 0⟩) (S2.out.keep (hbk5)) hown8 hgr8)
          have hFM := hid (Mvd.app (wb := c.wb) (hbk5) hgr8 hloc8)
          obtain ⟨g8, c8, rfl⟩ := ownsRow_succ hown8
          refine hK.out _ _ ?_ (fun hHeld7 => ?_)
          · exact hSx _ hxx
          clear hK K hown8 hgr8 hloc8
          (try simp only [Act.put, List.setIfInBounds_toArray, List.set_cons_zero, List.set_cons_succ])
          refine wpAnyH_take (i := 12) (oi := { dst := some 41, op := Go.Op.nilCheck (Go.Operand.tmp 29), type := 0, pos := _, after := #[{ on := 0, ground := Go.Ground.data }, { on := 0, ground := Go.Ground.phase }, { on := 1, ground := Go.Ground.phase }, { on := 2, ground := Go.Ground.phase }, { on := 3, ground := Go.Ground.phase }, { on := 4, ground := Go.Ground.phase }, { on := 5, ground := Go.Ground.phase }, { on := 6, ground := Go.Ground.phase }, { on := 7, ground := Go.Ground.phase }, { on := 8, ground := Go.Ground.phase }, { on := 9, ground := Go.Ground.phase }, { on := 10, ground := Go.Ground.phase }, { on := 11, ground := Go.Ground.phase }], guard := none }) (v := ?_) rfl (by kernel_rfl) (by kernel_rfl) (by kernel_rfl) (fun _ _ _ h => h) (Or.inl ⟨by rfl, ?_⟩) (by assumption) ?_
          rotate_left
          · intro w hSw; (try dsimp only at hSw); go_simp <;> first | with_reducible rfl | (rw [if_neg (by first | omega | (simp only [ByteArray.size_append] at *; omega))])
          simp only [Act.put, List.setIfInBounds_toArray, List.set_cons_zero, List.set_cons_succ]
          refine wpAnyH_take (i := 13) (oi := { dst := some 42, op := Go.Op.fieldAddr 91 (Go.Operand.tmp 41) 2, type := 0, pos := _, after := #[{ on := 12, ground := Go.Ground.data }, { on := 0, ground := Go.Ground.phase }, { on := 1, ground := Go.Ground.phase }, { on := 2, ground := Go.Ground.phase }, { on := 3, ground := Go.Ground.phase }, { on := 4, ground := Go.Ground.phase }, { on := 5, ground := Go.Ground.phase }, { on := 6, ground := Go.Ground.phase }, { on := 7, ground := Go.Ground.phase }, { on := 8, ground := Go.Ground.phase }, { on := 9, ground := Go.Ground.phase }, { on := 10, ground := Go.Ground.phase }, { on := 11, ground := Go.Ground.phase }], guard := none }) (v := ?_) rfl (by kernel_rfl) (by kernel_rfl) (by kernel_rfl) (fun _ _ _ h => h) (Or.inl ⟨by rfl, ?_⟩) (by assumption) ?_
          rotate_left
          · intro w hSw; (try dsimp only at hSw); go_simp <;> first | with_reducible rfl | (rw [if_neg (by first | omega | (simp only [ByteArray.size_append] at *; omega))])
          simp only [Act.put, List.setIfInBounds_toArray, List.set_cons_zero, List.set_cons_succ]
          refine wpAnyH_ready (rs := [14]) (by kernel_rfl) (by simp) ?_
          refine AllReadyH.cons (o := { dst := none, op := Go.Op.store 23 (Go.Operand.tmp 42) (Go.Operand.tmp 40), type := 0, pos := _, after := #[{ on := 13, ground := Go.Ground.data }, { on := 11, ground := Go.Ground.data }, { on := 11, ground := Go.Ground.chain }, { on := 0, ground := Go.Ground.phase }, { on := 1, ground := Go.Ground.phase }, { on := 2, ground := Go.Ground.phase }, { on := 3, ground := Go.Ground.phase }, { on := 4, ground := Go.Ground.phase }, { on := 5, ground := Go.Ground.phase }, { on := 6, ground := Go.Ground.phase }, { on := 7, ground := Go.Ground.phase }, { on := 8, ground := Go.Ground.phase }, { on := 9, ground := Go.Ground.phase }, { on := 10, ground := Go.Ground.phase }, { on := 11, ground := Go.Ground.phase }], guard := none }) rfl (fun K hK => ?_) AllReadyH.nil
          have z2 := (cell_of_row _ _ 2 _ 91 (0, 0) hbx).trans rfl
          have f2 : wa.frozen? ⟨c.wb, 2, none⟩ = false := frozen_of_row _ _ _ _ _ hbx
          go_simp
          refine hK.out _ _ ?_ (fun hHeld8 => ?_)
          · exact hSx _ ((Below.heap_setCell _ _ _ _ (by simp; exact HXW.out)).trans hxx)
          clear hK K
          refine wpAnyH_done (by kernel_rfl) ?_ _
          go_wp2_with (fail)
          (try simp only [Exit.inBlock, Exit.then])
          refine bodyPost_ret (results_none rfl _ _) rfl ?_
          exact HEND.out _ _ hFI.out hFM.out
end Go.Proofs.YtdenddknbmiboaaDoor.Lex
namespace Go.Proofs.YtdenddknbmiboaaDoor.Lex
open Go.ChangeShapes Go.WideShapes Go.ChangeAt Go.RowKit Go.Joins
attribute [local go_sem] Oper.semAt_some
theorem wpList_mapUpd {P : Program} {w w' : World} {ops : Array Oper} {rest : List Oper} {o : Oper} {a : Act} {Q : Exit → Act → World → Prop} (hg : o.guard = none) (m x v : Operand) (t : TypeId) (hop : o.op = Op.mapUpdate t m x v)
    (hrun : (Instr.mapUpdate t (a.eval m) (a.eval x) (a.eval v)).run P w = .ok () w') (hK : wpList P ops Q rest (a.put o.dst undef) w') : wpList P ops Q (o :: rest) a w := by
  refine wpList_plain hg fun K hk => ?_
  unfold Oper.wp execOp
  simp only [hop, Sem.run_bind, hrun, Result.andThen_ok, Sem.run_pure]
  exact hk _ _ hK
/-- The rounds from an instant on till a place has its value. -/
def sncF (p : Pg) (l : List Int) (x : Plc) : Int := (if 0 ≤ plO (findT (thingsL p) x.name) then lateAt l (plO (findT (thingsL p) x.name)) else 0) + (if x.far = true then 1 else 0)
/-- The places of names. -/
def srcK (p : Pg) (l : List Int) (ps : List Plc) : Nat → List UInt8 → Int × Int
  | 0 => fun _ => (0, 0)
  | k + 1 => fun u => match ps[k]? with
    | some x => if u = x.name.data.toList then ((k : Int), sncF p l x) else srcK p l ps k u
    | none => srcK p l ps k u
theorem srcK_succ (p : Pg) (l : List Int) {ps : List Plc} {k : Nat} (h : k < ps.length) : srcK p l ps (k + 1) = fun u => if u = ps[k].name.data.toList then ((k : Int), sncF p l ps[k]) else srcK p l ps k u := by
  funext u
  show (match ps[k]? with | some x => _ | none => _) = _
  rw [List.getElem?_eq_getElem h]
/-- While they are gathered. -/
structure SrS (w : World) (p : Pg) (A B C : Value) (n : Nat) (T : List UInt8 → Int × Int) (W : World) : Prop where
  box : W.heap[w.heap.size]? = some (.cells (pgC p A B C) 46 (0, 0))
  map : TMap W (w.heap.size + 1) n T
  below : Below w.heap.size w W
theorem SrS.keep {w W W' : World} {p : Pg} {A B C : Value} {n : Nat} {T : List UInt8 → Int × Int} (h : SrS w p A B C n T W) (hb : Below W.heap.size W W') : SrS w p A B C n T W' := ⟨keep_row h.box hb, h.map.keep hb, h.below.trans (hb.mono h.below.size)⟩
theorem SrS.set {w W : World} {p : Pg} {A B C : Value} {n : Nat} {T : List UInt8 → Int × Int} (h : SrS w p A B C n T W) (b o : Nat) (v : Value) (hb : w.heap.size + 1 < b) : SrS w p A B C n T (W.setCell ⟨b, o, none⟩ v) := ⟨(Below.heap_setCell _ _ _ _ (by simp; omega)).trans h.box, h.map.block (Below.heap_setCell _ _ _ _ (by simp; omega)), h.below.setCell (p := ⟨b, o, none⟩) (by simp; omega) _⟩
theorem SrS.put {w W W' : World} {p : Pg} {A B C : Value} {n n' : Nat} {T T' : List UInt8 → Int × Int} (h : SrS w p A B C n T W) (hm : TMap W' (w.heap.size + 1) n' T') (hg : W.grownBy W' (some (w.heap.size + 1))) : SrS w p A B C n' T' W' := ⟨(hg.block _ (Array.getElem?_eq_some_iff.1 h.box).1 (fun e => by injection e with e; omega)).trans h.box, hm, h.below.grown hg h.below.size (fun j hj => by injection hj with hj; omega)⟩
set_option maxRecDepth 100000 in
set_option maxHeartbeats 8000000 in
theorem sources_ (p : Pg) (l : List Int) (ps : List Plc) (lv pv : Value) (w : World) (A B C : Value) (hP : PgAt w p A B C) (hI : IAt w l lv) (hF : Fine l) (hR : PlR w pv ps) (hN : ∀ x ∈ ps, x.name.size ≤ 140737488355328) (hS : ∀ x ∈ ps, plO (findT (thingsL p) x.name) < (l.length : Int)) :
    Calls Tryd.prog 34 #[pgV p A B C, lv, pv] w fun e w' => e = .returned (.map (some (w.heap.size + 1))) ∧ (∃ n, TMap w' (w.heap.size + 1) n (srcK p l ps ps.length)) ∧ Below w.heap.size w w' := by
  have hmm := @run_makeMap Tryd.prog
  have HP := hid hP
  have HI := hid hI
  have HR := hid hR
  have HN := hid hN
  have HS := hid hS
  have HF := hid hF
  obtain ⟨A0, A1, rfl, _⟩ := hP.ins
  obtain ⟨B0, B1, _, rfl, _⟩ := hP.flows
  obtain ⟨C0, C1, rfl, _⟩ := hP.outs
  obtain ⟨la, lc, rfl, ⟨hlc, hlm⟩, _⟩ := hI
  obtain ⟨pa, pc, rfl, ⟨hpc, hpm⟩, hp0⟩ := hR
  have HC := hid hp0
  have hal := ((Below.refl w.heap.size w).alloc (Nat.le_refl _) (.cells (pgC p (.slice A0 p.ins.length A1) (.slice B0 p.flows.length B1) (.slice C0 p.outs.length C1)) 46)).alloc (by simp) (.map #[] 0)
  have X0 : Hid (SrS w p (.slice A0 p.ins.length A1) (.slice B0 p.flows.length B1) (.slice C0 p.outs.length C1) 0 (srcK p l ps 0) ((w.alloc (.cells (pgC p (.slice A0 p.ins.length A1) (.slice B0 p.flows.length B1) (.slice C0 p.outs.length C1)) 46)).alloc (.map #[] 0))) := hid ⟨push_old (heap_alloc_new _ _), by
    have h := TMap.new (w.alloc (.cells (pgC p (.slice A0 p.ins.length A1) (.slice B0 p.flows.length B1) (.slice C0 p.outs.length C1)) 46))
    rw [World.size_alloc] at h
    exact h, hal⟩
  clear hP hF hN hS hp0 hal
  go_enter Tryd.func34, Tryd.ntmps34
  go_wp2_with (fail)
  generalize ((w.alloc (.cells (pgC p (.slice A0 p.ins.length A1) (.slice B0 p.flows.length B1) (.slice C0 p.outs.length C1)) 46)).alloc (.map #[] 0)) = V0 at *
  go_loopw [18] (fun i wr => ∃ k : Nat, k ≤ ps.length ∧ i = .int .i64 (k : Int) ∧ Hid (SrS w p (.slice A0 p.ins.length A1) (.slice B0 p.flows.length B1) (.slice C0 p.outs.length C1) k (srcK p l ps k) wr)) (fun i _ => ps.length - (intOf i).toNat)
  case atStart => exact ⟨0, Nat.zero_le _, rfl, X0⟩
  case round =>
    obtain ⟨k, hk, rfl, HX⟩ := hrel
    by_cases hkl : k < ps.length
    · have hkl' : (k : Int) < (ps.length : Int) := by omega
      have hk0 : (0 : Int) ≤ (k : Int) := by omega
      obtain ⟨gg, o, rfl, hcc⟩ := HC.out.resolve_left (by intro e; rw [e] at hkl; simp at hkl)
      have y0 := cell_kept ((hcc k hkl 0 (by omega)).trans rfl) HX.out.below
      have y1 := cell_kept ((hcc k hkl 1 (by omega)).trans rfl) HX.out.below
      have y2 := cell_kept ((hcc k hkl 2 (by omega)).trans rfl) HX.out.below
      have y3 := cell_kept ((hcc k hkl 3 (by omega)).trans rfl) HX.out.below
      have y4 := cell_kept ((hcc k hkl 4 (by omega)).trans rfl) HX.out.below
      have y5 := cell_kept ((hcc k hkl 5 (by omega)).trans rfl) HX.out.below
      rw [Nat.add_zero] at y0
      clear hcc
      have HKS := hid (srcK_succ p l hkl)
      have HSN := hid (HS.out _ (List.getElem_mem hkl))
      have HNN := hid (HN.out _ (List.getElem_mem hkl))
      generalize ps[k] = x at *
      have HFO := hid (foV_eq (findT (thingsL p) x.name))
      have HSNC : Hid (sncF p l x = (if 0 ≤ plO (findT (thingsL p) x.name) then lateAt l (plO (findT (thingsL p) x.name)) else 0) + (if x.far = true then 1 else 0)) := hid rfl
      generalize sncF p l x = SN at *
      obtain ⟨nm, ty, kp, far, frm, df⟩ := x
      dsimp only at *
      generalize hfo : findT (thingsL p) nm = fo at *
      have HFOO := hid hfo
      clear hfo
      have hal := ((Below.refl wr.heap.size wr).alloc (Nat.le_refl _) (.cells #[.string nm, .int .u8 (ty : Int), .int .i64 kp, .bool far, .int .i64 frm, .int .i64 df] 55)).alloc (by simp) (.cells #[.int .i64 (k : Int), .int .i64 0] 126)
      have HX2 := hid (HX.out.keep hal)
      have hws := HX.out.below.size
      have RP : Hid (((wr.alloc (.cells #[.string nm, .int .u8 (ty : Int), .int .i64 kp, .bool far, .int .i64 frm, .int .i64 df] 55)).alloc (.cells #[.int .i64 (k : Int), .int .i64 0] 126)).heap[wr.heap.size]? = some (.cells #[.string nm, .int .u8 (ty : Int), .int .i64 kp, .bool far, .int .i64 frm, .int .i64 df] 55 (0, 0))) := hid (push_old (heap_alloc_new _ _))
      have RS : Hid (((wr.alloc (.cells #[.string nm, .int .u8 (ty : Int), .int .i64 kp, .bool far, .int .i64 frm, .int .i64 df] 55)).alloc (.cells #[.int .i64 (k : Int), .int .i64 0] 126)).heap[wr.heap.size + 1]? = some (.cells #[.int .i64 (k : Int), .int .i64 0] 126 (0, 0))) := hid (by
        have h := heap_alloc_new (wr.alloc (.cells #[.string nm, .int .u8 (ty : Int), .int .i64 kp, .bool far, .int .i64 frm, .int .i64 df] 55)) (.cells #[.int .i64 (k : Int), .int .i64 0] 126)
        rwa [World.size_alloc] at h)
      have HML : Hid (w.heap.size + 1 < wr.heap.size) := hid (by have := HX.out.map.lt; omega)
      obtain ⟨r0, r1, r2, r3⟩ := row4 HX2.out.box
      have cF := (callsIn_wide (n := 20)).1 (find_in Fence.wide 20 trivial trivial trivial rfl (by omega) p nm _ _ _ _ (HP.out.keep HX2.out.below))
      rw [HFOO.out, HFO.out] at cF
      clear hal
      go_wp2_with (fail)
      refine cF.mono ?_
      rintro e w3 ⟨rfl, hb3⟩
      have HX3 := hid (HX2.out.keep hb3)
      have RP3 := hid (keep_row RP.out hb3)
      have RS3 := hid (keep_row RS.out hb3)
      have f0 := (cell_of_row _ _ 0 _ 55 (0, 0) RP3.out).trans rfl
      have f3 := (cell_of_row _ _ 3 _ 55 (0, 0) RP3.out).trans rfl
      have s0 := (cell_of_row _ _ 0 _ 126 (0, 0) RS3.out).trans rfl
      have s1 := (cell_of_row _ _ 1 _ 126 (0, 0) RS3.out).trans rfl
      have z1 : w3.frozen? ⟨wr.heap.size + 1, 1, none⟩ = false := frozen_of_row _ _ _ _ _ RS3.out
      have HBW := hid HX3.out.below
      clear cF hb3 r0 r1 r2 r3 y0 y1 y2 y3 y4 y5
      generalize plO fo = FL at *
      by_cases hf : 0 ≤ FL
      · obtain ⟨m, rfl⟩ : ∃ m : Nat, FL = (m : Int) := ⟨FL.toNat, by omega⟩
        have hml : m < l.length := by have := HSN.out; omega
        have hml' : (m : Int) < (l.length : Int) := by omega
        obtain ⟨lb, lo, rfl, hlcell⟩ := (HI.out.keep HBW.out).row_some (by omega)
        have ll := hlcell m hml
        have hla := lateAt_nat l m hml
        have hlf := HF.out _ (List.getElem_mem hml)
        rw [← hla] at ll hlf
        rw [if_pos hf] at HSNC
        generalize lateAt l (m : Int) = lf at *
        clear hlcell hla
        cases far with
        | true =>
          have HSV : Hid (SN = lf + 1) := hid (by rw [HSNC.out]; simp)
          have HX4 := hid ((HX3.out.set (wr.heap.size + 1) 1 (.int .i64 lf) (by have := HML.out; omega)).set (wr.heap.size + 1) 1 (.int .i64 (lf + 1)) (by have := HML.out; omega))
          have SV : SN = (lf + 1) := by rw [HSV.out]
          obtain ⟨W5, hup, hm5, hg5⟩ := HX4.out.map.updateS (by unfold maxLen; omega) (s := nm) HNN.out ((k : Int), (lf + 1))
          have HX5 := hid (HX4.out.put hm5 hg5)
          clear hm5 hg5
          have hlw : lf + 1 ≤ 1001 := by omega
          go_wp2_with (refine wpList_mapUpd rfl (.tmp 47) (.tmp 49) (.tmp 50) 88 rfl hup ?_; clear hup)
          go_roundw
          case rel => exact ⟨k + 1, by omega, by go_num, hid (by rw [HKS.out, SV]; exact HX5.out)⟩
          case measure => simp [intOf]; omega
        | false =>
          have HSV : Hid (SN = lf + 0) := hid (by rw [HSNC.out]; simp)
          have HX4 := hid (HX3.out.set (wr.heap.size + 1) 1 (.int .i64 lf) (by have := HML.out; omega))
          have SV : SN = lf := by rw [HSV.out]; omega
          obtain ⟨W5, hup, hm5, hg5⟩ := HX4.out.map.updateS (by unfold maxLen; omega) (s := nm) HNN.out ((k : Int), lf)
          have HX5 := hid (HX4.out.put hm5 hg5)
          clear hm5 hg5
          go_wp2_with (refine wpList_mapUpd rfl (.tmp 47) (.tmp 49) (.tmp 50) 88 rfl hup ?_; clear hup)
          go_roundw
          case rel => exact ⟨k + 1, by omega, by go_num, hid (by rw [HKS.out, SV]; exact HX5.out)⟩
          case measure => simp [intOf]; omega
      · have hf' : ¬ (0 : Int) ≤ FL := hf
        have hfn : FL < 0 := by omega
        rw [if_neg hf] at HSNC
        cases far with
        | true =>
          have HSV : Hid (SN = 0 + 1) := hid (by rw [HSNC.out]; simp)
          have HX4 := hid (HX3.out.set (wr.heap.size + 1) 1 (.int .i64 1) (by have := HML.out; omega))
          have SV : SN = 1 := by rw [HSV.out]; omega
          obtain ⟨W5, hup, hm5, hg5⟩ := HX4.out.map.updateS (by unfold maxLen; omega) (s := nm) HNN.out ((k : Int), 1)
          have HX5 := hid (HX4.out.put hm5 hg5)
          clear hm5 hg5
          go_wp2_with (refine wpList_mapUpd rfl (.tmp 47) (.tmp 49) (.tmp 50) 88 rfl hup ?_; clear hup)
          go_roundw
          case rel => exact ⟨k + 1, by omega, by go_num, hid (by rw [HKS.out, SV]; exact HX5.out)⟩
          case measure => simp [intOf]; omega
        | false =>
          have HSV : Hid (SN = 0 + 0) := hid (by rw [HSNC.out]; simp)
          have HX4 := hid HX3.out
          have SV : SN = 0 := by rw [HSV.out]; omega
          obtain ⟨W5, hup, hm5, hg5⟩ := HX4.out.map.updateS (by unfold maxLen; omega) (s := nm) HNN.out ((k : Int), 0)
          have HX5 := hid (HX4.out.put hm5 hg5)
          clear hm5 hg5
          go_wp2_with (refine wpList_mapUpd rfl (.tmp 47) (.tmp 49) (.tmp 50) 88 rfl hup ?_; clear hup)
          go_roundw
          case rel => exact ⟨k + 1, by omega, by go_num, hid (by rw [HKS.out, SV]; exact HX5.out)⟩
          case measure => simp [intOf]; omega
    · have hkl' : ¬ (k : Int) < (ps.length : Int) := by omega
      obtain rfl : k = ps.length := by omega
      go_wp2_with (fail)
      go_ret
      exact ⟨rfl, ⟨_, HX.out.map⟩, HX.out.below⟩
end Go.Proofs.YtdenddknbmiboaaDoor.Lex
namespace Go.Proofs.YtdenddknbmiboaaDoor.Lex
open Go.ChangeShapes Go.WideShapes Go.ChangeAt Go.RowKit Go.Joins
theorem lastW_len (T : List UInt8 → Int × Int) (late : Int) (op : Nat) (n : Int) (nm : ByteArray) (ago : Nat) : (lastW T late op n nm ago).length ≤ 1 := by
  unfold lastW
  split
  · exact Nat.zero_le _
  · split
    · exact Nat.le_refl _
    · split <;> exact Nat.le_refl _
theorem write_any (c : Wp) (hlate : 0 ≤ c.late ∧ c.late ≤ 1000000) (hTB : ∀ u, -1000000 ≤ (c.T u).2 ∧ (c.T u).2 ≤ 1000000) : ∀ (d : Nat) (x : Ex), Typ.okD d x → WrC c d x
  | 0, _, h => h.elim
  | d + 1, x, h => write_ c hlate hTB d (write_any c hlate hTB d) x h
theorem sncF_bound {l : List Int} (hF : Fine l) (p : Pg) (x : Plc) : 0 ≤ sncF p l x ∧ sncF p l x ≤ 1001 := by
  have h : ∀ i, 0 ≤ lateAt l i ∧ lateAt l i ≤ 1000 := fun i => by
    unfold lateAt
    cases e : l[i.toNat]? with
    | none => exact ⟨Int.le_refl _, by decide⟩
    | some a => exact hF a (List.mem_of_getElem? e)
  have := h (plO (findT (thingsL p) x.name))
  unfold sncF
  split <;> split <;> omega
theorem srcK_bound {l : List Int} (hF : Fine l) (p : Pg) (ps : List Plc) : ∀ (k : Nat) (u : List UInt8), 0 ≤ (srcK p l ps k u).2 ∧ (srcK p l ps k u).2 ≤ 1001
  | 0, u => ⟨Int.le_refl _, by show (0 : Int) ≤ 1001; decide⟩
  | k + 1, u => by
    show 0 ≤ (match ps[k]? with | some x => _ | none => _ : Int × Int).2 ∧ (match ps[k]? with | some x => _ | none => _ : Int × Int).2 ≤ 1001
    cases ps[k]? with
    | none => exact srcK_bound hF p ps k u
    | some x =>
      dsimp only
      split
      · exact sncF_bound hF p x
      · exact srcK_bound hF p ps k u
set_option maxRecDepth 100000 in
set_option maxHeartbeats 4000000 in
theorem equal_same (ps : List Plc) (v u : Value) (w : World) (hP : PlR w v ps) (hQ : PlR w u ps) : Calls Tryd.prog 33 #[v, u] w fun e w' => e = .returned (.bool true) ∧ Below w.heap.size w w' := by
  obtain ⟨ao, cap, rfl, ⟨hlc, hlm⟩, hc0⟩ := hP
  obtain ⟨ao2, cap2, rfl, ⟨hlc2, hlm2⟩, hc2⟩ := hQ
  have HC := hid hc0
  have HC2 := hid hc2
  clear hc0 hc2
  go_enter Tryd.func33, Tryd.ntmps33
  go_wp2_with (fail)
  go_loopw [13] (fun i wr => ∃ k : Nat, k ≤ ps.length ∧ i = .int .i64 (k : Int) ∧ Hid (Below w.heap.size w wr)) (fun i _ => ps.length - (intOf i).toNat)
  case atStart => exact ⟨0, Nat.zero_le _, rfl, hid (Below.refl _ _)⟩
  case round =>
    obtain ⟨k, hk, rfl, HB⟩ := hrel
    by_cases hkl : k < ps.length
    · have hkl' : (k : Int) < (ps.length : Int) := by omega
      have hk0 : (0 : Int) ≤ (k : Int) := by omega
      obtain ⟨g1, o1, rfl, hcc⟩ := HC.out.resolve_left (by intro e; rw [e] at hkl; simp at hkl)
      obtain ⟨g2, o2, rfl, hdd⟩ := HC2.out.resolve_left (by intro e; rw [e] at hkl; simp at hkl)
      have a0 := cell_kept ((hcc k hkl 0 (by omega)).trans rfl) HB.out
      have a1 := cell_kept ((hcc k hkl 1 (by omega)).trans rfl) HB.out
      have a2 := cell_kept ((hcc k hkl 2 (by omega)).trans rfl) HB.out
      have a3 := cell_kept ((hcc k hkl 3 (by omega)).trans rfl) HB.out
      have a4 := cell_kept ((hcc k hkl 4 (by omega)).trans rfl) HB.out
      have a5 := cell_kept ((hcc k hkl 5 (by omega)).trans rfl) HB.out
      have b0 := cell_kept ((hdd k hkl 0 (by omega)).trans rfl) HB.out
      have b1 := cell_kept ((hdd k hkl 1 (by omega)).trans rfl) HB.out
      have b2 := cell_kept ((hdd k hkl 2 (by omega)).trans rfl) HB.out
      have b3 := cell_kept ((hdd k hkl 3 (by omega)).trans rfl) HB.out
      have b4 := cell_kept ((hdd k hkl 4 (by omega)).trans rfl) HB.out
      have b5 := cell_kept ((hdd k hkl 5 (by omega)).trans rfl) HB.out
      rw [Nat.add_zero] at a0 b0
      clear hcc hdd
      generalize ps[k] = x at *
      go_wp2_with (fail)
      refine wp_region_held_drew (S := fun V => (V.cell? ⟨g1, o1 + k * 6, none⟩ = some (.string x.name) ∧ V.cell? ⟨g1, o1 + k * 6 + 1, none⟩ = some (.int .u8 (x.ty : Int)) ∧ V.cell? ⟨g1, o1 + k * 6 + 2, none⟩ = some (.int .i64 x.keep) ∧ V.cell? ⟨g1, o1 + k * 6 + 3, none⟩ = some (.bool x.far) ∧ V.cell? ⟨g1, o1 + k * 6 + 4, none⟩ = some (.int .i64 x.frm) ∧ V.cell? ⟨g1, o1 + k * 6 + 5, none⟩ = some (.int .i64 x.df)) ∧ V.cell? ⟨g2, o2 + k * 6, none⟩ = some (.string x.name) ∧ V.cell? ⟨g2, o2 + k * 6 + 1, none⟩ = some (.int .u8 (x.ty : Int)) ∧ V.cell? ⟨g2, o2 + k * 6 + 2, none⟩ = some (.int .i64 x.keep) ∧ V.cell? ⟨g2, o2 + k * 6 + 3, none⟩ = some (.bool x.far) ∧ V.cell? ⟨g2, o2 + k * 6 + 4, none⟩ = some (.int .i64 x.frm) ∧ V.cell? ⟨g2, o2 + k * 6 + 5, none⟩ = some (.int .i64 x.df)) (by kernel_rfl) ?_ (fun hHeld => ?_)
      · exact ⟨⟨a0, a1, a2, a3, a4, a5⟩, b0, b1, b2, b3, b4, b5⟩
      refine wpAnyH_take (i := 0) (oi := { dst := some 16, op := Go.Op.move (Go.Operand.tmp 0), type := 22, pos := _, after := #[], guard := none }) (v := ?_) rfl (by kernel_rfl) (by kernel_rfl) (by kernel_rfl) (fun _ _ _ h => h) (Or.inl ⟨by rfl, ?_⟩) (by assumption) ?_
      rotate_left
      · intro w hSw; (try dsimp only at hSw); go_simp <;> first | with_reducible rfl | (rw [if_neg (by first | omega | (simp only [ByteArray.size_append] at *; omega))])
      simp only [Act.put, List.setIfInBounds_toArray, List.set_cons_zero, List.set_cons_succ]
      refine wpAnyH_take (i := 1) (oi := { dst := some 17, op := Go.Op.move (Go.Operand.tmp 5), type := 3, pos := _, after := #[], guard := none }) (v := ?_) rfl (by kernel_rfl) (by kernel_rfl) (by kernel_rfl) (fun _ _ _ h => h) (Or.inl ⟨by rfl, ?_⟩) (by assumption) ?_
      rotate_left
      · intro w hSw; (try dsimp only at hSw); go_simp <;> first | with_reducible rfl | (rw [if_neg (by first | omega | (simp only [ByteArray.size_append] at *; omega))])
      simp only [Act.put, List.setIfInBounds_toArray, List.set_cons_zero, List.set_cons_succ]
      refine wpAnyH_take (i := 2) (oi := { dst := some 18, op := Go.Op.indexAddr 22 (Go.Operand.tmp 16) (Go.Operand.tmp 17), type := 0, pos := _, after := #[{ on := 0, ground := Go.Ground.data }, { on := 1, ground := Go.Ground.data }], guard := none }) (v := ?_) rfl (by kernel_rfl) (by kernel_rfl) (by kernel_rfl) (fun _ _ _ h => h) (Or.inl ⟨by rfl, ?_⟩) (by assumption) ?_
      rotate_left
      · intro w hSw; (try dsimp only at hSw); go_simp <;> first | with_reducible rfl | (rw [if_neg (by first | omega | (simp only [ByteArray.size_append] at *; omega))])
      simp only [Act.put, List.setIfInBounds_toArray, List.set_cons_zero, List.set_cons_succ]
      refine wpAnyH_take (i := 3) (oi := { dst := some 19, op := Go.Op.load 55 (Go.Operand.tmp 18), type := 55, pos := _, after := #[{ on := 2, ground := Go.Ground.data }], guard := none }) (v := ?_) rfl (by kernel_rfl) (by kernel_rfl) (by kernel_rfl) (fun _ _ _ h => h) (Or.inl ⟨by rfl, ?_⟩) (by assumption) ?_
      rotate_left
      · intro w hSw; (try dsimp only at hSw); go_simp <;> first | with_reducible rfl | (rw [if_neg (by first | omega | (simp only [ByteArray.size_append] at *; omega))])
      simp only [Act.put, List.setIfInBounds_toArray, List.set_cons_zero, List.set_cons_succ]
      refine wpAnyH_take (i := 4) (oi := { dst := some 20, op := Go.Op.move (Go.Operand.tmp 1), type := 22, pos := _, after := #[], guard := none }) (v := ?_) rfl (by kernel_rfl) (by kernel_rfl) (by kernel_rfl) (fun _ _ _ h => h) (Or.inl ⟨by rfl, ?_⟩) (by assumption) ?_
      rotate_left
      · intro w hSw; (try dsimp only at hSw); go_simp <;> first | with_reducible rfl | (rw [if_neg (by first | omega | (simp only [ByteArray.size_append] at *; omega))])
      simp only [Act.put, List.setIfInBounds_toArray, List.set_cons_zero, List.set_cons_succ]
      refine wpAnyH_take (i := 5) (oi := { dst := some 21, op := Go.Op.move (Go.Operand.tmp 5), type := 3, pos := _, after := #[], guard := none }) (v := ?_) rfl (by kernel_rfl) (by kernel_rfl) (by kernel_rfl) (fun _ _ _ h => h) (Or.inl ⟨by rfl, ?_⟩) (by assumption) ?_
      rotate_left
      · intro w hSw; (try dsimp only at hSw); go_simp <;> first | with_reducible rfl | (rw [if_neg (by first | omega | (simp only [ByteArray.size_append] at *; omega))])
      simp only [Act.put, List.setIfInBounds_toArray, List.set_cons_zero, List.set_cons_succ]
      refine wpAnyH_take (i := 6) (oi := { dst := some 22, op := Go.Op.indexAddr 22 (Go.Operand.tmp 20) (Go.Operand.tmp 21), type := 0, pos := _, after := #[{ on := 4, ground := Go.Ground.data }, { on := 5, ground := Go.Ground.data }], guard := none }) (v := ?_) rfl (by kernel_rfl) (by kernel_rfl) (by kernel_rfl) (fun _ _ _ h => h) (Or.inl ⟨by rfl, ?_⟩) (by assumption) ?_
      rotate_left
      · intro w hSw; (try dsimp only at hSw); go_simp <;> first | with_reducible rfl | (rw [if_neg (by first | omega | (simp only [ByteArray.size_append] at *; omega))])
      simp only [Act.put, List.setIfInBounds_toArray, List.set_cons_zero, List.set_cons_succ]
      refine wpAnyH_take (i := 7) (oi := { dst := some 23, op := Go.Op.load 55 (Go.Operand.tmp 22), type := 55, pos := _, after := #[{ on := 6, ground := Go.Ground.data }], guard := none }) (v := ?_) rfl (by kernel_rfl) (by kernel_rfl) (by kernel_rfl) (fun _ _ _ h => h) (Or.inl ⟨by rfl, ?_⟩) (by assumption) ?_
      rotate_left
      · intro w hSw; (try dsimp only at hSw); go_simp <;> first | with_reducible rfl | (rw [if_neg (by first | omega | (simp only [ByteArray.size_append] at *; omega))])
      simp only [Act.put, List.setIfInBounds_toArray, List.set_cons_zero, List.set_cons_succ]
      refine wpAnyH_take (i := 8) (oi := { dst := some 24, op := Go.Op.binOp Go.BinOp.neq 55 (Go.Operand.tmp 19) (Go.Operand.tmp 23) 55, type := 4, pos := _, after := #[{ on := 3, ground := Go.Ground.data }, { on := 7, ground := Go.Ground.data }], guard := none }) (v := ?_) rfl (by kernel_rfl) (by kernel_rfl) (by kernel_rfl) (fun _ _ _ h => h) (Or.inl ⟨by rfl, ?_⟩) (by assumption) ?_
      rotate_left
      · intro w hSw; (try dsimp only at hSw); go_simp <;> first | with_reducible rfl | (rw [if_neg (by first | omega | (simp only [ByteArray.size_append] at *; omega))])
      simp only [Act.put, List.setIfInBounds_toArray, List.set_cons_zero, List.set_cons_succ]
      refine wpAnyH_done (by kernel_rfl) ?_ _
      go_wp2_with (fail)
      go_roundw
      case rel => exact ⟨k + 1, by omega, by go_num, hid HB.out.drew⟩
      case measure => simp [intOf]; omega
    · have hkl' : ¬ (k : Int) < (ps.length : Int) := by omega
      go_wp2
      go_ret
      exact ⟨rfl, HB.out⟩
theorem cnt_sum (k : Nat) (l : List Ex) (n : Nat) : l.foldl (fun n y => n + cnt k y) n = n + (l.map (cnt k)).sum := by
  induction l generalizing n with
  | nil => simp
  | cons a l ih => rw [List.foldl_cons, ih, List.map_cons, List.sum_cons]; omega
theorem wrF_len (T : List UInt8 → Int × Int) (late : Int) : ∀ (d : Nat) (x : Ex) (ago : Nat), Typ.okD d x → (wrF T late x ago).length ≤ cnt d x
  | 0, _, _, h => h.elim
  | d + 1, x, ago, h => by
    have hl := lastW_len T late x.op x.n x.name ago
    rw [wrF_eq, List.length_append]
    show _ ≤ x.args.foldl (fun n y => n + cnt d y) 1
    rw [cnt_sum]
    have key : ∀ (l : List Ex) (wi : Nat), (∀ y ∈ l, Typ.okD d y) → ((l.map fun y => wrF T late y wi).flatten).length ≤ (l.map (cnt d)).sum := by
      intro l wi
      induction l with
      | nil => intro _; exact Nat.zero_le _
      | cons a l ih =>
        intro hk
        rw [List.map_cons, List.flatten_cons, List.length_append, List.map_cons, List.sum_cons]
        have h1 := wrF_len T late d a wi (hk a (by simp))
        have h2 := ih (fun y hy => hk y (by simp [hy]))
        omega
    have := key x.args (if x.op = 19 then ago + 1 else ago) h.2
    omega
theorem wrF_chk (T : List UInt8 → Int × Int) (late : Int) {x : Ex} (h : chk x = true) (ago : Nat) : (wrF T late x ago).length ≤ 200 := Nat.le_trans (wrF_len T late 32 x ago (Typ.chk_ok h)) (chk_nm h).2
/-- Places that are answered are read. -/
theorem RowP.read {W : World} {B : Nat} {v : Value} {l : List Plc} (h : RowP W B v l) (hl : l.length ≤ 100000) : PlR W v l := by
  have hh := h
  rcases h.2 with ⟨rfl, h0⟩ | ⟨gg, cap, cur, rfl, h1, h2, h3, _⟩
  · exact ⟨none, 0, by rw [h0], ⟨by omega, by omega⟩, .inl (List.eq_nil_of_length_eq_zero h0)⟩
  · refine ⟨_, cap, rfl, ⟨h3, by omega⟩, .inr ⟨gg, 0, rfl, fun k hk j hj => ?_⟩⟩
    have h4 := World.ownsRow.cellAt hh (k * 6 + j) (by omega)
    rw [Nat.zero_add, h4]
    exact plsC_at l k hk j hj
theorem plo_lt {p : Pg} (nm : ByteArray) (h : 0 < p.flows.length) : plO (findT (thingsL p) nm) < (p.flows.length : Int) := by
  cases e : findT (thingsL p) nm with
  | none => show (0 : Int) < _; omega
  | some x => exact findT_pl e
end Go.Proofs.YtdenddknbmiboaaDoor.Lex
