/-
  What it asks for, by the document: the contracts of the document's gather and Refs.
  The document's instant of what is worked out: the contract of its of.
  The document's Of, over the contract of its of.
  May a program be, by the document: the contracts of the document's is and Check.
-/
import Derived.Test.YtejacmgppnafcaaDoorG5
import Derived.Test.YtejacmgppnafcaaDoorG9
import Derived.Test.YtejacmgppnafcaaDoorG4
import Derived.Test.YtejacmgppnafcaaDoorG6
namespace Go.Proofs.YtejacmgppnafcaaDoor.Lex
open Go.ChangeShapes Go.WideShapes Go.ChangeAt Go.RowKit Go.Joins
theorem grown_two {w w1 w2 : World} {v v1 : Value} (h1 : w.grownBy w1 v.ownBlock) (hf : ∀ b, v1.ownBlock = some b → v.ownBlock = some b ∨ w.heap.size ≤ b) (h2 : w1.grownBy w2 v1.ownBlock) : w.grownBy w2 v.ownBlock :=
  ⟨h2.os.trans h1.os, h2.tape.trans h1.tape, h2.output.trans h1.output, Nat.le_trans h1.size h2.size, fun b hb hn => (h2.block b (Nat.lt_of_lt_of_le hb h1.size) (fun e => by
    rcases hf b e.symm with h | h
    · exact hn h.symm
    · omega)).trans (h1.block b hb hn)⟩
/-- The list, as it is handed on. -/
structure RL (w0 wb : World) (v : Value) (acc : List Rf) (l : Value) (W : World) : Prop where
  own : W.ownsRow w0.heap.size 64 2 l acc.length (refsV acc)
  grown : wb.grownBy W v.ownBlock
  fr : ∀ b, l.ownBlock = some b → v.ownBlock = some b ∨ wb.heap.size ≤ b
theorem RL.start {w0 wb : World} {v : Value} {acc : List Rf} (h : wb.ownsRow w0.heap.size 64 2 v acc.length (refsV acc)) : RL w0 wb v acc v wb := ⟨h, ⟨rfl, rfl, rfl, Nat.le_refl _, fun _ _ _ => rfl⟩, fun _ h => .inl h⟩
theorem RL.step {w0 wb W W' : World} {v l l' : Value} {acc acc' : List Rf} (h : RL w0 wb v acc l W) (ho : W'.ownsRow w0.heap.size 64 2 l' acc'.length (refsV acc')) (hg : W.grownBy W' l.ownBlock) (hf : ∀ b, l'.ownBlock = some b → l.ownBlock = some b ∨ W.heap.size ≤ b) : RL w0 wb v acc' l' W' :=
  ⟨ho, grown_two h.grown h.fr hg, fun b e => by
    rcases hf b e with h' | h'
    · exact h.fr b h'
    · exact .inr (Nat.le_trans h.grown.size h')⟩
theorem RL.keep {w0 wb W : World} {v l : Value} {acc : List Rf} {k : Nat} {o : Obj} (h : RL w0 wb v acc l W) (hr : wb.heap[k]? = some o) (hn : v.ownBlock ≠ some k) : W.heap[k]? = some o := (h.grown.block k (Array.getElem?_eq_some_iff.1 hr).1 (fun e => hn e.symm)).trans hr
theorem RL.below {w0 wb W : World} {v l : Value} {acc : List Rf} (h : RL w0 wb v acc l W) (hv : ∀ b, v.ownBlock = some b → w0.heap.size ≤ b) (hb : Below w0.heap.size w0 wb) (hs : w0.heap.size ≤ wb.heap.size) : Below w0.heap.size w0 W := hb.grown h.grown hs (fun b e => hv b e)
theorem RL.back {w0 w wb W : World} {v l : Value} {acc : List Rf} (h : RL w0 wb v acc l W) (_hs : w0.heap.size ≤ wb.heap.size) (hw : Below w.heap.size w wb) : w.grownBy W v.ownBlock :=
  ⟨h.grown.os.trans hw.os, h.grown.tape.trans hw.tape, h.grown.output.trans hw.output, Nat.le_trans hw.size h.grown.size, fun b hb hn => (h.grown.block b (Nat.lt_of_lt_of_le hb hw.size) hn).trans (hw.block b hb)⟩
theorem RL.more {w0 wb W W1 W' : World} {v l l' : Value} {acc acc' : List Rf} (h : RL w0 wb v acc l W) (hb : Below W.heap.size W W1) (ho : W'.ownsRow w0.heap.size 64 2 l' acc'.length (refsV acc')) (hg : W1.grownBy W' l.ownBlock) (hat : l'.ownBlock = l.ownBlock ∨ l'.ownBlock = some W1.heap.size) : RL w0 wb v acc' l' W' :=
  h.step ho ⟨hg.os.trans hb.os, hg.tape.trans hb.tape, hg.output.trans hb.output, Nat.le_trans hb.size hg.size, fun b hlt hn => (hg.block b (Nat.lt_of_lt_of_le hlt hb.size) hn).trans (hb.block b hlt)⟩ (fun b e => by
    rcases hat with h' | h'
    · exact .inl (h' ▸ e)
    · rw [h'] at e; injection e with e; exact .inr (by have := hb.size; omega))
theorem ref_eq (a b : ByteArray) (m n : Nat) (w : World) : (if a.toList = b.toList then (if (m : Int) = (n : Int) then Result.ok (Next.value (Value.bool true)) w else Result.ok (Next.value (Value.bool false)) w) else Result.ok (Next.value (Value.bool false)) w) = (Result.ok (Next.value (Value.bool (a.data.toList == b.data.toList && m == n))) w) := by
  rw [ByteArray.toList_eq, ByteArray.toList_eq]
  by_cases e1 : a.data.toList = b.data.toList
  · rw [if_pos e1, beq_iff_eq.2 e1]
    by_cases e2 : m = n
    · subst e2; rw [if_pos rfl]; simp
    · rw [if_neg (by omega), beq_eq_false_iff_ne.2 e2]; rfl
  · rw [if_neg e1, beq_eq_false_iff_ne.2 e1]; rfl
theorem acc_len (k : Nat) (x : Ex) (ago : Nat) (acc : List Rf) : ∀ j, (accAt k x ago acc j).length ≤ acc.length + cntAt k x j
  | 0 => by
    show (ownRefs x ago acc).length ≤ acc.length + 1
    unfold ownRefs addR
    split
    · split
      · omega
      · simp
    · omega
  | j + 1 => by
    by_cases h : j < x.args.length
    · rw [accAt_succ h, cntAt_succ h]
      have h1 := gat_len k x.args[j] (nextAgo x ago) (accAt k x ago acc j)
      have h2 := acc_len k x ago acc j
      omega
    · have e1 : accAt k x ago acc (j + 1) = accAt k x ago acc j := by unfold accAt; rw [List.take_of_length_le (by omega), List.take_of_length_le (by omega)]
      have e2 : cntAt k x (j + 1) = cntAt k x j := by unfold cntAt; rw [List.take_of_length_le (by omega), List.take_of_length_le (by omega)]
      rw [e1, e2]
      exact acc_len k x ago acc j
theorem acc_all (k : Nat) (x : Ex) (ago : Nat) (acc : List Rf) : accAt k x ago acc x.args.length = gat (k + 1) x ago acc := by
  unfold accAt
  rw [List.take_length]
  rfl
def RG (k : Nat) : Prop := ∀ (x : Ex) (s : Value) (ago : Nat) (acc : List Rf) (v : Value) (w0 w : World), St w0 x s → NmOk k x → Below w0.heap.size w0 w → w.ownsRow w0.heap.size 64 2 v acc.length (refsV acc) → ago + k ≤ 1099511627776 → acc.length + cnt k x ≤ 1099511627776 →
  Calls Tryd.prog 62 #[v, exV x s, .int .i64 (ago : Int)] w fun e w' => ∃ v', e = .returned v' ∧ w'.ownsRow w0.heap.size 64 2 v' (gat k x ago acc).length (refsV (gat k x ago acc)) ∧ w.grownBy w' v.ownBlock ∧ ∀ b, v'.ownBlock = some b → v.ownBlock = some b ∨ w.heap.size ≤ b
theorem RL.fr' {w0 w wb W : World} {v l : Value} {acc : List Rf} (h : RL w0 wb v acc l W) (hw : w.heap.size ≤ wb.heap.size) : ∀ b, l.ownBlock = some b → v.ownBlock = some b ∨ w.heap.size ≤ b := fun b e => (h.fr b e).imp_right (Nat.le_trans hw)
theorem own_lo {w : World} {lo t c n : Nat} {v : Value} {xs : List Value} (h : w.ownsRow lo t c v n xs) : ∀ b, v.ownBlock = some b → lo ≤ b ∧ b < w.heap.size := fun b e => by
  rcases h.2 with ⟨h', _⟩ | ⟨g, cap, cur, h', h1, h2, _⟩
  · rw [h'] at e; cases e
  · rw [h'] at e
    have : g = b := by injection e
    subst this
    exact ⟨h1, (Array.getElem?_eq_some_iff.1 h2).1⟩
set_option maxRecDepth 100000 in
set_option maxHeartbeats 4000000 in
theorem rgather_of (k : Nat) (ih : RG k) : RG (k + 1) := by
  intro x s ago acc v w0 w hS hN hb hown hag hcn
  obtain ⟨ao, cap, sl, rfl, hop, hn, hnm, hlen, _, hc, hs⟩ := hS.out
  have VLT := hid (own_lo hown)
  have VLO := hid (fun b e => (VLT.out b e).1)
  have HB := hid hb
  have HOW := hid hown
  have HIH := hid ih
  have HS := hid hs
  have HC := hid hc
  have HNM := hid hN.2
  have HNS := hid hN.1
  have HCN : Hid (acc.length + cntAt k x x.args.length ≤ 1099511627776) := hid (by have : cnt (k + 1) x = cntAt k x x.args.length := by unfold cnt cntAt; rw [List.take_length]
                                                                                   omega)
  have hal : acc.length ≤ 1099511627776 := by omega
  clear ih hs hc hN hS hb hown hcn
  obtain ⟨i0, hi, hz0, hz1, hz2⟩ := info_parts i51
  by_cases h3 : x.op = 3
  · have h3' : ((x.op : Int) == 3) = true := by rw [beq_iff_eq]; omega
    have h19' : ((x.op : Int) == 19) = false := by rw [beq_eq_false_iff_ne]; omega
    have hna' : ((nextAgo x ago : Nat) : Int) = (ago : Int) := by unfold nextAgo; rw [if_neg (by omega)]
    have HOR : Hid (ownRefs x ago acc = addR acc (x.name, ago)) := hid (by unfold ownRefs; rw [if_pos h3])
    have BR := hid (show ((w.alloc (.cells #[.int .u8 (x.op : Int), .int .i64 x.n, .string x.name, .slice ao x.args.length cap] 30)).alloc (.cells #[.string x.name, .int .i64 (ago : Int)] 64)).heap[w.heap.size]? = some (.cells #[.int .u8 (x.op : Int), .int .i64 x.n, .string x.name, .slice ao x.args.length cap] 30 (0, 0)) from push_old (push_new _ _ _ rfl))
    have RR := hid (show ((w.alloc (.cells #[.int .u8 (x.op : Int), .int .i64 x.n, .string x.name, .slice ao x.args.length cap] 30)).alloc (.cells #[.string x.name, .int .i64 (ago : Int)] 64)).heap[w.heap.size + 1]? = some (.cells #[.string x.name, .int .i64 (ago : Int)] 64 (0, 0)) from push_new _ _ _ (by simp))
    have VNB : Hid (v.ownBlock ≠ some w.heap.size) := hid (fun e => by have := (VLT.out _ e).2; omega)
    have VNR : Hid (v.ownBlock ≠ some (w.heap.size + 1)) := hid (fun e => by have := (VLT.out _ e).2; omega)
    have WBW := hid (bstep ((Below.refl w.heap.size w).alloc (Nat.le_refl _) (.cells #[.int .u8 (x.op : Int), .int .i64 x.n, .string x.name, .slice ao x.args.length cap] 30)) ((Below.refl _ _).alloc (Nat.le_refl _) (.cells #[.string x.name, .int .i64 (ago : Int)] 64)))
    have HWB := hid (HB.out.trans (WBW.out.mono HB.out.size))
    have SWB := hid HWB.out.size
    have SW := hid WBW.out.size
    have R0 := hid (RL.start ((HOW.out.alloc (.cells #[.int .u8 (x.op : Int), .int .i64 x.n, .string x.name, .slice ao x.args.length cap] 30)).alloc (.cells #[.string x.name, .int .i64 (ago : Int)] 64)))
    clear h3
    obtain ⟨va, vc, rfl, _⟩ := RfAt.of_own HOW.out
    go_enter Tryd.func62, Tryd.ntmps62
    go_wp2_with (fail)
    generalize ((w.alloc (.cells #[.int .u8 (x.op : Int), .int .i64 x.n, .string x.name, .slice ao x.args.length cap] 30)).alloc (.cells #[.string x.name, .int .i64 (ago : Int)] 64)) = WB at *
    go_loopw [8, 9] (fun th i wr => ∃ t : Nat, t ≤ acc.length ∧ i = .int .i64 (t : Int) ∧ th = .bool (rIn (acc.take t) (x.name, ago)) ∧ Hid (RL w0 WB (.slice va acc.length vc) acc (.slice va acc.length vc) wr)) (fun _ i _ => acc.length - (intOf i).toNat)
    case atStart => exact ⟨0, Nat.zero_le _, rfl, rfl, R0⟩
    case round =>
      obtain ⟨t, ht, rfl, rfl, HR⟩ := hrel
      have RRr := hid (HR.out.keep RR.out VNR.out)
      have y2 := (cell_of_row wr (w.heap.size + 1) 0 _ 64 (0, 0) RRr.out).trans (show _ = some (.string x.name) from rfl)
      have y3 := (cell_of_row wr (w.heap.size + 1) 1 _ 64 (0, 0) RRr.out).trans (show _ = some (.int .i64 (ago : Int)) from rfl)
      by_cases hlt : t < acc.length
      · have hlt' : (t : Int) < (acc.length : Int) := by omega
        have ht0 : (0 : Int) ≤ (t : Int) := by omega
        obtain ⟨a2, c2, e2, hh⟩ := RfAt.of_own HR.out.own
        injection e2 with e2 _ e3
        subst e2 e3
        obtain ⟨g, rfl, hcc⟩ := hh.resolve_left (by omega)
        obtain ⟨y0, y1⟩ := hcc t hlt
        have HT : Hid (rIn (acc.take (t + 1)) (x.name, ago) = (rIn (acc.take t) (x.name, ago) || (acc[t].1.data.toList == x.name.data.toList && acc[t].2 == ago))) := hid (by unfold rIn; rw [List.take_succ_eq_append_getElem hlt, List.any_append]; simp)
        have RD := hid (HR.out.step (W' := wr.drew) HR.out.own.drew ⟨rfl, rfl, rfl, Nat.le_refl _, fun _ _ _ => rfl⟩ (fun b e => .inl e))
        clear hcc hh
        generalize acc[t] = q at *
        generalize rIn (acc.take t) (x.name, ago) = th at *
        generalize hbq : (q.1.data.toList == x.name.data.toList && q.2 == ago) = bq at HT
        have HBQ := hid hbq
        clear hbq
        cases th with
        | true =>
          go_wp2_with (fail)
          refine wp_region_held_drew (S := fun V => V.cell? ⟨g, t * 2, none⟩ = some (.string q.1) ∧ V.cell? ⟨g, t * 2 + 1, none⟩ = some (.int .i64 (q.2 : Int)) ∧ V.cell? ⟨w.heap.size + 1, 0, none⟩ = some (.string x.name) ∧ V.cell? ⟨w.heap.size + 1, 1, none⟩ = some (.int .i64 (ago : Int))) (by kernel_rfl) ?_ (fun hHeld => ?_)
          · exact ⟨y0, y1, y2, y3⟩
          refine wpAnyH_take (i := 0) (oi := { dst := some 24, op := Go.Op.move (Go.Operand.tmp 8), type := 4, pos := _, after := #[], guard := none }) (v := ?_) rfl (by kernel_rfl) (by kernel_rfl) (by kernel_rfl) (fun _ _ _ h => h) (Or.inl ⟨by rfl, ?_⟩) (by assumption) ?_
          rotate_left
          · intro w hSw; (try dsimp only at hSw); go_simp <;> first | with_reducible rfl | (rw [if_neg (by first | omega | (simp only [ByteArray.size_append] at *; omega))])
          simp only [Act.put, List.setIfInBounds_toArray, List.set_cons_zero, List.set_cons_succ]
          refine wpAnyH_take (i := 1) (oi := { dst := some 25, op := Go.Op.move (Go.Operand.tmp 24), type := 4, pos := _, after := #[{ on := 0, ground := Go.Ground.data }], guard := none }) (v := ?_) rfl (by kernel_rfl) (by kernel_rfl) (by kernel_rfl) (fun _ _ _ h => h) (Or.inl ⟨by rfl, ?_⟩) (by assumption) ?_
          rotate_left
          · intro w hSw; (try dsimp only at hSw); go_simp <;> first | with_reducible rfl | (rw [if_neg (by first | omega | (simp only [ByteArray.size_append] at *; omega))])
          simp only [Act.put, List.setIfInBounds_toArray, List.set_cons_zero, List.set_cons_succ]
          refine wpAnyH_take (i := 2) (oi := { dst := some 26, op := Go.Op.move (Go.Operand.tmp 0), type := 61, pos := _, after := #[{ on := 1, ground := Go.Ground.guard }], guard := some (1, false) }) (v := undef) rfl (by kernel_rfl) (by kernel_rfl) (by kernel_rfl) (fun _ _ _ h => h) (Or.inr ⟨by rfl, rfl⟩) (by assumption) ?_
          simp only [Act.put, List.setIfInBounds_toArray, List.set_cons_zero, List.set_cons_succ]
          refine wpAnyH_take (i := 3) (oi := { dst := some 27, op := Go.Op.move (Go.Operand.tmp 9), type := 3, pos := _, after := #[{ on := 1, ground := Go.Ground.guard }], guard := some (1, false) }) (v := undef) rfl (by kernel_rfl) (by kernel_rfl) (by kernel_rfl) (fun _ _ _ h => h) (Or.inr ⟨by rfl, rfl⟩) (by assumption) ?_
          simp only [Act.put, List.setIfInBounds_toArray, List.set_cons_zero, List.set_cons_succ]
          refine wpAnyH_take (i := 4) (oi := { dst := some 28, op := Go.Op.indexAddr 61 (Go.Operand.tmp 26) (Go.Operand.tmp 27), type := 0, pos := _, after := #[{ on := 2, ground := Go.Ground.data }, { on := 3, ground := Go.Ground.data }, { on := 1, ground := Go.Ground.guard }], guard := some (1, false) }) (v := undef) rfl (by kernel_rfl) (by kernel_rfl) (by kernel_rfl) (fun _ _ _ h => h) (Or.inr ⟨by rfl, rfl⟩) (by assumption) ?_
          simp only [Act.put, List.setIfInBounds_toArray, List.set_cons_zero, List.set_cons_succ]
          refine wpAnyH_take (i := 5) (oi := { dst := some 29, op := Go.Op.load 64 (Go.Operand.tmp 28), type := 64, pos := _, after := #[{ on := 4, ground := Go.Ground.data }, { on := 1, ground := Go.Ground.guard }], guard := some (1, false) }) (v := undef) rfl (by kernel_rfl) (by kernel_rfl) (by kernel_rfl) (fun _ _ _ h => h) (Or.inr ⟨by rfl, rfl⟩) (by assumption) ?_
          simp only [Act.put, List.setIfInBounds_toArray, List.set_cons_zero, List.set_cons_succ]
          refine wpAnyH_take (i := 6) (oi := { dst := some 30, op := Go.Op.load 64 (Go.Operand.tmp 7), type := 64, pos := _, after := #[{ on := 1, ground := Go.Ground.guard }], guard := some (1, false) }) (v := undef) rfl (by kernel_rfl) (by kernel_rfl) (by kernel_rfl) (fun _ _ _ h => h) (Or.inr ⟨by rfl, rfl⟩) (by assumption) ?_
          simp only [Act.put, List.setIfInBounds_toArray, List.set_cons_zero, List.set_cons_succ]
          refine wpAnyH_take (i := 7) (oi := { dst := some 31, op := Go.Op.binOp Go.BinOp.eql 64 (Go.Operand.tmp 29) (Go.Operand.tmp 30) 64, type := 4, pos := _, after := #[{ on := 5, ground := Go.Ground.data }, { on := 6, ground := Go.Ground.data }, { on := 1, ground := Go.Ground.guard }], guard := some (1, false) }) (v := undef) rfl (by kernel_rfl) (by kernel_rfl) (by kernel_rfl) (fun _ _ _ h => h) (Or.inr ⟨by rfl, rfl⟩) (by assumption) ?_
          simp only [Act.put, List.setIfInBounds_toArray, List.set_cons_zero, List.set_cons_succ]
          refine wpAnyH_take (i := 8) (oi := { dst := some 32, op := Go.Op.pick (Go.Operand.tmp 25) (Go.Operand.const (Go.Value.bool true)) (Go.Operand.tmp 31), type := 4, pos := _, after := #[{ on := 1, ground := Go.Ground.data }, { on := 7, ground := Go.Ground.data }], guard := none }) (v := ?_) rfl (by kernel_rfl) (by kernel_rfl) (by kernel_rfl) (fun _ _ _ h => h) (Or.inl ⟨by rfl, ?_⟩) (by assumption) ?_
          rotate_left
          · intro w hSw; (try dsimp only at hSw); go_simp <;> first | with_reducible rfl | (rw [if_neg (by first | omega | (simp only [ByteArray.size_append] at *; omega))])
          simp only [Act.put, List.setIfInBounds_toArray, List.set_cons_zero, List.set_cons_succ]
          refine wpAnyH_take (i := 9) (oi := { dst := some 8, op := Go.Op.assign (Go.Operand.tmp 32), type := 4, pos := _, after := #[{ on := 8, ground := Go.Ground.data }, { on := 1, ground := Go.Ground.chain }, { on := 0, ground := Go.Ground.phase }, { on := 1, ground := Go.Ground.phase }, { on := 2, ground := Go.Ground.phase }, { on := 3, ground := Go.Ground.phase }, { on := 4, ground := Go.Ground.phase }, { on := 5, ground := Go.Ground.phase }, { on := 6, ground := Go.Ground.phase }, { on := 7, ground := Go.Ground.phase }, { on := 8, ground := Go.Ground.phase }], guard := none }) (v := ?_) rfl (by kernel_rfl) (by kernel_rfl) (by kernel_rfl) (fun _ _ _ h => h) (Or.inl ⟨by rfl, ?_⟩) (by assumption) ?_
          rotate_left
          · intro w hSw; (try dsimp only at hSw); go_simp <;> first | with_reducible rfl | (rw [if_neg (by first | omega | (simp only [ByteArray.size_append] at *; omega))])
          simp only [Act.put, List.setIfInBounds_toArray, List.set_cons_zero, List.set_cons_succ]
          refine wpAnyH_done (by kernel_rfl) ?_ _
          go_wp2_with (fail)
          go_roundw
          case rel => exact ⟨t + 1, by omega, by go_num, by rw [HT.out]; rfl, RD⟩
          case measure => simp [intOf]; omega
        | false =>
          go_wp2_with (fail)
          refine wp_region_held_drew (S := fun V => V.cell? ⟨g, t * 2, none⟩ = some (.string q.1) ∧ V.cell? ⟨g, t * 2 + 1, none⟩ = some (.int .i64 (q.2 : Int)) ∧ V.cell? ⟨w.heap.size + 1, 0, none⟩ = some (.string x.name) ∧ V.cell? ⟨w.heap.size + 1, 1, none⟩ = some (.int .i64 (ago : Int))) (by kernel_rfl) ?_ (fun hHeld => ?_)
          · exact ⟨y0, y1, y2, y3⟩
          refine wpAnyH_take (i := 0) (oi := { dst := some 24, op := Go.Op.move (Go.Operand.tmp 8), type := 4, pos := _, after := #[], guard := none }) (v := ?_) rfl (by kernel_rfl) (by kernel_rfl) (by kernel_rfl) (fun _ _ _ h => h) (Or.inl ⟨by rfl, ?_⟩) (by assumption) ?_
          rotate_left
          · intro w hSw; (try dsimp only at hSw); go_simp <;> first | with_reducible rfl | (rw [if_neg (by first | omega | (simp only [ByteArray.size_append] at *; omega))])
          simp only [Act.put, List.setIfInBounds_toArray, List.set_cons_zero, List.set_cons_succ]
          refine wpAnyH_take (i := 1) (oi := { dst := some 25, op := Go.Op.move (Go.Operand.tmp 24), type := 4, pos := _, after := #[{ on := 0, ground := Go.Ground.data }], guard := none }) (v := ?_) rfl (by kernel_rfl) (by kernel_rfl) (by kernel_rfl) (fun _ _ _ h => h) (Or.inl ⟨by rfl, ?_⟩) (by assumption) ?_
          rotate_left
          · intro w hSw; (try dsimp only at hSw); go_simp <;> first | with_reducible rfl | (rw [if_neg (by first | omega | (simp only [ByteArray.size_append] at *; omega))])
          simp only [Act.put, List.setIfInBounds_toArray, List.set_cons_zero, List.set_cons_succ]
          refine wpAnyH_take (i := 2) (oi := { dst := some 26, op := Go.Op.move (Go.Operand.tmp 0), type := 61, pos := _, after := #[{ on := 1, ground := Go.Ground.guard }], guard := some (1, false) }) (v := ?_) rfl (by kernel_rfl) (by kernel_rfl) (by kernel_rfl) (fun _ _ _ h => h) (Or.inl ⟨by rfl, ?_⟩) (by assumption) ?_
          rotate_left
          · intro w hSw; (try dsimp only at hSw); go_simp <;> first | with_reducible rfl | (rw [if_neg (by first | omega | (simp only [ByteArray.size_append] at *; omega))])
          simp only [Act.put, List.setIfInBounds_toArray, List.set_cons_zero, List.set_cons_succ]
          refine wpAnyH_take (i := 3) (oi := { dst := some 27, op := Go.Op.move (Go.Operand.tmp 9), type := 3, pos := _, after := #[{ on := 1, ground := Go.Ground.guard }], guard := some (1, false) }) (v := ?_) rfl (by kernel_rfl) (by kernel_rfl) (by kernel_rfl) (fun _ _ _ h => h) (Or.inl ⟨by rfl, ?_⟩) (by assumption) ?_
          rotate_left
          · intro w hSw; (try dsimp only at hSw); go_simp <;> first | with_reducible rfl | (rw [if_neg (by first | omega | (simp only [ByteArray.size_append] at *; omega))])
          simp only [Act.put, List.setIfInBounds_toArray, List.set_cons_zero, List.set_cons_succ]
          refine wpAnyH_take (i := 4) (oi := { dst := some 28, op := Go.Op.indexAddr 61 (Go.Operand.tmp 26) (Go.Operand.tmp 27), type := 0, pos := _, after := #[{ on := 2, ground := Go.Ground.data }, { on := 3, ground := Go.Ground.data }, { on := 1, ground := Go.Ground.guard }], guard := some (1, false) }) (v := ?_) rfl (by kernel_rfl) (by kernel_rfl) (by kernel_rfl) (fun _ _ _ h => h) (Or.inl ⟨by rfl, ?_⟩) (by assumption) ?_
          rotate_left
          · intro w hSw; (try dsimp only at hSw); go_simp <;> first | with_reducible rfl | (rw [if_neg (by first | omega | (simp only [ByteArray.size_append] at *; omega))])
          simp only [Act.put, List.setIfInBounds_toArray, List.set_cons_zero, List.set_cons_succ]
          refine wpAnyH_take (i := 5) (oi := { dst := some 29, op := Go.Op.load 64 (Go.Operand.tmp 28), type := 64, pos := _, after := #[{ on := 4, ground := Go.Ground.data }, { on := 1, ground := Go.Ground.guard }], guard := some (1, false) }) (v := ?_) rfl (by kernel_rfl) (by kernel_rfl) (by kernel_rfl) (fun _ _ _ h => h) (Or.inl ⟨by rfl, ?_⟩) (by assumption) ?_
          rotate_left
          · intro w hSw; (try dsimp only at hSw); go_simp <;> first | with_reducible rfl | (rw [if_neg (by first | omega | (simp only [ByteArray.size_append] at *; omega))])
          simp only [Act.put, List.setIfInBounds_toArray, List.set_cons_zero, List.set_cons_succ]
          refine wpAnyH_take (i := 6) (oi := { dst := some 30, op := Go.Op.load 64 (Go.Operand.tmp 7), type := 64, pos := _, after := #[{ on := 1, ground := Go.Ground.guard }], guard := some (1, false) }) (v := ?_) rfl (by kernel_rfl) (by kernel_rfl) (by kernel_rfl) (fun _ _ _ h => h) (Or.inl ⟨by rfl, ?_⟩) (by assumption) ?_
          rotate_left
          · intro w hSw; (try dsimp only at hSw); go_simp <;> first | with_reducible rfl | (rw [if_neg (by first | omega | (simp only [ByteArray.size_append] at *; omega))])
          simp only [Act.put, List.setIfInBounds_toArray, List.set_cons_zero, List.set_cons_succ]
          refine wpAnyH_take (i := 7) (oi := { dst := some 31, op := Go.Op.binOp Go.BinOp.eql 64 (Go.Operand.tmp 29) (Go.Operand.tmp 30) 64, type := 4, pos := _, after := #[{ on := 5, ground := Go.Ground.data }, { on := 6, ground := Go.Ground.data }, { on := 1, ground := Go.Ground.guard }], guard := some (1, false) }) (v := .bool bq) rfl (by kernel_rfl) (by kernel_rfl) (by kernel_rfl) (fun _ _ _ h => h) (Or.inl ⟨by rfl, ?_⟩) (by assumption) ?_
          · intro w hSw; (try dsimp only at hSw); go_simp; rw [← HBQ.out]; exact ref_eq _ _ _ _ _
          simp only [Act.put, List.setIfInBounds_toArray, List.set_cons_zero, List.set_cons_succ]
          refine wpAnyH_take (i := 8) (oi := { dst := some 32, op := Go.Op.pick (Go.Operand.tmp 25) (Go.Operand.const (Go.Value.bool true)) (Go.Operand.tmp 31), type := 4, pos := _, after := #[{ on := 1, ground := Go.Ground.data }, { on := 7, ground := Go.Ground.data }], guard := none }) (v := ?_) rfl (by kernel_rfl) (by kernel_rfl) (by kernel_rfl) (fun _ _ _ h => h) (Or.inl ⟨by rfl, ?_⟩) (by assumption) ?_
          rotate_left
          · intro w hSw; (try dsimp only at hSw); go_simp <;> first | with_reducible rfl | (rw [if_neg (by first | omega | (simp only [ByteArray.size_append] at *; omega))])
          simp only [Act.put, List.setIfInBounds_toArray, List.set_cons_zero, List.set_cons_succ]
          refine wpAnyH_take (i := 9) (oi := { dst := some 8, op := Go.Op.assign (Go.Operand.tmp 32), type := 4, pos := _, after := #[{ on := 8, ground := Go.Ground.data }, { on := 1, ground := Go.Ground.chain }, { on := 0, ground := Go.Ground.phase }, { on := 1, ground := Go.Ground.phase }, { on := 2, ground := Go.Ground.phase }, { on := 3, ground := Go.Ground.phase }, { on := 4, ground := Go.Ground.phase }, { on := 5, ground := Go.Ground.phase }, { on := 6, ground := Go.Ground.phase }, { on := 7, ground := Go.Ground.phase }, { on := 8, ground := Go.Ground.phase }], guard := none }) (v := ?_) rfl (by kernel_rfl) (by kernel_rfl) (by kernel_rfl) (fun _ _ _ h => h) (Or.inl ⟨by rfl, ?_⟩) (by assumption) ?_
          rotate_left
          · intro w hSw; (try dsimp only at hSw); go_simp <;> first | with_reducible rfl | (rw [if_neg (by first | omega | (simp only [ByteArray.size_append] at *; omega))])
          simp only [Act.put, List.setIfInBounds_toArray, List.set_cons_zero, List.set_cons_succ]
          refine wpAnyH_done (by kernel_rfl) ?_ _
          go_wp2_with (fail)
          go_roundw
          case rel => exact ⟨t + 1, by omega, by go_num, by rw [HT.out, Bool.false_or], RD⟩
          case measure => simp [intOf]; omega
      · have hlt' : ¬ (t : Int) < (acc.length : Int) := by omega
        obtain rfl : t = acc.length := by omega
        rw [List.take_length]
        clear ht hlt
        cases hin : rIn acc (x.name, ago) with
        | true =>
          have R1 : Hid (RL w0 WB (.slice va acc.length vc) (accAt k x ago acc 0) (.slice va acc.length vc) wr) := hid (show RL w0 WB _ (ownRefs x ago acc) _ wr by rw [HOR.out]; unfold addR; rw [if_pos hin]; exact HR.out)
          have RB := hid (HR.out.keep BR.out VNB.out)
          have v0 := (cell_of_row wr w.heap.size 0 _ 30 (0, 0) RB.out).trans (show _ = some (.int .u8 (x.op : Int)) from rfl)
          clear HR hin
          go_wp2_with (fail)
          clear v0
          go_loopw [0, 10] (fun l i wr => ∃ j : Nat, j ≤ x.args.length ∧ i = .int .i64 (j : Int) ∧ Hid (RL w0 WB (.slice va acc.length vc) (accAt k x ago acc j) l wr)) (fun _ i _ => x.args.length - (intOf i).toNat)
          case atStart => exact ⟨0, Nat.zero_le _, rfl, R1⟩
          case round =>
            obtain ⟨j, hj, rfl, HR⟩ := hrel
            have RB := hid (HR.out.keep BR.out VNB.out)
            have v0 := (cell_of_row wr w.heap.size 0 _ 30 (0, 0) RB.out).trans (show _ = some (.int .u8 (x.op : Int)) from rfl)
            have v3 := (cell_of_row wr w.heap.size 3 _ 30 (0, 0) RB.out).trans (show _ = some (.slice ao x.args.length cap) from rfl)
            by_cases hlt : j < x.args.length
            · have hlt' : (j : Int) < (x.args.length : Int) := by omega
              have hj0 : (0 : Int) ≤ (j : Int) := by omega
              obtain ⟨bb, o, rfl, hc⟩ := HC.out.resolve_left (by omega)
              have HBW := hid (HR.out.below VLO.out HWB.out SWB.out)
              obtain ⟨h0, h1, h2, h3⟩ := hc j hlt
              have y0 := cell_kept h0 HBW.out
              have y1 := cell_kept h1 HBW.out
              have y2 := cell_kept h2 HBW.out
              have y3 := cell_kept h3 HBW.out
              obtain ⟨a4, c4, _, e4, _⟩ := (HS.out j hlt).out
              rw [e4] at y3
              have c50 := HIH.out x.args[j] _ (nextAgo x ago) (accAt k x ago acc j) _ w0 wr (e4 ▸ HS.out j hlt) (HNM.out _ (List.getElem_mem hlt)) HBW.out HR.out.own (by unfold nextAgo; split <;> omega) (by
                have h1 := acc_len k x ago acc j
                have h2 := cntAt_succ (k := k) hlt
                have h3 := cntAt_le k x (x.args.length - (j + 1)) (j + 1) (by omega)
                have h4 := HCN.out
                omega)
              rw [← accAt_succ hlt] at c50
              rw [hna'] at c50
              clear h0 h1 h2 h3 hc e4
              generalize x.args[j] = y at *
              go_wp2_with (fail)
              refine c50.mono ?_
              rintro e w2 ⟨l', rfl, hown, hgr, hfr⟩
              have HR2 := hid (HR.out.step hown hgr hfr)
              clear hown hgr hfr
              go_wp2_with (fail)
              go_roundw
              case rel => exact ⟨j + 1, by omega, by go_num, HR2⟩
              case measure => simp [intOf]; omega
            · have hlt' : ¬ (j : Int) < (x.args.length : Int) := by omega
              obtain rfl : j = x.args.length := by omega
              have hend := HR.out
              rw [acc_all] at hend
              have HE := hid hend
              clear hend
              go_wp2_with (fail)
              go_ret
              exact ⟨_, rfl, HE.out.own, HE.out.back SWB.out WBW.out, HE.out.fr' SW.out⟩
        | false =>
          have RB := hid (HR.out.keep BR.out VNB.out)
          have HAD : Hid (ownRefs x ago acc = acc ++ [(x.name, ago)]) := hid (by rw [HOR.out]; unfold addR; rw [hin]; rfl)
          have N2 := hid (two_new wr (.string x.name) (.int .i64 (ago : Int)))
          have O2 := hid (HR.out.own.alloc (.cells #[.string x.name, .int .i64 (ago : Int)] 64))
          have BA := hid ((Below.refl wr.heap.size wr).alloc (Nat.le_refl _) (.cells #[.string x.name, .int .i64 (ago : Int)] 64))
          have v0 := (cell_of_row wr w.heap.size 0 _ 30 (0, 0) RB.out).trans (show _ = some (.int .u8 (x.op : Int)) from rfl)
          have hmx : acc.length + 1 ≤ maxLen := by unfold maxLen; omega
          have hlo : w0.heap.size ≤ (wr.alloc (.cells #[.string x.name, .int .i64 (ago : Int)] 64)).heap.size := Nat.le_trans (Nat.le_trans SWB.out HR.out.grown.size) BA.out.size
          clear hin
          go_wp2_with (at_builtin; refine wpList_append_own_at _ rfl (.tmp 35) (.tmp 37) 61 rfl w0.heap.size 64 i0 _ 2 24 Tryd.underlying61 hi hz0 hz1 hz2 rfl (by decide) _ _ _ rfl O2.out ⟨wr.heap.size, 0, none⟩ 1 1 [.string x.name, .int .i64 (ago : Int)] rfl rfl N2.out (by simp [Value.oneCell']) hmx (by omega) hlo ?_; intro l2 w6 hown6 hg6 _ hat6; have R1 : Hid (RL w0 WB (.slice va acc.length vc) (accAt k x ago acc 0) l2 w6) := hid (RL.more HR.out BA.out (by rw [show accAt k x ago acc 0 = ownRefs x ago acc from rfl, HAD.out, List.length_append, refsV_app]; exact hown6) hg6 hat6); have v0' := (cell_of_row w6 w.heap.size 0 _ 30 (0, 0) (R1.out.keep BR.out VNB.out)).trans (show _ = some (.int .u8 (x.op : Int)) from rfl); clear hown6 hg6 hat6)
          clear v0 v0' HR
          go_loopw [0, 10] (fun l i wr => ∃ j : Nat, j ≤ x.args.length ∧ i = .int .i64 (j : Int) ∧ Hid (RL w0 WB (.slice va acc.length vc) (accAt k x ago acc j) l wr)) (fun _ i _ => x.args.length - (intOf i).toNat)
          case atStart => exact ⟨0, Nat.zero_le _, rfl, R1⟩
          case round =>
            obtain ⟨j, hj, rfl, HR⟩ := hrel
            have RB := hid (HR.out.keep BR.out VNB.out)
            have v0 := (cell_of_row wr w.heap.size 0 _ 30 (0, 0) RB.out).trans (show _ = some (.int .u8 (x.op : Int)) from rfl)
            have v3 := (cell_of_row wr w.heap.size 3 _ 30 (0, 0) RB.out).trans (show _ = some (.slice ao x.args.length cap) from rfl)
            by_cases hlt : j < x.args.length
            · have hlt' : (j : Int) < (x.args.length : Int) := by omega
              have hj0 : (0 : Int) ≤ (j : Int) := by omega
              obtain ⟨bb, o, rfl, hc⟩ := HC.out.resolve_left (by omega)
              have HBW := hid (HR.out.below VLO.out HWB.out SWB.out)
              obtain ⟨h0, h1, h2, h3⟩ := hc j hlt
              have y0 := cell_kept h0 HBW.out
              have y1 := cell_kept h1 HBW.out
              have y2 := cell_kept h2 HBW.out
              have y3 := cell_kept h3 HBW.out
              obtain ⟨a4, c4, _, e4, _⟩ := (HS.out j hlt).out
              rw [e4] at y3
              have c50 := HIH.out x.args[j] _ (nextAgo x ago) (accAt k x ago acc j) _ w0 wr (e4 ▸ HS.out j hlt) (HNM.out _ (List.getElem_mem hlt)) HBW.out HR.out.own (by unfold nextAgo; split <;> omega) (by
                have h1 := acc_len k x ago acc j
                have h2 := cntAt_succ (k := k) hlt
                have h3 := cntAt_le k x (x.args.length - (j + 1)) (j + 1) (by omega)
                have h4 := HCN.out
                omega)
              rw [← accAt_succ hlt] at c50
              rw [hna'] at c50
              clear h0 h1 h2 h3 hc e4
              generalize x.args[j] = y at *
              go_wp2_with (fail)
              refine c50.mono ?_
              rintro e w2 ⟨l', rfl, hown, hgr, hfr⟩
              have HR2 := hid (HR.out.step hown hgr hfr)
              clear hown hgr hfr
              go_wp2_with (fail)
              go_roundw
              case rel => exact ⟨j + 1, by omega, by go_num, HR2⟩
              case measure => simp [intOf]; omega
            · have hlt' : ¬ (j : Int) < (x.args.length : Int) := by omega
              obtain rfl : j = x.args.length := by omega
              have hend := HR.out
              rw [acc_all] at hend
              have HE := hid hend
              clear hend
              go_wp2_with (fail)
              go_ret
              exact ⟨_, rfl, HE.out.own, HE.out.back SWB.out WBW.out, HE.out.fr' SW.out⟩
  · have h3' : ((x.op : Int) == 3) = false := by rw [beq_eq_false_iff_ne]; omega
    have BR := hid (heap_alloc_new w (.cells #[.int .u8 (x.op : Int), .int .i64 x.n, .string x.name, .slice ao x.args.length cap] 30))
    have VNB : Hid (v.ownBlock ≠ some w.heap.size) := hid (fun e => by have := (VLT.out _ e).2; omega)
    have WBW := hid ((Below.refl w.heap.size w).alloc (Nat.le_refl _) (.cells #[.int .u8 (x.op : Int), .int .i64 x.n, .string x.name, .slice ao x.args.length cap] 30))
    have HWB := hid (HB.out.trans (WBW.out.mono HB.out.size))
    have SWB : Hid (w0.heap.size ≤ (w.alloc (.cells #[.int .u8 (x.op : Int), .int .i64 x.n, .string x.name, .slice ao x.args.length cap] 30)).heap.size) := hid HWB.out.size
    have SW : Hid (w.heap.size ≤ (w.alloc (.cells #[.int .u8 (x.op : Int), .int .i64 x.n, .string x.name, .slice ao x.args.length cap] 30)).heap.size) := hid (by simp)
    have R0 := hid (RL.start (HOW.out.alloc (.cells #[.int .u8 (x.op : Int), .int .i64 x.n, .string x.name, .slice ao x.args.length cap] 30)))
    have HOR : Hid (ownRefs x ago acc = acc) := hid (by unfold ownRefs; rw [if_neg h3])
    clear h3
    by_cases h19 : x.op = 19
    · have h19' : ((x.op : Int) == 19) = true := by rw [beq_iff_eq]; omega
      have hna : nextAgo x ago = ago + 1 := by unfold nextAgo; rw [if_pos h19]
      have hna' : ((nextAgo x ago : Nat) : Int) = (ago : Int) + 1 := by rw [hna]; omega
      have hwa : IntKind.i64.wrap ((ago : Int) + 1) = (ago : Int) + 1 := by rw [IntKind.wrap_i64]; omega
      clear h19 hna
      go_enter Tryd.func62, Tryd.ntmps62
      go_wp2_with (fail)
      generalize (w.alloc (.cells #[.int .u8 (x.op : Int), .int .i64 x.n, .string x.name, .slice ao x.args.length cap] 30)) = WB at *
      have R1 : Hid (RL w0 WB v (accAt k x ago acc 0) v WB) := hid (show RL w0 WB v (ownRefs x ago acc) v WB by rw [HOR.out]; exact R0.out)
      go_loopw [0, 10] (fun l i wr => ∃ j : Nat, j ≤ x.args.length ∧ i = .int .i64 (j : Int) ∧ Hid (RL w0 WB v (accAt k x ago acc j) l wr)) (fun _ i _ => x.args.length - (intOf i).toNat)
      case atStart => exact ⟨0, Nat.zero_le _, rfl, R1⟩
      case round =>
        obtain ⟨j, hj, rfl, HR⟩ := hrel
        have RB := hid (HR.out.keep BR.out VNB.out)
        have v0 := (cell_of_row wr w.heap.size 0 _ 30 (0, 0) RB.out).trans (show _ = some (.int .u8 (x.op : Int)) from rfl)
        have v3 := (cell_of_row wr w.heap.size 3 _ 30 (0, 0) RB.out).trans (show _ = some (.slice ao x.args.length cap) from rfl)
        by_cases hlt : j < x.args.length
        · have hlt' : (j : Int) < (x.args.length : Int) := by omega
          have hj0 : (0 : Int) ≤ (j : Int) := by omega
          obtain ⟨bb, o, rfl, hc⟩ := HC.out.resolve_left (by omega)
          have HBW := hid (HR.out.below VLO.out HWB.out SWB.out)
          obtain ⟨h0, h1, h2, h3⟩ := hc j hlt
          have y0 := cell_kept h0 HBW.out
          have y1 := cell_kept h1 HBW.out
          have y2 := cell_kept h2 HBW.out
          have y3 := cell_kept h3 HBW.out
          obtain ⟨a4, c4, _, e4, _⟩ := (HS.out j hlt).out
          rw [e4] at y3
          have c50 := HIH.out x.args[j] _ (nextAgo x ago) (accAt k x ago acc j) _ w0 wr (e4 ▸ HS.out j hlt) (HNM.out _ (List.getElem_mem hlt)) HBW.out HR.out.own (by unfold nextAgo; split <;> omega) (by
            have h1 := acc_len k x ago acc j
            have h2 := cntAt_succ (k := k) hlt
            have h3 := cntAt_le k x (x.args.length - (j + 1)) (j + 1) (by omega)
            have h4 := HCN.out
            omega)
          rw [← accAt_succ hlt] at c50
          rw [hna'] at c50
          clear h0 h1 h2 h3 hc e4
          generalize x.args[j] = y at *
          go_wp2_with (fail)
          refine c50.mono ?_
          rintro e w2 ⟨l', rfl, hown, hgr, hfr⟩
          have HR2 := hid (HR.out.step hown hgr hfr)
          clear hown hgr hfr
          go_wp2_with (fail)
          go_roundw
          case rel => exact ⟨j + 1, by omega, by go_num, HR2⟩
          case measure => simp [intOf]; omega
        · have hlt' : ¬ (j : Int) < (x.args.length : Int) := by omega
          obtain rfl : j = x.args.length := by omega
          have hend := HR.out
          rw [acc_all] at hend
          have HE := hid hend
          clear hend
          go_wp2_with (fail)
          go_ret
          exact ⟨_, rfl, HE.out.own, HE.out.back SWB.out WBW.out, HE.out.fr' SW.out⟩
    · have h19' : ((x.op : Int) == 19) = false := by rw [beq_eq_false_iff_ne]; omega
      have hna' : ((nextAgo x ago : Nat) : Int) = (ago : Int) := by unfold nextAgo; rw [if_neg h19]
      clear h19
      go_enter Tryd.func62, Tryd.ntmps62
      go_wp2_with (fail)
      generalize (w.alloc (.cells #[.int .u8 (x.op : Int), .int .i64 x.n, .string x.name, .slice ao x.args.length cap] 30)) = WB at *
      have R1 : Hid (RL w0 WB v (accAt k x ago acc 0) v WB) := hid (show RL w0 WB v (ownRefs x ago acc) v WB by rw [HOR.out]; exact R0.out)
      go_loopw [0, 10] (fun l i wr => ∃ j : Nat, j ≤ x.args.length ∧ i = .int .i64 (j : Int) ∧ Hid (RL w0 WB v (accAt k x ago acc j) l wr)) (fun _ i _ => x.args.length - (intOf i).toNat)
      case atStart => exact ⟨0, Nat.zero_le _, rfl, R1⟩
      case round =>
        obtain ⟨j, hj, rfl, HR⟩ := hrel
        have RB := hid (HR.out.keep BR.out VNB.out)
        have v0 := (cell_of_row wr w.heap.size 0 _ 30 (0, 0) RB.out).trans (show _ = some (.int .u8 (x.op : Int)) from rfl)
        have v3 := (cell_of_row wr w.heap.size 3 _ 30 (0, 0) RB.out).trans (show _ = some (.slice ao x.args.length cap) from rfl)
        by_cases hlt : j < x.args.length
        · have hlt' : (j : Int) < (x.args.length : Int) := by omega
          have hj0 : (0 : Int) ≤ (j : Int) := by omega
          obtain ⟨bb, o, rfl, hc⟩ := HC.out.resolve_left (by omega)
          have HBW := hid (HR.out.below VLO.out HWB.out SWB.out)
          obtain ⟨h0, h1, h2, h3⟩ := hc j hlt
          have y0 := cell_kept h0 HBW.out
          have y1 := cell_kept h1 HBW.out
          have y2 := cell_kept h2 HBW.out
          have y3 := cell_kept h3 HBW.out
          obtain ⟨a4, c4, _, e4, _⟩ := (HS.out j hlt).out
          rw [e4] at y3
          have c50 := HIH.out x.args[j] _ (nextAgo x ago) (accAt k x ago acc j) _ w0 wr (e4 ▸ HS.out j hlt) (HNM.out _ (List.getElem_mem hlt)) HBW.out HR.out.own (by unfold nextAgo; split <;> omega) (by
            have h1 := acc_len k x ago acc j
            have h2 := cntAt_succ (k := k) hlt
            have h3 := cntAt_le k x (x.args.length - (j + 1)) (j + 1) (by omega)
            have h4 := HCN.out
            omega)
          rw [← accAt_succ hlt] at c50
          rw [hna'] at c50
          clear h0 h1 h2 h3 hc e4
          generalize x.args[j] = y at *
          go_wp2_with (fail)
          refine c50.mono ?_
          rintro e w2 ⟨l', rfl, hown, hgr, hfr⟩
          have HR2 := hid (HR.out.step hown hgr hfr)
          clear hown hgr hfr
          go_wp2_with (fail)
          go_roundw
          case rel => exact ⟨j + 1, by omega, by go_num, HR2⟩
          case measure => simp [intOf]; omega
        · have hlt' : ¬ (j : Int) < (x.args.length : Int) := by omega
          obtain rfl : j = x.args.length := by omega
          have hend := HR.out
          rw [acc_all] at hend
          have HE := hid hend
          clear hend
          go_wp2_with (fail)
          go_ret
          exact ⟨_, rfl, HE.out.own, HE.out.back SWB.out WBW.out, HE.out.fr' SW.out⟩
theorem rgather_any : ∀ k, RG k
  | 0 => fun x _ _ _ _ _ _ _ hN _ _ _ _ => by exact hN.elim
  | k + 1 => rgather_of k (rgather_any k)
set_option maxRecDepth 100000 in
theorem rrefs (k : Nat) (x : Ex) (s : Value) (w : World) (hS : St w x s) (hNm : NmOk k x) (hk : k ≤ 1099511627776) (hc : cnt k x ≤ 1099511627776) : Calls Tryd.prog 38 #[exV x s] w fun e w' => ∃ v, e = .returned v ∧ w'.ownsRow w.heap.size 64 2 v (gat k x 0 []).length (refsV (gat k x 0 [])) ∧ Below w.heap.size w w' := by
  obtain ⟨ao, cap, sl, rfl, _⟩ := hS.out
  have B0 := hid ((Below.refl w.heap.size w).alloc (Nat.le_refl _) (.cells #[.int .u8 (x.op : Int), .int .i64 x.n, .string x.name, .slice ao x.args.length cap] 30))
  have c50 := rgather_any k x (.slice ao x.args.length cap) 0 [] (.slice none 0 0) w (w.alloc (.cells #[.int .u8 (x.op : Int), .int .i64 x.n, .string x.name, .slice ao x.args.length cap] 30)) hS hNm B0.out ⟨rfl, .inl ⟨rfl, rfl⟩⟩ (by omega) (by simpa using hc)
  clear hS
  go_enter Tryd.func38, Tryd.ntmps38
  go_wp2_with (fail)
  refine c50.mono ?_
  rintro e w2 ⟨v', rfl, hown, hgr, _⟩
  have HO := hid hown
  have HB := hid (B0.out.grown hgr B0.out.size (fun j hj => by cases hj))
  clear hown hgr
  go_wp2_with (fail)
  go_ret
  exact ⟨_, rfl, HO.out, HB.out⟩
end Go.Proofs.YtejacmgppnafcaaDoor.Lex
namespace Go.Proofs.YtejacmgppnafcaaDoor.Lex
open Go.ChangeShapes Go.WideShapes Go.ChangeAt Go.RowKit Go.Joins
def RStC (x : Ex) : Prop := ∀ (w : World) (s : Value), St w x s → Calls Tryd.prog 40 #[exV x s] w fun e w' => e = .returned (.int .i64 (stE x : Int)) ∧ Below w.heap.size w w'
theorem fields_pos {x : Ex} (h : fieldsOk x.op x.n x.name x.args.length = true) (h4 : x.op = 18 ∨ x.op = 19) : 0 < x.args.length := (ok_parts h (by omega) (by omega) (by omega)).2.2.1
theorem fields_len {x : Ex} (h : fieldsOk x.op x.n x.name x.args.length = true) : x.args.length ≤ 3 := by
  by_cases h0 : x.args.length = 0
  · omega
  · exact (ok_none h (by omega)).2.2
set_option maxRecDepth 100000 in
set_option maxHeartbeats 4000000 in
theorem rstart_of_ (d : Nat) (hd : d ≤ 1000) (ih : ∀ x, okD d x → RStC x) (x : Ex) (hx : okD (d + 1) x) : RStC x := by
  intro w s hS
  obtain ⟨ao, cap, sl, rfl, hop, hn, hnm, hlen, _, hc, hs⟩ := hS.out
  have HS := hid hs
  have HC := hid hc
  have HI := hid (fun i (hi : i < x.args.length) => ih x.args[i] (hx.2 _ (List.getElem_mem hi)))
  have HF := hid hx.1
  have HLE : Hid (∀ t ∈ x.args.map stE, t ≤ d) := hid (fun t ht => by
    obtain ⟨y, hy, rfl⟩ := List.mem_map.1 ht
    exact stE_le d y (hx.2 y hy))
  have B2 := hid ((Below.refl w.heap.size w).alloc (Nat.le_refl _) (.cells #[.int .u8 (x.op : Int), .int .i64 x.n, .string x.name, .slice ao x.args.length cap] 30))
  have RX := hid (heap_alloc_new w (.cells #[.int .u8 (x.op : Int), .int .i64 x.n, .string x.name, .slice ao x.args.length cap] 30))
  obtain ⟨i0, hi, hz0, hz1, hz2⟩ := info_parts inf3
  have HOK := hid (fields_len HF.out)
  clear hs hc ih hx hS
  go_enter Tryd.func40, Tryd.ntmps40
  go_wp2_with (fail)
  generalize w.alloc (.cells #[.int .u8 (x.op : Int), .int .i64 x.n, .string x.name, .slice ao x.args.length cap] 30) = W2 at *
  go_loopw [3, 4, 5] (fun v m i wr => ∃ k : Nat, k ≤ x.args.length ∧ m = .int .i64 (lat ((x.args.take k).map stE) : Int) ∧ i = .int .i64 (k : Int) ∧ Hid (YL W2 ((x.args.take k).map stE) v wr)) (fun _ _ i _ => x.args.length - (intOf i).toNat)
  case atStart => exact ⟨0, Nat.zero_le _, rfl, rfl, hid (by simpa using YL.start W2)⟩
  case round =>
    obtain ⟨k, hk, rfl, rfl, HY⟩ := hrel
    have HBW := hid (bstep B2.out HY.out.below)
    have RXk := hid ((HY.out.below.block _ (Array.getElem?_eq_some_iff.1 RX.out).1).trans RX.out)
    have q0 := (cell_of_row wr w.heap.size 0 _ 30 (0, 0) RXk.out).trans (show _ = some (.int .u8 (x.op : Int)) from rfl)
    have q3 := (cell_of_row wr w.heap.size 3 _ 30 (0, 0) RXk.out).trans (show _ = some (.slice ao x.args.length cap) from rfl)
    by_cases hlt : k < x.args.length
    · have hlt' : (k : Int) < (x.args.length : Int) := by omega
      have hk0 : (0 : Int) ≤ (k : Int) := by omega
      obtain ⟨bb, o, rfl, hc⟩ := HC.out.resolve_left (by omega)
      obtain ⟨g0, g1, g2, g3⟩ := hc k hlt
      have y0 := cell_kept g0 HBW.out
      have y1 := cell_kept g1 HBW.out
      have y2 := cell_kept g2 HBW.out
      have y3 := cell_kept g3 HBW.out
      obtain ⟨a4, c4, _, e4, _⟩ := (HS.out k hlt).out
      rw [e4] at y3
      have HT : Hid ((x.args.take (k + 1)).map stE = (x.args.take k).map stE ++ [stE x.args[k]]) := hid (by rw [List.take_succ_eq_append_getElem hlt, List.map_append]; rfl)
      have hll : ((x.args.take k).map stE).length ≤ 3 := by have := HOK.out; simp; omega
      have HST := hid (e4 ▸ HS.out k hlt)
      have HIK := hid (HI.out k hlt)
      clear g0 g1 g2 g3 hc e4
      generalize x.args[k] = y at *
      have c40 := HIK.out _ _ (HST.out.keep HBW.out)
      generalize stE y = ty at *
      go_wp2_with (fail)
      refine c40.mono ?_
      rintro e w3 ⟨rfl, hb3⟩
      have Y3 := hid (HY.out.keep hb3)
      have HLT : Hid (lat ((x.args.take (k + 1)).map stE) = max (lat ((x.args.take k).map stE)) ty) := hid (by rw [HT.out, lat_snoc])
      generalize (x.args.take k).map stE = ll at *
      generalize hlm : lat ll = lm at *
      clear hlm
      have N2 := hid (Y3.out.keep ((Below.refl _ _).alloc (Nat.le_refl _) (.cells #[.int .i64 (ty : Int)] 3)))
      have W5 := hid (next_cells w3 [.int .i64 (ty : Int)] 3)
      have hmx : ll.length + 1 ≤ maxLen := by unfold maxLen; omega
      go_wp2_with (at_builtin; refine wpList_append_own _ rfl (.tmp 20) (.tmp 22) 96 rfl W2.heap.size 3 i0 _ 1 8 Tryd.underlying96 hi hz0 hz1 hz2 rfl (by decide) _ _ _ rfl N2.out.own ⟨w3.heap.size, 0, none⟩ 1 1 [.int .i64 (ty : Int)] rfl rfl W5.out (by simp [Value.oneCell']) hmx (by omega) N2.out.below.size ?_; intro v' w' hown1 hgrow1 _; have N3 := hid (N2.out.grow hown1 hgrow1); clear hown1 hgrow1)
      go_roundw
      case rel => exact ⟨k + 1, by omega, by rw [HLT.out]; exact congrArg (Value.int .i64) (by omega), by go_num, hid (by rw [HT.out]; exact N3.out)⟩
      case measure => simp [intOf]; omega
    · have hlt' : ¬ (k : Int) < (x.args.length : Int) := by omega
      obtain rfl : k = x.args.length := by omega
      have HTS : Hid (x.args.map stE = (x.args.take x.args.length).map stE) := hid (by rw [List.take_length])
      have HTL : Hid (((x.args.take x.args.length).map stE).length = x.args.length) := hid (by simp)
      have HAT := hid (HY.out.at)
      have HLE2 := hid (HTS.out ▸ HLE.out)
      clear hk hlt HLE
      generalize (x.args.take x.args.length).map stE = ts at *
      have HLM := hid (lat_le HLE2.out)
      by_cases h9 : x.op = 19
      · have e9 : ((x.op : Int) == 19) = true := by rw [beq_iff_eq]; omega
        have HV : Hid (stE x = lat ts + 1) := hid (by rw [stE_eq, if_neg (by have := fields_pos HF.out (.inr h9); omega), HTS.out]; unfold ruleS; rw [if_neg (by omega), if_pos h9])
        have hm : lat ts ≤ 1000 := by have := HLM.out; omega
        clear h9
        generalize lat ts = m at *
        go_wp2_with (fail)
        go_ret
        exact ⟨by rw [HV.out]; go_num, HBW.out⟩
      have e9 : ((x.op : Int) == 19) = false := by rw [beq_eq_false_iff_ne]; omega
      by_cases h8 : x.op = 18
      · have e8 : ((x.op : Int) == 18) = true := by rw [beq_iff_eq]; omega
        have hl2 := ok_then HF.out h8
        have HV0 : Hid (stE x = ruleS x.op ts) := hid (by rw [stE_eq, if_neg (by omega), HTS.out])
        obtain ⟨a, b, rfl⟩ : ∃ a b, ts = [a, b] := by
          have e2 : ts.length = 2 := by rw [HTL.out]; exact hl2
          match ts, e2 with
          | [a, b], _ => exact ⟨a, b, rfl⟩
        have HV : Hid (stE x = if a = 0 ∧ b ≤ 1 then 0 else max 1 b) := hid (by rw [HV0.out]; unfold ruleS; rw [if_pos h8]; rfl)
        obtain ⟨g, gc, rfl, hgc, hty⟩ := HAT.out (by simp)
        have z0 := hty 0 (by simp)
        have z1 := hty 1 (by simp)
        simp only [List.getElem_cons_zero, List.getElem_cons_succ] at z0 z1
        rw [show ([a, b] : List Nat).length = 2 from rfl] at *
        clear hty HAT HV0 HTS HTL HLE2 hl2 h8 h9 hgc HLM HY
        generalize lat [a, b] = m at *
        by_cases h0 : a = 0
        · have f0 : ((a : Int) == 0) = true := by rw [beq_iff_eq]; omega
          by_cases h1 : b ≤ 1
          · have f1 : (b : Int) ≤ 1 := by omega
            have HV2 : Hid (stE x = 0) := hid (by rw [HV.out, if_pos ⟨h0, h1⟩])
            clear h0 h1
            go_wp2_with (fail)
            go_ret
            exact ⟨by rw [HV2.out]; rfl, HBW.out⟩
          · have f1 : ¬ (b : Int) ≤ 1 := by omega
            have HV2 : Hid (stE x = max 1 b) := hid (by rw [HV.out, if_neg (by rintro ⟨_, h⟩; exact h1 h)])
            clear h0 h1
            go_wp2_with (fail)
            go_ret
            exact ⟨by rw [HV2.out]; exact congrArg (fun z => Ending.returned (Value.int .i64 z)) (show max (1 : Int) (b : Int) = ((max 1 b : Nat) : Int) by omega), HBW.out⟩
        · have f0 : ((a : Int) == 0) = false := by rw [beq_eq_false_iff_ne]; omega
          have HV2 : Hid (stE x = max 1 b) := hid (by rw [HV.out, if_neg (by rintro ⟨h, _⟩; exact h0 h)])
          clear h0
          go_wp2_with (fail)
          go_ret
          exact ⟨by rw [HV2.out]; exact congrArg (fun z => Ending.returned (Value.int .i64 z)) (show max (1 : Int) (b : Int) = ((max 1 b : Nat) : Int) by omega), HBW.out⟩
      have e8 : ((x.op : Int) == 18) = false := by rw [beq_eq_false_iff_ne]; omega
      have HV : Hid (stE x = lat ts) := hid (by
        rw [stE_eq, HTS.out]
        by_cases hz : x.args.length = 0
        · rw [if_pos hz]
          have e2 : ts.length = 0 := by rw [HTL.out]; exact hz
          match ts, e2 with
          | [], _ => rfl
        · rw [if_neg hz]; unfold ruleS; rw [if_neg h8, if_neg h9])
      clear h8 h9
      generalize lat ts = m at *
      go_wp2_with (fail)
      go_ret
      exact ⟨by rw [HV.out]; rfl, HBW.out⟩
theorem rstart_any : ∀ (d : Nat) (x : Ex), d ≤ 1000 → okD d x → RStC x
  | 0, _, _, h => h.elim
  | d + 1, x, hd, h => rstart_of_ d (by omega) (fun y hy => rstart_any d y (by omega) hy) x h
/-- The document's of, of what may be. -/
theorem rstart_of (x : Ex) (h : chk x = true) : RStC x := rstart_any 32 x (by omega) (chk_ok h)
end Go.Proofs.YtejacmgppnafcaaDoor.Lex
namespace Go.Proofs.YtejacmgppnafcaaDoor.Lex
open Go.ChangeShapes Go.WideShapes Go.ChangeAt Go.RowKit Go.Joins
set_option maxRecDepth 100000 in
set_option maxHeartbeats 4000000 in
theorem rof_ (p : Pg) (x : Ex) (w : World) (s A B C : Value) (hP : PgAt w p A B C) (hS : St w x s) (hR : TabR w) (hJ : TabJ w) : Calls Tryd.prog 14 #[pgV p A B C, exV x s] w fun e w' => e = .returned (.tuple #[.int .i64 ((ofV p x).1 : Int), .int .i64 (ofV p x).2]) ∧ Below w.heap.size w w' := by
  obtain ⟨ao, cap, sl, rfl, _⟩ := hS.out
  have B2 := bstep ((Below.refl w.heap.size w).alloc (Nat.le_refl _) (.cells (pgC p A B C) 26)) ((Below.refl _ _).alloc (Nat.le_refl _) (.cells #[.int .u8 (x.op : Int), .int .i64 x.n, .string x.name, .slice ao x.args.length cap] 30))
  have X0 := hid (OX.mk (w := w) (ao := ao) (cap := cap) (W := ((w.alloc (.cells (pgC p A B C) 26)).alloc (.cells #[.int .u8 (x.op : Int), .int .i64 x.n, .string x.name, .slice ao x.args.length cap] 30))) (push_old (push_new _ _ _ rfl)) (push_new _ _ _ (by simp)) (hP.keep B2) (hS.keep B2) (hR.below B2) (hJ.below B2) B2)
  clear B2 hP hS hR hJ
  go_enter Tryd.func14, Tryd.ntmps14
  go_wp2_with (fail)
  refine (rcheck x _ _ X0.out.S).mono ?_
  rintro e w1 ⟨rfl, hb1⟩
  have X1 := hid (X0.out.keep hb1)
  clear hb1 X0
  have RT := @results_two Tryd.f14 4 5 rfl
  cases hck : chk x with
  | false =>
    have HV : Hid (ofV p x = (0, 1)) := hid (by unfold ofV; rw [if_pos hck])
    clear hck
    go_wp2_with (fail)
    (try simp only [Exit.inBlock, Exit.then])
    refine bodyPost_ret (RT _ _ _) rfl ⟨by rw [HV.out]; rfl, X1.out.below⟩
  | true =>
    have HCK := hid (rstart_of x hck)
    have HNM := hid (chk_nm hck)
    have HLL : Hid ((gat 32 x 0 []).length ≤ 1000000) := hid (by have h1 := gat_len 32 x 0 []; have h2 := HNM.out.2; simp at h1; omega)
    obtain ⟨q0, q1, q2, q3⟩ := X1.out.xcs
    have HOV : Hid (ofV p x = if asksAll p x = false then (0, 6) else (stE x, 0)) := hid (by unfold ofV; rw [if_neg (by rw [hck]; simp)])
    clear hck
    go_wp2_with (fail)
    refine (rrefs 32 x _ _ X1.out.S HNM.out.1 (by omega) (by have := HNM.out.2; omega)).mono ?_
    rintro e w2 ⟨v, rfl, hrow, hb2⟩
    obtain ⟨ra, rc, rfl, hrf⟩ := RfAt.of_own hrow
    have X2 := hid (X1.out.keep hb2)
    have HRF := hid hrf
    have hLl := HLL.out
    have HAA : Hid (asksAll p x = (gat 32 x 0 []).all fun r => (findT (thingsL p) r.1).isSome) := hid rfl
    generalize gat 32 x 0 [] = G at *
    clear hrow hrf hb2 q0 q1 q2 q3 X1
    go_wp2_with (fail)
    go_loopw [7] (fun i wr => ∃ r : Nat, r ≤ G.length ∧ i = .int .i64 (r : Int) ∧ Hid (∀ z ∈ G.take r, (findT (thingsL p) z.1).isSome = true) ∧ Hid (Below w2.heap.size w2 wr)) (fun i _ => G.length - (intOf i).toNat)
    case atStart => exact ⟨0, Nat.zero_le _, rfl, hid (by simp), hid (Below.refl _ _)⟩
    case round =>
      obtain ⟨r, hr, rfl, HE, hB⟩ := hrel
      have FX := hid (X2.out.keep hB.out)
      by_cases hrl : r < G.length
      · have hrl' : (r : Int) < (G.length : Int) := by omega
        have hr0 : (0 : Int) ≤ (r : Int) := by omega
        obtain ⟨gb, rfl, hcc⟩ := HRF.out.resolve_left (by omega)
        have y0 := cell_kept (hcc r hrl).1 hB.out
        have y1 := cell_kept (hcc r hrl).2 hB.out
        have HTK := hid (List.take_succ_eq_append_getElem hrl)
        have HMG := hid (List.getElem_mem hrl)
        clear hcc
        generalize G[r] = z at *
        have c21 := rfind p z.1 _ _ _ _ (FX.out.P.keep (Below.refl _ _).drew)
        obtain ⟨v1, v2, v3, hfo⟩ := foV_some (findT (thingsL p) z.1)
        rw [hfo] at c21
        obtain ⟨s0, s1, s2, s3⟩ := FX.out.pcs
        clear hfo
        cases hz : (findT (thingsL p) z.1).isSome with
        | true =>
          rw [hz] at c21
          have HE2 : Hid (∀ q ∈ G.take (r + 1), (findT (thingsL p) q.1).isSome = true) := hid (fun q hq => by
            rw [HTK.out] at hq
            rcases List.mem_append.1 hq with h | h
            · exact HE.out q h
            · rw [List.mem_singleton.1 h]; exact hz)
          clear hz
          go_wp2_with (fail)
          refine wp_region_held_drew (S := fun W => W.cell? ⟨w.heap.size, 0, none⟩ = some (.int .i64 p.st) ∧ W.cell? ⟨w.heap.size, 1, none⟩ = some (A) ∧ W.cell? ⟨w.heap.size, 2, none⟩ = some (B) ∧ W.cell? ⟨w.heap.size, 3, none⟩ = some (C) ∧ W.cell? ⟨gb, r * 2, none⟩ = some (.string z.1) ∧ W.cell? ⟨gb, r * 2 + 1, none⟩ = some (.int .i64 (z.2 : Int))) (by kernel_rfl) ?_ (fun hHeld => ?_)
          · exact ⟨s0, s1, s2, s3, y0, y1⟩
          refine wpAnyH_take (i := 0) (oi := { dst := some 24, op := Go.Op.load 26 (Go.Operand.tmp 2), type := 26, pos := _, after := #[], guard := none }) (v := ?_) rfl (by kernel_rfl) (by kernel_rfl) (by kernel_rfl) (fun _ _ _ h => h) (Or.inl ⟨by rfl, ?_⟩) (by assumption) ?_
          rotate_left
          · intro w hSw; (try dsimp only at hSw); go_simp <;> first | with_reducible rfl | (rw [if_neg (by first | omega | (simp only [ByteArray.size_append] at *; omega))])
          simp only [Act.put, List.setIfInBounds_toArray, List.set_cons_zero, List.set_cons_succ]
          refine wpAnyH_take (i := 1) (oi := { dst := some 25, op := Go.Op.move (Go.Operand.tmp 6), type := 61, pos := _, after := #[], guard := none }) (v := ?_) rfl (by kernel_rfl) (by kernel_rfl) (by kernel_rfl) (fun _ _ _ h => h) (Or.inl ⟨by rfl, ?_⟩) (by assumption) ?_
          rotate_left
          · intro w hSw; (try dsimp only at hSw); go_simp <;> first | with_reducible rfl | (rw [if_neg (by first | omega | (simp only [ByteArray.size_append] at *; omega))])
          simp only [Act.put, List.setIfInBounds_toArray, List.set_cons_zero, List.set_cons_succ]
          refine wpAnyH_take (i := 2) (oi := { dst := some 26, op := Go.Op.move (Go.Operand.tmp 7), type := 3, pos := _, after := #[], guard := none }) (v := ?_) rfl (by kernel_rfl) (by kernel_rfl) (by kernel_rfl) (fun _ _ _ h => h) (Or.inl ⟨by rfl, ?_⟩) (by assumption) ?_
          rotate_left
          · intro w hSw; (try dsimp only at hSw); go_simp <;> first | with_reducible rfl | (rw [if_neg (by first | omega | (simp only [ByteArray.size_append] at *; omega))])
          simp only [Act.put, List.setIfInBounds_toArray, List.set_cons_zero, List.set_cons_succ]
          refine wpAnyH_take (i := 3) (oi := { dst := some 27, op := Go.Op.indexAddr 61 (Go.Operand.tmp 25) (Go.Operand.tmp 26), type := 0, pos := _, after := #[{ on := 1, ground := Go.Ground.data }, { on := 2, ground := Go.Ground.data }], guard := none }) (v := ?_) rfl (by kernel_rfl) (by kernel_rfl) (by kernel_rfl) (fun _ _ _ h => h) (Or.inl ⟨by rfl, ?_⟩) (by assumption) ?_
          rotate_left
          · intro w hSw; (try dsimp only at hSw); go_simp <;> first | with_reducible rfl | (rw [if_neg (by first | omega | (simp only [ByteArray.size_append] at *; omega))])
          simp only [Act.put, List.setIfInBounds_toArray, List.set_cons_zero, List.set_cons_succ]
          refine wpAnyH_take (i := 4) (oi := { dst := some 28, op := Go.Op.fieldAddr 64 (Go.Operand.tmp 27) 0, type := 0, pos := _, after := #[{ on := 3, ground := Go.Ground.data }], guard := none }) (v := ?_) rfl (by kernel_rfl) (by kernel_rfl) (by kernel_rfl) (fun _ _ _ h => h) (Or.inl ⟨by rfl, ?_⟩) (by assumption) ?_
          rotate_left
          · intro w hSw; (try dsimp only at hSw); go_simp <;> first | with_reducible rfl | (rw [if_neg (by first | omega | (simp only [ByteArray.size_append] at *; omega))])
          simp only [Act.put, List.setIfInBounds_toArray, List.set_cons_zero, List.set_cons_succ]
          refine wpAnyH_take (i := 5) (oi := { dst := some 29, op := Go.Op.load 9 (Go.Operand.tmp 28), type := 9, pos := _, after := #[{ on := 4, ground := Go.Ground.data }], guard := none }) (v := ?_) rfl (by kernel_rfl) (by kernel_rfl) (by kernel_rfl) (fun _ _ _ h => h) (Or.inl ⟨by rfl, ?_⟩) (by assumption) ?_
          rotate_left
          · intro w hSw; (try dsimp only at hSw); go_simp <;> first | with_reducible rfl | (rw [if_neg (by first | omega | (simp only [ByteArray.size_append] at *; omega))])
          simp only [Act.put, List.setIfInBounds_toArray, List.set_cons_zero, List.set_cons_succ]
          refine wpAnyH_ready (rs := [6]) (by kernel_rfl) (by simp) ?_
          refine AllReadyH.cons (o := { dst := some 30, op := Go.Op.call { callee := Go.Callee.value (Go.Operand.func 39), args := #[Go.Operand.tmp 24, Go.Operand.tmp 29], argTypes := #[26, 9] }, type := 65, pos := _, after := #[{ on := 0, ground := Go.Ground.data }, { on := 5, ground := Go.Ground.data }], guard := none }) rfl (fun K hK => ?_) AllReadyH.nil
          go_simp
          refine c21.mono ?_
          rintro e w3 ⟨rfl, hb3'⟩
          have hb3 : Below wr.heap.size wr w3 := (Below.refl _ _).drew.trans (hb3'.mono (by simp))
          have X3 := hid (FX.out.keep hb3)
          obtain ⟨t0, t1, t2, t3⟩ := row4 X3.out.prow
          have x0 := cell_kept y0 hb3
          have x1 := cell_kept y1 hb3
          have HB3 := hid (hB.out.trans (hb3.mono hB.out.size))
          clear hb3 hb3'
          go_wp2_with fail
          refine hK.out _ _ ?_ (fun hHeld1 => ?_)
          · exact ⟨t0, t1, t2, t3, x0, x1⟩
          clear hK K
          refine wpAnyH_take (i := 7) (oi := { dst := some 23, op := Go.Op.move (Go.Operand.tmp 30), type := 65, pos := _, after := #[{ on := 6, ground := Go.Ground.data }], guard := none }) (v := ?_) rfl (by kernel_rfl) (by kernel_rfl) (by kernel_rfl) (fun _ _ _ h => h) (Or.inl ⟨by rfl, ?_⟩) (by assumption) ?_
          rotate_left
          · intro w hSw; (try dsimp only at hSw); go_simp <;> first | with_reducible rfl | (rw [if_neg (by first | omega | (simp only [ByteArray.size_append] at *; omega))])
          simp only [Act.put, List.setIfInBounds_toArray, List.set_cons_zero, List.set_cons_succ]
          refine wpAnyH_take (i := 8) (oi := { dst := some 31, op := Go.Op.extract (Go.Operand.tmp 23) 0, type := 3, pos := _, after := #[{ on := 7, ground := Go.Ground.data }], guard := none }) (v := ?_) rfl (by kernel_rfl) (by kernel_rfl) (by kernel_rfl) (fun _ _ _ h => h) (Or.inl ⟨by rfl, ?_⟩) (by assumption) ?_
          rotate_left
          · intro w hSw; (try dsimp only at hSw); go_simp <;> first | with_reducible rfl | (rw [if_neg (by first | omega | (simp only [ByteArray.size_append] at *; omega))])
          simp only [Act.put, List.setIfInBounds_toArray, List.set_cons_zero, List.set_cons_succ]
          refine wpAnyH_take (i := 9) (oi := { dst := some 32, op := Go.Op.extract (Go.Operand.tmp 23) 1, type := 51, pos := _, after := #[{ on := 7, ground := Go.Ground.data }, { on := 12, ground := Go.Ground.gcOnly Go.Departure.lateStores }], guard := none }) (v := ?_) rfl (by kernel_rfl) (by kernel_rfl) (by kernel_rfl) (fun _ _ _ h => h) (Or.inl ⟨by rfl, ?_⟩) (by assumption) ?_
          rotate_left
          · intro w hSw; (try dsimp only at hSw); go_simp <;> first | with_reducible rfl | (rw [if_neg (by first | omega | (simp only [ByteArray.size_append] at *; omega))])
          simp only [Act.put, List.setIfInBounds_toArray, List.set_cons_zero, List.set_cons_succ]
          refine wpAnyH_take (i := 10) (oi := { dst := some 33, op := Go.Op.extract (Go.Operand.tmp 23) 2, type := 3, pos := _, after := #[{ on := 7, ground := Go.Ground.data }, { on := 13, ground := Go.Ground.gcOnly Go.Departure.lateStores }], guard := none }) (v := ?_) rfl (by kernel_rfl) (by kernel_rfl) (by kernel_rfl) (fun _ _ _ h => h) (Or.inl ⟨by rfl, ?_⟩) (by assumption) ?_
          rotate_left
          · intro w hSw; (try dsimp only at hSw); go_simp <;> first | with_reducible rfl | (rw [if_neg (by first | omega | (simp only [ByteArray.size_append] at *; omega))])
          simp only [Act.put, List.setIfInBounds_toArray, List.set_cons_zero, List.set_cons_succ]
          refine wpAnyH_take (i := 11) (oi := { dst := some 34, op := Go.Op.extract (Go.Operand.tmp 23) 3, type := 4, pos := _, after := #[{ on := 7, ground := Go.Ground.data }, { on := 14, ground := Go.Ground.gcOnly Go.Departure.lateStores }], guard := none }) (v := ?_) rfl (by kernel_rfl) (by kernel_rfl) (by kernel_rfl) (fun _ _ _ h => h) (Or.inl ⟨by rfl, ?_⟩) (by assumption) ?_
          rotate_left
          · intro w hSw; (try dsimp only at hSw); go_simp <;> first | with_reducible rfl | (rw [if_neg (by first | omega | (simp only [ByteArray.size_append] at *; omega))])
          simp only [Act.put, List.setIfInBounds_toArray, List.set_cons_zero, List.set_cons_succ]
          refine wpAnyH_take (i := 12) (oi := { dst := some 8, op := Go.Op.assign (Go.Operand.tmp 31), type := 3, pos := _, after := #[{ on := 8, ground := Go.Ground.data }, { on := 6, ground := Go.Ground.chain }, { on := 0, ground := Go.Ground.phase }, { on := 1, ground := Go.Ground.phase }, { on := 2, ground := Go.Ground.phase }, { on := 3, ground := Go.Ground.phase }, { on := 4, ground := Go.Ground.phase }, { on := 5, ground := Go.Ground.phase }, { on := 6, ground := Go.Ground.phase }, { on := 7, ground := Go.Ground.phase }, { on := 8, ground := Go.Ground.phase }, { on := 9, ground := Go.Ground.textOnly Go.Departure.lateStores }, { on := 10, ground := Go.Ground.textOnly Go.Departure.lateStores }, { on := 11, ground := Go.Ground.textOnly Go.Departure.lateStores }], guard := none }) (v := ?_) rfl (by kernel_rfl) (by kernel_rfl) (by kernel_rfl) (fun _ _ _ h => h) (Or.inl ⟨by rfl, ?_⟩) (by assumption) ?_
          rotate_left
          · intro w hSw; (try dsimp only at hSw); go_simp <;> first | with_reducible rfl | (rw [if_neg (by first | omega | (simp only [ByteArray.size_append] at *; omega))])
          simp only [Act.put, List.setIfInBounds_toArray, List.set_cons_zero, List.set_cons_succ]
          refine wpAnyH_take (i := 13) (oi := { dst := some 9, op := Go.Op.assign (Go.Operand.tmp 32), type := 51, pos := _, after := #[{ on := 9, ground := Go.Ground.data }, { on := 12, ground := Go.Ground.chain }, { on := 0, ground := Go.Ground.phase }, { on := 1, ground := Go.Ground.phase }, { on := 2, ground := Go.Ground.phase }, { on := 3, ground := Go.Ground.phase }, { on := 4, ground := Go.Ground.phase }, { on := 5, ground := Go.Ground.phase }, { on := 6, ground := Go.Ground.phase }, { on := 7, ground := Go.Ground.phase }, { on := 8, ground := Go.Ground.phase }, { on := 9, ground := Go.Ground.phase }, { on := 10, ground := Go.Ground.textOnly Go.Departure.lateStores }, { on := 11, ground := Go.Ground.textOnly Go.Departure.lateStores }, { on := 12, ground := Go.Ground.phase }], guard := none }) (v := ?_) rfl (by kernel_rfl) (by kernel_rfl) (by kernel_rfl) (fun _ _ _ h => h) (Or.inl ⟨by rfl, ?_⟩) (by assumption) ?_
          rotate_left
          · intro w hSw; (try dsimp only at hSw); go_simp <;> first | with_reducible rfl | (rw [if_neg (by first | omega | (simp only [ByteArray.size_append] at *; omega))])
          simp only [Act.put, List.setIfInBounds_toArray, List.set_cons_zero, List.set_cons_succ]
          refine wpAnyH_take (i := 14) (oi := { dst := some 10, op := Go.Op.assign (Go.Operand.tmp 33), type := 3, pos := _, after := #[{ on := 10, ground := Go.Ground.data }, { on := 13, ground := Go.Ground.chain }, { on := 0, ground := Go.Ground.phase }, { on := 1, ground := Go.Ground.phase }, { on := 2, ground := Go.Ground.phase }, { on := 3, ground := Go.Ground.phase }, { on := 4, ground := Go.Ground.phase }, { on := 5, ground := Go.Ground.phase }, { on := 6, ground := Go.Ground.phase }, { on := 7, ground := Go.Ground.phase }, { on := 8, ground := Go.Ground.phase }, { on := 9, ground := Go.Ground.phase }, { on := 10, ground := Go.Ground.phase }, { on := 11, ground := Go.Ground.textOnly Go.Departure.lateStores }, { on := 12, ground := Go.Ground.phase }, { on := 13, ground := Go.Ground.phase }], guard := none }) (v := ?_) rfl (by kernel_rfl) (by kernel_rfl) (by kernel_rfl) (fun _ _ _ h => h) (Or.inl ⟨by rfl, ?_⟩) (by assumption) ?_
          rotate_left
          · intro w hSw; (try dsimp only at hSw); go_simp <;> first | with_reducible rfl | (rw [if_neg (by first | omega | (simp only [ByteArray.size_append] at *; omega))])
          simp only [Act.put, List.setIfInBounds_toArray, List.set_cons_zero, List.set_cons_succ]
          refine wpAnyH_take (i := 15) (oi := { dst := some 11, op := Go.Op.assign (Go.Operand.tmp 34), type := 4, pos := _, after := #[{ on := 11, ground := Go.Ground.data }, { on := 14, ground := Go.Ground.chain }, { on := 0, ground := Go.Ground.phase }, { on := 1, ground := Go.Ground.phase }, { on := 2, ground := Go.Ground.phase }, { on := 3, ground := Go.Ground.phase }, { on := 4, ground := Go.Ground.phase }, { on := 5, ground := Go.Ground.phase }, { on := 6, ground := Go.Ground.phase }, { on := 7, ground := Go.Ground.phase }, { on := 8, ground := Go.Ground.phase }, { on := 9, ground := Go.Ground.phase }, { on := 10, ground := Go.Ground.phase }, { on := 11, ground := Go.Ground.phase }, { on := 12, ground := Go.Ground.phase }, { on := 13, ground := Go.Ground.phase }, { on := 14, ground := Go.Ground.phase }], guard := none }) (v := ?_) rfl (by kernel_rfl) (by kernel_rfl) (by kernel_rfl) (fun _ _ _ h => h) (Or.inl ⟨by rfl, ?_⟩) (by assumption) ?_
          rotate_left
          · intro w hSw; (try dsimp only at hSw); go_simp <;> first | with_reducible rfl | (rw [if_neg (by first | omega | (simp only [ByteArray.size_append] at *; omega))])
          simp only [Act.put, List.setIfInBounds_toArray, List.set_cons_zero, List.set_cons_succ]
          refine wpAnyH_done (by kernel_rfl) ?_ _
          go_wp2_with (fail)
          go_roundw
          case rel => exact ⟨r + 1, by omega, by go_num, HE2, HB3⟩
          case measure => simp [intOf]; omega
        | false =>
          rw [hz] at c21
          have HV : Hid (ofV p x = (0, 6)) := hid (by rw [HOV.out, if_pos]; rw [HAA.out, List.all_eq_false]; exact ⟨z, HMG.out, by rw [hz]; simp⟩)
          clear hz
          go_wp2_with (fail)
          refine wp_region_held_drew (S := fun W => W.cell? ⟨w.heap.size, 0, none⟩ = some (.int .i64 p.st) ∧ W.cell? ⟨w.heap.size, 1, none⟩ = some (A) ∧ W.cell? ⟨w.heap.size, 2, none⟩ = some (B) ∧ W.cell? ⟨w.heap.size, 3, none⟩ = some (C) ∧ W.cell? ⟨gb, r * 2, none⟩ = some (.string z.1) ∧ W.cell? ⟨gb, r * 2 + 1, none⟩ = some (.int .i64 (z.2 : Int))) (by kernel_rfl) ?_ (fun hHeld => ?_)
          · exact ⟨s0, s1, s2, s3, y0, y1⟩
          refine wpAnyH_take (i := 0) (oi := { dst := some 24, op := Go.Op.load 26 (Go.Operand.tmp 2), type := 26, pos := _, after := #[], guard := none }) (v := ?_) rfl (by kernel_rfl) (by kernel_rfl) (by kernel_rfl) (fun _ _ _ h => h) (Or.inl ⟨by rfl, ?_⟩) (by assumption) ?_
          rotate_left
          · intro w hSw; (try dsimp only at hSw); go_simp <;> first | with_reducible rfl | (rw [if_neg (by first | omega | (simp only [ByteArray.size_append] at *; omega))])
          simp only [Act.put, List.setIfInBounds_toArray, List.set_cons_zero, List.set_cons_succ]
          refine wpAnyH_take (i := 1) (oi := { dst := some 25, op := Go.Op.move (Go.Operand.tmp 6), type := 61, pos := _, after := #[], guard := none }) (v := ?_) rfl (by kernel_rfl) (by kernel_rfl) (by kernel_rfl) (fun _ _ _ h => h) (Or.inl ⟨by rfl, ?_⟩) (by assumption) ?_
          rotate_left
          · intro w hSw; (try dsimp only at hSw); go_simp <;> first | with_reducible rfl | (rw [if_neg (by first | omega | (simp only [ByteArray.size_append] at *; omega))])
          simp only [Act.put, List.setIfInBounds_toArray, List.set_cons_zero, List.set_cons_succ]
          refine wpAnyH_take (i := 2) (oi := { dst := some 26, op := Go.Op.move (Go.Operand.tmp 7), type := 3, pos := _, after := #[], guard := none }) (v := ?_) rfl (by kernel_rfl) (by kernel_rfl) (by kernel_rfl) (fun _ _ _ h => h) (Or.inl ⟨by rfl, ?_⟩) (by assumption) ?_
          rotate_left
          · intro w hSw; (try dsimp only at hSw); go_simp <;> first | with_reducible rfl | (rw [if_neg (by first | omega | (simp only [ByteArray.size_append] at *; omega))])
          simp only [Act.put, List.setIfInBounds_toArray, List.set_cons_zero, List.set_cons_succ]
          refine wpAnyH_take (i := 3) (oi := { dst := some 27, op := Go.Op.indexAddr 61 (Go.Operand.tmp 25) (Go.Operand.tmp 26), type := 0, pos := _, after := #[{ on := 1, ground := Go.Ground.data }, { on := 2, ground := Go.Ground.data }], guard := none }) (v := ?_) rfl (by kernel_rfl) (by kernel_rfl) (by kernel_rfl) (fun _ _ _ h => h) (Or.inl ⟨by rfl, ?_⟩) (by assumption) ?_
          rotate_left
          · intro w hSw; (try dsimp only at hSw); go_simp <;> first | with_reducible rfl | (rw [if_neg (by first | omega | (simp only [ByteArray.size_append] at *; omega))])
          simp only [Act.put, List.setIfInBounds_toArray, List.set_cons_zero, List.set_cons_succ]
          refine wpAnyH_take (i := 4) (oi := { dst := some 28, op := Go.Op.fieldAddr 64 (Go.Operand.tmp 27) 0, type := 0, pos := _, after := #[{ on := 3, ground := Go.Ground.data }], guard := none }) (v := ?_) rfl (by kernel_rfl) (by kernel_rfl) (by kernel_rfl) (fun _ _ _ h => h) (Or.inl ⟨by rfl, ?_⟩) (by assumption) ?_
          rotate_left
          · intro w hSw; (try dsimp only at hSw); go_simp <;> first | with_reducible rfl | (rw [if_neg (by first | omega | (simp only [ByteArray.size_append] at *; omega))])
          simp only [Act.put, List.setIfInBounds_toArray, List.set_cons_zero, List.set_cons_succ]
          refine wpAnyH_take (i := 5) (oi := { dst := some 29, op := Go.Op.load 9 (Go.Operand.tmp 28), type := 9, pos := _, after := #[{ on := 4, ground := Go.Ground.data }], guard := none }) (v := ?_) rfl (by kernel_rfl) (by kernel_rfl) (by kernel_rfl) (fun _ _ _ h => h) (Or.inl ⟨by rfl, ?_⟩) (by assumption) ?_
          rotate_left
          · intro w hSw; (try dsimp only at hSw); go_simp <;> first | with_reducible rfl | (rw [if_neg (by first | omega | (simp only [ByteArray.size_append] at *; omega))])
          simp only [Act.put, List.setIfInBounds_toArray, List.set_cons_zero, List.set_cons_succ]
          refine wpAnyH_ready (rs := [6]) (by kernel_rfl) (by simp) ?_
          refine AllReadyH.cons (o := { dst := some 30, op := Go.Op.call { callee := Go.Callee.value (Go.Operand.func 39), args := #[Go.Operand.tmp 24, Go.Operand.tmp 29], argTypes := #[26, 9] }, type := 65, pos := _, after := #[{ on := 0, ground := Go.Ground.data }, { on := 5, ground := Go.Ground.data }], guard := none }) rfl (fun K hK => ?_) AllReadyH.nil
          go_simp
          refine c21.mono ?_
          rintro e w3 ⟨rfl, hb3'⟩
          have hb3 : Below wr.heap.size wr w3 := (Below.refl _ _).drew.trans (hb3'.mono (by simp))
          have X3 := hid (FX.out.keep hb3)
          obtain ⟨t0, t1, t2, t3⟩ := row4 X3.out.prow
          have x0 := cell_kept y0 hb3
          have x1 := cell_kept y1 hb3
          have HB3 := hid (hB.out.trans (hb3.mono hB.out.size))
          clear hb3 hb3'
          go_wp2_with fail
          refine hK.out _ _ ?_ (fun hHeld1 => ?_)
          · exact ⟨t0, t1, t2, t3, x0, x1⟩
          clear hK K
          refine wpAnyH_take (i := 7) (oi := { dst := some 23, op := Go.Op.move (Go.Operand.tmp 30), type := 65, pos := _, after := #[{ on := 6, ground := Go.Ground.data }], guard := none }) (v := ?_) rfl (by kernel_rfl) (by kernel_rfl) (by kernel_rfl) (fun _ _ _ h => h) (Or.inl ⟨by rfl, ?_⟩) (by assumption) ?_
          rotate_left
          · intro w hSw; (try dsimp only at hSw); go_simp <;> first | with_reducible rfl | (rw [if_neg (by first | omega | (simp only [ByteArray.size_append] at *; omega))])
          simp only [Act.put, List.setIfInBounds_toArray, List.set_cons_zero, List.set_cons_succ]
          refine wpAnyH_take (i := 8) (oi := { dst := some 31, op := Go.Op.extract (Go.Operand.tmp 23) 0, type := 3, pos := _, after := #[{ on := 7, ground := Go.Ground.data }], guard := none }) (v := ?_) rfl (by kernel_rfl) (by kernel_rfl) (by kernel_rfl) (fun _ _ _ h => h) (Or.inl ⟨by rfl, ?_⟩) (by assumption) ?_
          rotate_left
          · intro w hSw; (try dsimp only at hSw); go_simp <;> first | with_reducible rfl | (rw [if_neg (by first | omega | (simp only [ByteArray.size_append] at *; omega))])
          simp only [Act.put, List.setIfInBounds_toArray, List.set_cons_zero, List.set_cons_succ]
          refine wpAnyH_take (i := 9) (oi := { dst := some 32, op := Go.Op.extract (Go.Operand.tmp 23) 1, type := 51, pos := _, after := #[{ on := 7, ground := Go.Ground.data }, { on := 12, ground := Go.Ground.gcOnly Go.Departure.lateStores }], guard := none }) (v := ?_) rfl (by kernel_rfl) (by kernel_rfl) (by kernel_rfl) (fun _ _ _ h => h) (Or.inl ⟨by rfl, ?_⟩) (by assumption) ?_
          rotate_left
          · intro w hSw; (try dsimp only at hSw); go_simp <;> first | with_reducible rfl | (rw [if_neg (by first | omega | (simp only [ByteArray.size_append] at *; omega))])
          simp only [Act.put, List.setIfInBounds_toArray, List.set_cons_zero, List.set_cons_succ]
          refine wpAnyH_take (i := 10) (oi := { dst := some 33, op := Go.Op.extract (Go.Operand.tmp 23) 2, type := 3, pos := _, after := #[{ on := 7, ground := Go.Ground.data }, { on := 13, ground := Go.Ground.gcOnly Go.Departure.lateStores }], guard := none }) (v := ?_) rfl (by kernel_rfl) (by kernel_rfl) (by kernel_rfl) (fun _ _ _ h => h) (Or.inl ⟨by rfl, ?_⟩) (by assumption) ?_
          rotate_left
          · intro w hSw; (try dsimp only at hSw); go_simp <;> first | with_reducible rfl | (rw [if_neg (by first | omega | (simp only [ByteArray.size_append] at *; omega))])
          simp only [Act.put, List.setIfInBounds_toArray, List.set_cons_zero, List.set_cons_succ]
          refine wpAnyH_take (i := 11) (oi := { dst := some 34, op := Go.Op.extract (Go.Operand.tmp 23) 3, type := 4, pos := _, after := #[{ on := 7, ground := Go.Ground.data }, { on := 14, ground := Go.Ground.gcOnly Go.Departure.lateStores }], guard := none }) (v := ?_) rfl (by kernel_rfl) (by kernel_rfl) (by kernel_rfl) (fun _ _ _ h => h) (Or.inl ⟨by rfl, ?_⟩) (by assumption) ?_
          rotate_left
          · intro w hSw; (try dsimp only at hSw); go_simp <;> first | with_reducible rfl | (rw [if_neg (by first | omega | (simp only [ByteArray.size_append] at *; omega))])
          simp only [Act.put, List.setIfInBounds_toArray, List.set_cons_zero, List.set_cons_succ]
          refine wpAnyH_take (i := 12) (oi := { dst := some 8, op := Go.Op.assign (Go.Operand.tmp 31), type := 3, pos := _, after := #[{ on := 8, ground := Go.Ground.data }, { on := 6, ground := Go.Ground.chain }, { on := 0, ground := Go.Ground.phase }, { on := 1, ground := Go.Ground.phase }, { on := 2, ground := Go.Ground.phase }, { on := 3, ground := Go.Ground.phase }, { on := 4, ground := Go.Ground.phase }, { on := 5, ground := Go.Ground.phase }, { on := 6, ground := Go.Ground.phase }, { on := 7, ground := Go.Ground.phase }, { on := 8, ground := Go.Ground.phase }, { on := 9, ground := Go.Ground.textOnly Go.Departure.lateStores }, { on := 10, ground := Go.Ground.textOnly Go.Departure.lateStores }, { on := 11, ground := Go.Ground.textOnly Go.Departure.lateStores }], guard := none }) (v := ?_) rfl (by kernel_rfl) (by kernel_rfl) (by kernel_rfl) (fun _ _ _ h => h) (Or.inl ⟨by rfl, ?_⟩) (by assumption) ?_
          rotate_left
          · intro w hSw; (try dsimp only at hSw); go_simp <;> first | with_reducible rfl | (rw [if_neg (by first | omega | (simp only [ByteArray.size_append] at *; omega))])
          simp only [Act.put, List.setIfInBounds_toArray, List.set_cons_zero, List.set_cons_succ]
          refine wpAnyH_take (i := 13) (oi := { dst := some 9, op := Go.Op.assign (Go.Operand.tmp 32), type := 51, pos := _, after := #[{ on := 9, ground := Go.Ground.data }, { on := 12, ground := Go.Ground.chain }, { on := 0, ground := Go.Ground.phase }, { on := 1, ground := Go.Ground.phase }, { on := 2, ground := Go.Ground.phase }, { on := 3, ground := Go.Ground.phase }, { on := 4, ground := Go.Ground.phase }, { on := 5, ground := Go.Ground.phase }, { on := 6, ground := Go.Ground.phase }, { on := 7, ground := Go.Ground.phase }, { on := 8, ground := Go.Ground.phase }, { on := 9, ground := Go.Ground.phase }, { on := 10, ground := Go.Ground.textOnly Go.Departure.lateStores }, { on := 11, ground := Go.Ground.textOnly Go.Departure.lateStores }, { on := 12, ground := Go.Ground.phase }], guard := none }) (v := ?_) rfl (by kernel_rfl) (by kernel_rfl) (by kernel_rfl) (fun _ _ _ h => h) (Or.inl ⟨by rfl, ?_⟩) (by assumption) ?_
          rotate_left
          · intro w hSw; (try dsimp only at hSw); go_simp <;> first | with_reducible rfl | (rw [if_neg (by first | omega | (simp only [ByteArray.size_append] at *; omega))])
          simp only [Act.put, List.setIfInBounds_toArray, List.set_cons_zero, List.set_cons_succ]
          refine wpAnyH_take (i := 14) (oi := { dst := some 10, op := Go.Op.assign (Go.Operand.tmp 33), type := 3, pos := _, after := #[{ on := 10, ground := Go.Ground.data }, { on := 13, ground := Go.Ground.chain }, { on := 0, ground := Go.Ground.phase }, { on := 1, ground := Go.Ground.phase }, { on := 2, ground := Go.Ground.phase }, { on := 3, ground := Go.Ground.phase }, { on := 4, ground := Go.Ground.phase }, { on := 5, ground := Go.Ground.phase }, { on := 6, ground := Go.Ground.phase }, { on := 7, ground := Go.Ground.phase }, { on := 8, ground := Go.Ground.phase }, { on := 9, ground := Go.Ground.phase }, { on := 10, ground := Go.Ground.phase }, { on := 11, ground := Go.Ground.textOnly Go.Departure.lateStores }, { on := 12, ground := Go.Ground.phase }, { on := 13, ground := Go.Ground.phase }], guard := none }) (v := ?_) rfl (by kernel_rfl) (by kernel_rfl) (by kernel_rfl) (fun _ _ _ h => h) (Or.inl ⟨by rfl, ?_⟩) (by assumption) ?_
          rotate_left
          · intro w hSw; (try dsimp only at hSw); go_simp <;> first | with_reducible rfl | (rw [if_neg (by first | omega | (simp only [ByteArray.size_append] at *; omega))])
          simp only [Act.put, List.setIfInBounds_toArray, List.set_cons_zero, List.set_cons_succ]
          refine wpAnyH_take (i := 15) (oi := { dst := some 11, op := Go.Op.assign (Go.Operand.tmp 34), type := 4, pos := _, after := #[{ on := 11, ground := Go.Ground.data }, { on := 14, ground := Go.Ground.chain }, { on := 0, ground := Go.Ground.phase }, { on := 1, ground := Go.Ground.phase }, { on := 2, ground := Go.Ground.phase }, { on := 3, ground := Go.Ground.phase }, { on := 4, ground := Go.Ground.phase }, { on := 5, ground := Go.Ground.phase }, { on := 6, ground := Go.Ground.phase }, { on := 7, ground := Go.Ground.phase }, { on := 8, ground := Go.Ground.phase }, { on := 9, ground := Go.Ground.phase }, { on := 10, ground := Go.Ground.phase }, { on := 11, ground := Go.Ground.phase }, { on := 12, ground := Go.Ground.phase }, { on := 13, ground := Go.Ground.phase }, { on := 14, ground := Go.Ground.phase }], guard := none }) (v := ?_) rfl (by kernel_rfl) (by kernel_rfl) (by kernel_rfl) (fun _ _ _ h => h) (Or.inl ⟨by rfl, ?_⟩) (by assumption) ?_
          rotate_left
          · intro w hSw; (try dsimp only at hSw); go_simp <;> first | with_reducible rfl | (rw [if_neg (by first | omega | (simp only [ByteArray.size_append] at *; omega))])
          simp only [Act.put, List.setIfInBounds_toArray, List.set_cons_zero, List.set_cons_succ]
          refine wpAnyH_done (by kernel_rfl) ?_ _
          have hBB := X3.out.below
          go_wp2_with (fail)
          (try simp only [Exit.inBlock, Exit.then])
          refine bodyPost_ret (RT _ _ _) rfl ⟨by rw [HV.out]; rfl, hBB⟩
      · have hrl' : ¬ (r : Int) < (G.length : Int) := by omega
        obtain rfl : r = G.length := by omega
        have HOW : Hid (ofV p x = (stE x, 0)) := hid (by
          rw [HOV.out, if_neg]
          rw [HAA.out, List.all_eq_true.2 (fun q hq => HE.out q (by rw [List.take_length]; exact hq))]
          simp)
        obtain ⟨s0, s1, s2, s3⟩ := FX.out.pcs
        obtain ⟨q0, q1, q2, q3⟩ := FX.out.xcs
        clear hr hrl
        go_wp2_with (fail)
        refine (HCK.out _ _ FX.out.S).mono ?_
        rintro e v2 ⟨rfl, hb2⟩
        have X2' := hid (FX.out.keep hb2)
        clear s0 s1 s2 s3 q0 q1 q2 q3 hb2
        have HV : Hid (ofV p x = (stE x, 0)) := HOW
        generalize stE x = ty at *
        go_wp2_with (fail)
        (try simp only [Exit.inBlock, Exit.then])
        refine bodyPost_ret (RT _ _ _) rfl ⟨by rw [HV.out]; rfl, X2'.out.below⟩
end Go.Proofs.YtejacmgppnafcaaDoor.Lex
namespace Go.Proofs.YtejacmgppnafcaaDoor.Lex
open Go.ChangeShapes Go.WideShapes Go.ChangeAt Go.RowKit Go.Shelf
set_option maxRecDepth 100000 in
set_option maxHeartbeats 2000000 in
theorem ris (p : Pg) (nm : ByteArray) (ty : Nat) (st : Int) (w : World) (A B C : Value) (hs : nm.size ≤ 140737488355328) :
    Calls Tryd.prog 77 #[pgV p A B C, .string nm, .int .u8 (ty : Int), .int .i64 st] w fun e w' => e = .returned (.bool (hdOk ⟨nm, ty, st⟩ p.st)) ∧ Below w.heap.size w w' := by
  have B0 := hid ((Below.refl w.heap.size w).alloc (Nat.le_refl _) (.cells (pgC p A B C) 26))
  have z0 := (row4 (heap_alloc_new w (.cells (pgC p A B C) 26))).1
  have cN := refName nm (w.alloc (.cells (pgC p A B C) 26)) hs
  have hd : hdOk ⟨nm, ty, st⟩ p.st = (isName nm && ((ty == 1 || ty == 2) && (decide (1 ≤ st) && decide (st ≤ p.st)))) := rfl
  have HD := hid hd
  clear hd
  cases hnm : isName nm with
  | false =>
    rw [hnm] at cN
    have HV : Hid (hdOk ⟨nm, ty, st⟩ p.st = false) := hid (by rw [HD.out, hnm]; rfl)
    clear hnm
    go_enter Tryd.func77, Tryd.ntmps77
    go_wp2_with (fail)
    refine cN.mono ?_
    rintro e w1 ⟨rfl, hb1⟩
    have q0 := cell_kept z0 hb1
    have hB := hid (bstep B0.out hb1)
    go_wp2_with (fail)
    go_ret
    exact ⟨by rw [HV.out]; first | rfl | (show Ending.returned (.bool (decide (st ≤ p.st))) = _; rw [decide_eq_false (by omega)]), hB.out⟩
  | true =>
    rw [hnm] at cN
    by_cases h1 : ty = 1
    · have e1 : ((ty : Int) == 1) = true := by rw [beq_iff_eq]; omega
      have hb1 : (ty == 1) = true := by rw [beq_iff_eq]; exact h1
      by_cases h3 : 1 ≤ st
      · by_cases h4 : st ≤ p.st
        · have HV : Hid (hdOk ⟨nm, ty, st⟩ p.st = true) := hid (by rw [HD.out, hnm, hb1, decide_eq_true h3, decide_eq_true h4]; rfl)
          clear hnm h1 hb1
          go_enter Tryd.func77, Tryd.ntmps77
          go_wp2_with (fail)
          refine cN.mono ?_
          rintro e w1 ⟨rfl, hb1⟩
          have q0 := cell_kept z0 hb1
          have hB := hid (bstep B0.out hb1)
          go_wp2_with (fail)
          go_ret
          exact ⟨by rw [HV.out]; first | rfl | (show Ending.returned (.bool (decide (st ≤ p.st))) = _; rw [decide_eq_false (by omega)]), hB.out⟩
        · have HV : Hid (hdOk ⟨nm, ty, st⟩ p.st = false) := hid (by rw [HD.out, hnm, hb1, decide_eq_true h3, decide_eq_false h4]; rfl)
          clear hnm h1 hb1
          go_enter Tryd.func77, Tryd.ntmps77
          go_wp2_with (fail)
          refine cN.mono ?_
          rintro e w1 ⟨rfl, hb1⟩
          have q0 := cell_kept z0 hb1
          have hB := hid (bstep B0.out hb1)
          go_wp2_with (fail)
          go_ret
          exact ⟨by rw [HV.out]; first | rfl | (show Ending.returned (.bool (decide (st ≤ p.st))) = _; rw [decide_eq_false (by omega)]), hB.out⟩
      · have HV : Hid (hdOk ⟨nm, ty, st⟩ p.st = false) := hid (by rw [HD.out, hnm, hb1, decide_eq_false h3]; rfl)
        clear hnm h1 hb1
        go_enter Tryd.func77, Tryd.ntmps77
        go_wp2_with (fail)
        refine cN.mono ?_
        rintro e w1 ⟨rfl, hb1⟩
        have q0 := cell_kept z0 hb1
        have hB := hid (bstep B0.out hb1)
        go_wp2_with (fail)
        go_ret
        exact ⟨by rw [HV.out]; first | rfl | (show Ending.returned (.bool (decide (st ≤ p.st))) = _; rw [decide_eq_false (by omega)]), hB.out⟩
    · have e1 : ((ty : Int) == 1) = false := by rw [beq_eq_false_iff_ne]; omega
      have hb1 : (ty == 1) = false := by rw [beq_eq_false_iff_ne]; exact h1
      by_cases h2 : ty = 2
      · have e2 : ((ty : Int) == 2) = true := by rw [beq_iff_eq]; omega
        have hb2 : (ty == 2) = true := by rw [beq_iff_eq]; exact h2
        by_cases h3 : 1 ≤ st
        · by_cases h4 : st ≤ p.st
          · have HV : Hid (hdOk ⟨nm, ty, st⟩ p.st = true) := hid (by rw [HD.out, hnm, hb1, hb2, decide_eq_true h3, decide_eq_true h4]; rfl)
            clear hnm h1 h2 hb1 hb2
            go_enter Tryd.func77, Tryd.ntmps77
            go_wp2_with (fail)
            refine cN.mono ?_
            rintro e w1 ⟨rfl, hb1⟩
            have q0 := cell_kept z0 hb1
            have hB := hid (bstep B0.out hb1)
            go_wp2_with (fail)
            go_ret
            exact ⟨by rw [HV.out]; first | rfl | (show Ending.returned (.bool (decide (st ≤ p.st))) = _; rw [decide_eq_false (by omega)]), hB.out⟩
          · have HV : Hid (hdOk ⟨nm, ty, st⟩ p.st = false) := hid (by rw [HD.out, hnm, hb1, hb2, decide_eq_true h3, decide_eq_false h4]; rfl)
            clear hnm h1 h2 hb1 hb2
            go_enter Tryd.func77, Tryd.ntmps77
            go_wp2_with (fail)
            refine cN.mono ?_
            rintro e w1 ⟨rfl, hb1⟩
            have q0 := cell_kept z0 hb1
            have hB := hid (bstep B0.out hb1)
            go_wp2_with (fail)
            go_ret
            exact ⟨by rw [HV.out]; first | rfl | (show Ending.returned (.bool (decide (st ≤ p.st))) = _; rw [decide_eq_false (by omega)]), hB.out⟩
        · have HV : Hid (hdOk ⟨nm, ty, st⟩ p.st = false) := hid (by rw [HD.out, hnm, hb1, hb2, decide_eq_false h3]; rfl)
          clear hnm h1 h2 hb1 hb2
          go_enter Tryd.func77, Tryd.ntmps77
          go_wp2_with (fail)
          refine cN.mono ?_
          rintro e w1 ⟨rfl, hb1⟩
          have q0 := cell_kept z0 hb1
          have hB := hid (bstep B0.out hb1)
          go_wp2_with (fail)
          go_ret
          exact ⟨by rw [HV.out]; first | rfl | (show Ending.returned (.bool (decide (st ≤ p.st))) = _; rw [decide_eq_false (by omega)]), hB.out⟩
      · have e2 : ((ty : Int) == 2) = false := by rw [beq_eq_false_iff_ne]; omega
        have hb2 : (ty == 2) = false := by rw [beq_eq_false_iff_ne]; exact h2
        have HV : Hid (hdOk ⟨nm, ty, st⟩ p.st = false) := hid (by rw [HD.out, hnm, hb1, hb2]; rfl)
        clear hnm h1 h2 hb1 hb2
        go_enter Tryd.func77, Tryd.ntmps77
        go_wp2_with (fail)
        refine cN.mono ?_
        rintro e w1 ⟨rfl, hb1⟩
        have q0 := cell_kept z0 hb1
        have hB := hid (bstep B0.out hb1)
        go_wp2_with (fail)
        go_ret
        exact ⟨by rw [HV.out]; first | rfl | (show Ending.returned (.bool (decide (st ≤ p.st))) = _; rw [decide_eq_false (by omega)]), hB.out⟩
theorem pg_room {p : Pg} (h : ¬ ((1 ≤ p.st ∧ p.st ≤ 8) ∧ p.ins.length ≤ 64 ∧ p.flows.length ≤ 128 ∧ p.outs.length ≤ p.ins.length + p.flows.length)) : pgOk p = false := by
  cases e : pgOk p with
  | false => rfl
  | true =>
    unfold pgOk roomOk inR at e
    simp only [Bool.and_eq_true, decide_eq_true_eq] at e
    exact (h ⟨e.1.1, e.1.2.1, e.1.2.2.1, e.1.2.2.2⟩).elim
theorem pg_in {p : Pg} {x : Hd} (hx : x ∈ p.ins) (h : hdOk x p.st = false) : pgOk p = false := by
  cases e : pgOk p with
  | false => rfl
  | true =>
    unfold pgOk at e
    simp only [Bool.and_eq_true, List.all_eq_true] at e
    rw [e.2.1 x hx] at h; cases h
theorem pg_flow {p : Pg} {x : Fl} (hx : x ∈ p.flows) (h : flOk x p.st = false) : pgOk p = false := by
  cases e : pgOk p with
  | false => rfl
  | true =>
    unfold pgOk at e
    simp only [Bool.and_eq_true, List.all_eq_true] at e
    rw [e.2.2.1 x hx] at h; cases h
theorem pg_out {p : Pg} {x : ByteArray} (hx : x ∈ p.outs) (h : isName x = false) : pgOk p = false := by
  cases e : pgOk p with
  | false => rfl
  | true =>
    unfold pgOk at e
    simp only [Bool.and_eq_true, List.all_eq_true] at e
    rw [e.2.2.2 x hx] at h; cases h
theorem take_all {α : Type} {P : α → Prop} {l : List α} {k : Nat} (hk : k < l.length) (h : ∀ x ∈ l.take k, P x) (hy : P l[k]) : ∀ x ∈ l.take (k + 1), P x := fun x hx => by
  rw [List.take_succ_eq_append_getElem hk] at hx
  rcases List.mem_append.1 hx with hx | hx
  · exact h x hx
  · rw [List.mem_singleton.1 hx]; exact hy
set_option maxRecDepth 100000 in
set_option maxHeartbeats 4000000 in
theorem rprog (p : Pg) (w : World) (a b c : Value) (hP : PgAt w p a b c) (hR : TabR w) (hJ : TabJ w) : Calls Tryd.prog 64 #[pgV p a b c] w fun e w' => e = .returned (.bool (pgOk p)) ∧ Below w.heap.size w w' := by
  obtain ⟨a0, a1, rfl, hl1, _, ho1, hc1⟩ := hP.ins
  obtain ⟨b0, b1, sl, rfl, hl2, _, ho2, hc2, hs2⟩ := hP.flows
  obtain ⟨c0, c1, rfl, hl3, _, ho3, hc3⟩ := hP.outs
  have HC1 := hid hc1
  have HC2 := hid hc2
  have HC3 := hid hc3
  have HS2 := hid hs2
  have HO1 := hid ho1
  have HO2 := hid ho2
  have HO3 := hid ho3
  have fv0 := hid (FV.new hP hR hJ)
  obtain ⟨p0, p1, p2, p3⟩ := row4 fv0.out.row
  clear hP hR hJ hc1 hc2 hc3 hs2 ho1 ho2 ho3
  by_cases h1 : p.st < 1
  · have HV : Hid (pgOk p = false) := hid (pg_room (by omega))
    go_enter Tryd.func64, Tryd.ntmps64
    go_wp2_with (fail)
    go_ret
    exact ⟨by rw [HV.out]; rfl, fv0.out.below⟩
  by_cases h2 : 8 < p.st
  · have HV : Hid (pgOk p = false) := hid (pg_room (by omega))
    go_enter Tryd.func64, Tryd.ntmps64
    go_wp2_with (fail)
    go_ret
    exact ⟨by rw [HV.out]; rfl, fv0.out.below⟩
  by_cases h3 : 64 < p.ins.length
  · have h3' : (64 : Int) < (p.ins.length : Int) := by omega
    have HV : Hid (pgOk p = false) := hid (pg_room (by omega))
    go_enter Tryd.func64, Tryd.ntmps64
    go_wp2_with (fail)
    go_ret
    exact ⟨by rw [HV.out]; rfl, fv0.out.below⟩
  have h3' : ¬ (64 : Int) < (p.ins.length : Int) := by omega
  by_cases h4 : 128 < p.flows.length
  · have h4' : (128 : Int) < (p.flows.length : Int) := by omega
    have HV : Hid (pgOk p = false) := hid (pg_room (by omega))
    go_enter Tryd.func64, Tryd.ntmps64
    go_wp2_with (fail)
    go_ret
    exact ⟨by rw [HV.out]; rfl, fv0.out.below⟩
  have h4' : ¬ (128 : Int) < (p.flows.length : Int) := by omega
  have hwr : IntKind.i64.wrap ((p.ins.length : Int) + (p.flows.length : Int)) = (p.ins.length : Int) + (p.flows.length : Int) := by rw [IntKind.wrap_i64]; omega
  by_cases h5 : p.ins.length + p.flows.length < p.outs.length
  · have h5' : (p.ins.length : Int) + (p.flows.length : Int) < (p.outs.length : Int) := by omega
    have HV : Hid (pgOk p = false) := hid (pg_room (by omega))
    go_enter Tryd.func64, Tryd.ntmps64
    go_wp2_with (fail)
    go_ret
    exact ⟨by rw [HV.out]; rfl, fv0.out.below⟩
  have h5' : ¬ (p.ins.length : Int) + (p.flows.length : Int) < (p.outs.length : Int) := by omega
  have HRM : Hid ((inR p.st 8 && roomOk p) = true) := hid (by unfold inR roomOk; simp only [Bool.and_eq_true, decide_eq_true_eq]; exact ⟨⟨by omega, by omega⟩, by omega, by omega, by omega⟩)
  go_enter Tryd.func64, Tryd.ntmps64
  go_wp2_with (fail)
  go_loopw [3] (fun i wr => ∃ k : Nat, k ≤ p.ins.length ∧ i = .int .i64 (k : Int) ∧ Hid (∀ x ∈ p.ins.take k, hdOk x p.st = true) ∧ Hid (FV w p (.slice a0 p.ins.length a1) (.slice b0 p.flows.length b1) (.slice c0 p.outs.length c1) wr)) (fun i _ => p.ins.length - (intOf i).toNat)
  case atStart => exact ⟨0, Nat.zero_le _, rfl, hid (by simp), fv0⟩
  case round =>
    clear p0 p1 p2 p3
    obtain ⟨k, hk, rfl, HA, hF⟩ := hrel
    obtain ⟨s0, s1, s2, s3⟩ := row4 hF.out.row
    by_cases hlt : k < p.ins.length
    · have hlt' : (k : Int) < (p.ins.length : Int) := by omega
      have hk0 : (0 : Int) ≤ (k : Int) := by omega
      obtain ⟨bb, o, rfl, hcc⟩ := HC1.out.resolve_left (by omega)
      obtain ⟨s4, s5, s6⟩ := (hcc k hlt).keep hF.out.below
      have FA := hid (hF.out.keep ((Below.refl _ _).alloc (Nat.le_refl _) (.cells #[.string p.ins[k].name, .int .u8 (p.ins[k].ty : Int), .int .i64 p.ins[k].st] 83)))
      have c47 := ris p p.ins[k].name p.ins[k].ty p.ins[k].st (wr.alloc (.cells #[.string p.ins[k].name, .int .u8 (p.ins[k].ty : Int), .int .i64 p.ins[k].st] 83)) (.slice (some ⟨bb, o, none⟩) p.ins.length a1) (.slice b0 p.flows.length b1) (.slice c0 p.outs.length c1) (HO1.out _ (List.getElem_mem hlt)).1
      have HT := hid (fun (h : hdOk p.ins[k] p.st = true) => take_all hlt HA.out h)
      have HFL := hid (fun (h : hdOk p.ins[k] p.st = false) => pg_in (List.getElem_mem hlt) h)
      obtain ⟨r0, r1, r2, r3⟩ := row4 FA.out.row
      clear hcc s0 s1 s2 s3
      obtain ⟨s0, s1, s2, s3⟩ := row4 hF.out.row
      generalize p.ins[k] = y at *
      go_wp2_with (fail)
      refine c47.mono ?_
      rintro e w3 ⟨rfl, hb3⟩
      have F3 := hid (FA.out.keep hb3)
      cases hy : hdOk ⟨y.name, y.ty, y.st⟩ p.st with
      | true =>
        have HT2 := hid (HT.out hy)
        go_wp2_with (fail)
        go_roundw
        case rel => exact ⟨k + 1, by omega, by go_num, HT2, F3⟩
        case measure => simp [intOf]; omega
      | false =>
        have HV := hid (HFL.out hy)
        go_wp2_with (fail)
        go_ret
        exact ⟨by rw [HV.out]; rfl, F3.out.below⟩
    · have hlt' : ¬ (k : Int) < (p.ins.length : Int) := by omega
      obtain rfl : k = p.ins.length := by omega
      have HI : Hid (∀ x ∈ p.ins, hdOk x p.st = true) := hid (by have := HA.out; rwa [List.take_length] at this)
      clear HA hk hlt
      go_wp2_with (fail)
      go_loopw [5] (fun i wr => ∃ k : Nat, k ≤ p.flows.length ∧ i = .int .i64 (k : Int) ∧ Hid (∀ x ∈ p.flows.take k, flOk x p.st = true) ∧ Hid (FV w p (.slice a0 p.ins.length a1) (.slice b0 p.flows.length b1) (.slice c0 p.outs.length c1) wr)) (fun i _ => p.flows.length - (intOf i).toNat)
      case atStart => exact ⟨0, Nat.zero_le _, rfl, hid (by simp), hF⟩
      case round =>
        clear s0 s1 s2 s3 hF hlt'
        obtain ⟨k, hk, rfl, HA, hF⟩ := hrel
        obtain ⟨s0, s1, s2, s3⟩ := row4 hF.out.row
        by_cases hlt : k < p.flows.length
        · have hlt' : (k : Int) < (p.flows.length : Int) := by omega
          have hk0 : (0 : Int) ≤ (k : Int) := by omega
          obtain ⟨bb, o, rfl, hcc⟩ := HC2.out.resolve_left (by omega)
          obtain ⟨a3, c3, _, e3, _⟩ := (HS2.out k hlt).out
          have X := (hcc k hlt).keep hF.out.below
          have HST := hid (HS2.out k hlt)
          rw [e3] at X HST
          obtain ⟨s4, s5, s6, s7, s8, s9, s10, s11⟩ := X
          have hdf := (HO2.out _ (List.getElem_mem hlt)).2.2.2
          have hns := (HO2.out _ (List.getElem_mem hlt)).1
          have HT := hid (fun (h : flOk p.flows[k] p.st = true) => take_all hlt HA.out h)
          have HFL := hid (fun (h : flOk p.flows[k] p.st = false) => pg_flow (List.getElem_mem hlt) h)
          have HFD : Hid (flOk p.flows[k] p.st = (hdOk ⟨p.flows[k].name, p.flows[k].ty, p.flows[k].st⟩ p.st && (!(p.flows[k].df == -9223372036854775808) && chk p.flows[k].body))) := hid rfl
          clear hcc e3
          generalize p.flows[k] = y at *
          have FA := hid (hF.out.keep ((Below.refl _ _).alloc (Nat.le_refl _) (.cells #[.string y.name, .int .u8 (y.ty : Int), .int .i64 y.st, .int .i64 y.df, .int .u8 (y.body.op : Int), .int .i64 y.body.n, .string y.body.name, .slice a3 y.body.args.length c3] 53)))
          have XA := hid (heap_alloc_new wr (.cells #[.string y.name, .int .u8 (y.ty : Int), .int .i64 y.st, .int .i64 y.df, .int .u8 (y.body.op : Int), .int .i64 y.body.n, .string y.body.name, .slice a3 y.body.args.length c3] 53))
          have c47 := ris p y.name y.ty y.st (wr.alloc (.cells #[.string y.name, .int .u8 (y.ty : Int), .int .i64 y.st, .int .i64 y.df, .int .u8 (y.body.op : Int), .int .i64 y.body.n, .string y.body.name, .slice a3 y.body.args.length c3] 53)) (.slice a0 p.ins.length a1) (.slice (some ⟨bb, o, none⟩) p.flows.length b1) (.slice c0 p.outs.length c1) hns
          obtain ⟨r0, r1, r2, r3⟩ := row4 FA.out.row
          go_wp2_with (fail)
          refine c47.mono ?_
          rintro e w3 ⟨rfl, hb3⟩
          have F3 := hid (FA.out.keep hb3)
          have X3 := hid (keep_row XA.out hb3)
          have z := fun j v (h : (#[.string y.name, .int .u8 (y.ty : Int), .int .i64 y.st, .int .i64 y.df, .int .u8 (y.body.op : Int), .int .i64 y.body.n, .string y.body.name, .slice a3 y.body.args.length c3] : Array Value)[j]? = some v) => (cell_of_row w3 wr.heap.size j _ 53 (0, 0) X3.out).trans h
          have z3 := z 3 _ rfl
          have z4 := z 4 _ rfl
          have z5 := z 5 _ rfl
          have z6 := z 6 _ rfl
          have z7 := z 7 _ rfl
          clear z hb3 c47 r0 r1 r2 r3 s0 s1 s2 s3 s4 s5 s6 s7 s8 s9 s10 s11
          cases hy : hdOk ⟨y.name, y.ty, y.st⟩ p.st with
          | false =>
            have HV := hid (HFL.out (by rw [HFD.out, hy]; rfl))
            go_wp2_with (fail)
            go_ret
            exact ⟨by rw [HV.out]; rfl, F3.out.below⟩
          | true =>
            by_cases hd : y.df = -9223372036854775808
            · have HV := hid (HFL.out (by rw [HFD.out, hy, hd]; rfl))
              have hd' : y.df < -9223372036854775807 := by omega
              clear hd
              go_wp2_with (fail)
              go_ret
              exact ⟨by rw [HV.out]; rfl, F3.out.below⟩
            · have hd' : ¬ y.df < -9223372036854775807 := by omega
              have hdb : (y.df == -9223372036854775808) = false := by rw [beq_eq_false_iff_ne]; exact hd
              have c48 := rcheck y.body w3 _ (HST.out.keep F3.out.below)
              have HCB := hid (fun (v : Bool) (h : chk y.body = v) => show flOk y p.st = v by rw [HFD.out, hy, hdb, h]; cases v <;> rfl)
              clear hd hdb
              cases hc : chk y.body with
              | true =>
                rw [hc] at c48
                have HT2 := hid (HT.out (HCB.out _ hc))
                go_wp2_with (fail)
                refine c48.mono ?_
                rintro e w4 ⟨rfl, hb4⟩
                have F4 := hid (F3.out.keep hb4)
                go_wp2_with (fail)
                go_roundw
                case rel => exact ⟨k + 1, by omega, by go_num, HT2, F4⟩
                case measure => simp [intOf]; omega
              | false =>
                rw [hc] at c48
                have HV := hid (HFL.out (HCB.out _ hc))
                go_wp2_with (fail)
                refine c48.mono ?_
                rintro e w4 ⟨rfl, hb4⟩
                have hB := (F3.out.keep hb4).below
                go_wp2_with (fail)
                go_ret
                exact ⟨by rw [HV.out]; rfl, hB⟩
        · have hlt' : ¬ (k : Int) < (p.flows.length : Int) := by omega
          obtain rfl : k = p.flows.length := by omega
          have HFS : Hid (∀ x ∈ p.flows, flOk x p.st = true) := hid (by have := HA.out; rwa [List.take_length] at this)
          clear HA hk hlt
          go_wp2_with (fail)
          go_loopw [7] (fun i wr => ∃ k : Nat, k ≤ p.outs.length ∧ i = .int .i64 (k : Int) ∧ Hid (∀ x ∈ p.outs.take k, isName x = true) ∧ Hid (FV w p (.slice a0 p.ins.length a1) (.slice b0 p.flows.length b1) (.slice c0 p.outs.length c1) wr)) (fun i _ => p.outs.length - (intOf i).toNat)
          case atStart => exact ⟨0, Nat.zero_le _, rfl, hid (by simp), hF⟩
          case round =>
            clear s0 s1 s2 s3 hF hlt'
            obtain ⟨k, hk, rfl, HA, hF⟩ := hrel
            obtain ⟨s0, s1, s2, s3⟩ := row4 hF.out.row
            by_cases hlt : k < p.outs.length
            · have hlt' : (k : Int) < (p.outs.length : Int) := by omega
              have hk0 : (0 : Int) ≤ (k : Int) := by omega
              obtain ⟨bb, o, rfl, hcc⟩ := HC3.out.resolve_left (by omega)
              have s4 := cell_kept (hcc k hlt) hF.out.below
              have c49 := refName p.outs[k] wr (HO3.out _ (List.getElem_mem hlt))
              have HT := hid (fun (h : isName p.outs[k] = true) => take_all hlt HA.out h)
              have HFL := hid (fun (h : isName p.outs[k] = false) => pg_out (List.getElem_mem hlt) h)
              clear hcc
              generalize p.outs[k] = y at *
              cases hy : isName y with
              | true =>
                rw [hy] at c49
                have HT2 := hid (HT.out hy)
                go_wp2_with (fail)
                refine c49.mono ?_
                rintro e w4 ⟨rfl, hb4⟩
                have F4 := hid (hF.out.keep hb4)
                go_wp2_with (fail)
                go_roundw
                case rel => exact ⟨k + 1, by omega, by go_num, HT2, F4⟩
                case measure => simp [intOf]; omega
              | false =>
                rw [hy] at c49
                have HV := hid (HFL.out hy)
                go_wp2_with (fail)
                refine c49.mono ?_
                rintro e w4 ⟨rfl, hb4⟩
                have hB := (hF.out.keep hb4).below
                go_wp2_with (fail)
                go_ret
                exact ⟨by rw [HV.out]; rfl, hB⟩
            · have hlt' : ¬ (k : Int) < (p.outs.length : Int) := by omega
              obtain rfl : k = p.outs.length := by omega
              have HO : Hid (∀ x ∈ p.outs, isName x = true) := hid (by have := HA.out; rwa [List.take_length] at this)
              have HV : Hid (pgOk p = true) := hid (by unfold pgOk; rw [HRM.out, List.all_eq_true.2 HI.out, List.all_eq_true.2 HFS.out, List.all_eq_true.2 HO.out]; rfl)
              go_wp2_with (fail)
              go_ret
              exact ⟨by rw [HV.out]; rfl, hF.out.below⟩
end Go.Proofs.YtejacmgppnafcaaDoor.Lex
