/-
  What it asks for, by the document: the contracts of the document's gather and Refs.
  The document's own: of how many parts an operator is, how great it is, whether it may be.
  The document's own size, and Check.
  The document's own size and Check, whatever it is.
  Whether the twin of a program's rows is as it was: the contracts of LeftIns, LeftTexts, LeftFlow, LeftFlows and LeftProg.
  The document's own Find.
-/
import Derived.Test.YtilpoiihoikhlaaDoorK5
import Derived.Test.YtilpoiihoikhlaaDoorK7
import Derived.Test.YtilpoiihoikhlaaDoorK2
import Derived.BigQuiet
import Derived.Test.YtilpoiihoikhlaaDoorK1
import Derived.Deep.QuietTactic
import Derived.Test.YtilpoiihoikhlaaDoorK4
namespace Go.Proofs.YtilpoiihoikhlaaDoor.Lex
open Go.ChangeShapes Go.WideShapes Go.ChangeAt Go.RowKit Go.Joins
theorem grown_two {w w1 w2 : World} {v v1 : Value} (h1 : w.grownBy w1 v.ownBlock) (hf : ∀ b, v1.ownBlock = some b → v.ownBlock = some b ∨ w.heap.size ≤ b) (h2 : w1.grownBy w2 v1.ownBlock) : w.grownBy w2 v.ownBlock :=
  ⟨h2.os.trans h1.os, h2.tape.trans h1.tape, h2.output.trans h1.output, Nat.le_trans h1.size h2.size, fun b hb hn => (h2.block b (Nat.lt_of_lt_of_le hb h1.size) (fun e => by
    rcases hf b e.symm with h | h
    · exact hn h.symm
    · omega)).trans (h1.block b hb hn)⟩
/-- The list, as it is handed on. -/
structure RL (w0 wb : World) (v : Value) (acc : List Rf) (l : Value) (W : World) : Prop where
  own : W.ownsRow w0.heap.size 47 2 l acc.length (refsV acc)
  grown : wb.grownBy W v.ownBlock
  fr : ∀ b, l.ownBlock = some b → v.ownBlock = some b ∨ wb.heap.size ≤ b
theorem RL.start {w0 wb : World} {v : Value} {acc : List Rf} (h : wb.ownsRow w0.heap.size 47 2 v acc.length (refsV acc)) : RL w0 wb v acc v wb := ⟨h, ⟨rfl, rfl, rfl, Nat.le_refl _, fun _ _ _ => rfl⟩, fun _ h => .inl h⟩
theorem RL.step {w0 wb W W' : World} {v l l' : Value} {acc acc' : List Rf} (h : RL w0 wb v acc l W) (ho : W'.ownsRow w0.heap.size 47 2 l' acc'.length (refsV acc')) (hg : W.grownBy W' l.ownBlock) (hf : ∀ b, l'.ownBlock = some b → l.ownBlock = some b ∨ W.heap.size ≤ b) : RL w0 wb v acc' l' W' :=
  ⟨ho, grown_two h.grown h.fr hg, fun b e => by
    rcases hf b e with h' | h'
    · exact h.fr b h'
    · exact .inr (Nat.le_trans h.grown.size h')⟩
theorem RL.keep {w0 wb W : World} {v l : Value} {acc : List Rf} {k : Nat} {o : Obj} (h : RL w0 wb v acc l W) (hr : wb.heap[k]? = some o) (hn : v.ownBlock ≠ some k) : W.heap[k]? = some o := (h.grown.block k (Array.getElem?_eq_some_iff.1 hr).1 (fun e => hn e.symm)).trans hr
theorem RL.below {w0 wb W : World} {v l : Value} {acc : List Rf} (h : RL w0 wb v acc l W) (hv : ∀ b, v.ownBlock = some b → w0.heap.size ≤ b) (hb : Below w0.heap.size w0 wb) (hs : w0.heap.size ≤ wb.heap.size) : Below w0.heap.size w0 W := hb.grown h.grown hs (fun b e => hv b e)
theorem RL.back {w0 w wb W : World} {v l : Value} {acc : List Rf} (h : RL w0 wb v acc l W) (_hs : w0.heap.size ≤ wb.heap.size) (hw : Below w.heap.size w wb) : w.grownBy W v.ownBlock :=
  ⟨h.grown.os.trans hw.os, h.grown.tape.trans hw.tape, h.grown.output.trans hw.output, Nat.le_trans hw.size h.grown.size, fun b hb hn => (h.grown.block b (Nat.lt_of_lt_of_le hb hw.size) hn).trans (hw.block b hb)⟩
theorem RL.more {w0 wb W W1 W' : World} {v l l' : Value} {acc acc' : List Rf} (h : RL w0 wb v acc l W) (hb : Below W.heap.size W W1) (ho : W'.ownsRow w0.heap.size 47 2 l' acc'.length (refsV acc')) (hg : W1.grownBy W' l.ownBlock) (hat : l'.ownBlock = l.ownBlock ∨ l'.ownBlock = some W1.heap.size) : RL w0 wb v acc' l' W' :=
  h.step ho ⟨hg.os.trans hb.os, hg.tape.trans hb.tape, hg.output.trans hb.output, Nat.le_trans hb.size hg.size, fun b hlt hn => (hg.block b (Nat.lt_of_lt_of_le hlt hb.size) hn).trans (hb.block b hlt)⟩ (fun b e => by
    rcases hat with h' | h'
    · exact .inl (h' ▸ e)
    · rw [h'] at e; injection e with e; exact .inr (by have := hb.size; omega))
theorem ref_eq (a b : ByteArray) (m n : Nat) (w : World) : (if a.toList = b.toList then (if (m : Int) = (n : Int) then Result.ok (Next.value (Value.bool true)) w else Result.ok (Next.value (Value.bool false)) w) else Result.ok (Next.value (Value.bool false)) w) = (Result.ok (Next.value (Value.bool (a.data.toList == b.data.toList && m == n))) w) := by
  rw [ByteArray.toList_eq, ByteArray.toList_eq]
  by_cases e1 : a.data.toList = b.data.toList
  · rw [if_pos e1, beq_iff_eq.2 e1]
    by_cases e2 : m = n
    · subst e2; rw [if_pos rfl]; simp
    · rw [if_neg (by omega), beq_eq_false_iff_ne.2 e2]; rfl
  · rw [if_neg e1, beq_eq_false_iff_ne.2 e1]; rfl
theorem acc_len (k : Nat) (x : Ex) (ago : Nat) (acc : List Rf) : ∀ j, (accAt k x ago acc j).length ≤ acc.length + cntAt k x j
  | 0 => by
    show (ownRefs x ago acc).length ≤ acc.length + 1
    unfold ownRefs addR
    split
    · split
      · omega
      · simp
    · omega
  | j + 1 => by
    by_cases h : j < x.args.length
    · rw [accAt_succ h, cntAt_succ h]
      have h1 := gat_len k x.args[j] (nextAgo x ago) (accAt k x ago acc j)
      have h2 := acc_len k x ago acc j
      omega
    · have e1 : accAt k x ago acc (j + 1) = accAt k x ago acc j := by unfold accAt; rw [List.take_of_length_le (by omega), List.take_of_length_le (by omega)]
      have e2 : cntAt k x (j + 1) = cntAt k x j := by unfold cntAt; rw [List.take_of_length_le (by omega), List.take_of_length_le (by omega)]
      rw [e1, e2]
      exact acc_len k x ago acc j
theorem acc_all (k : Nat) (x : Ex) (ago : Nat) (acc : List Rf) : accAt k x ago acc x.args.length = gat (k + 1) x ago acc := by
  unfold accAt
  rw [List.take_length]
  rfl
def RG (k : Nat) : Prop := ∀ (x : Ex) (s : Value) (ago : Nat) (acc : List Rf) (v : Value) (w0 w : World), St w0 x s → NmOk k x → Below w0.heap.size w0 w → w.ownsRow w0.heap.size 47 2 v acc.length (refsV acc) → ago + k ≤ 1099511627776 → acc.length + cnt k x ≤ 1099511627776 →
  Calls Tryd.prog 50 #[v, exV x s, .int .i64 (ago : Int)] w fun e w' => ∃ v', e = .returned v' ∧ w'.ownsRow w0.heap.size 47 2 v' (gat k x ago acc).length (refsV (gat k x ago acc)) ∧ w.grownBy w' v.ownBlock ∧ ∀ b, v'.ownBlock = some b → v.ownBlock = some b ∨ w.heap.size ≤ b
theorem RL.fr' {w0 w wb W : World} {v l : Value} {acc : List Rf} (h : RL w0 wb v acc l W) (hw : w.heap.size ≤ wb.heap.size) : ∀ b, l.ownBlock = some b → v.ownBlock = some b ∨ w.heap.size ≤ b := fun b e => (h.fr b e).imp_right (Nat.le_trans hw)
theorem own_lo {w : World} {lo t c n : Nat} {v : Value} {xs : List Value} (h : w.ownsRow lo t c v n xs) : ∀ b, v.ownBlock = some b → lo ≤ b ∧ b < w.heap.size := fun b e => by
  rcases h.2 with ⟨h', _⟩ | ⟨g, cap, cur, h', h1, h2, _⟩
  · rw [h'] at e; cases e
  · rw [h'] at e
    have : g = b := by injection e
    subst this
    exact ⟨h1, (Array.getElem?_eq_some_iff.1 h2).1⟩
set_option maxRecDepth 100000 in
set_option maxHeartbeats 4000000 in
theorem rgather_of (k : Nat) (ih : RG k) : RG (k + 1) := by
  intro x s ago acc v w0 w hS hN hb hown hag hcn
  obtain ⟨ao, cap, sl, rfl, hop, hn, hnm, hlen, _, hc, hs⟩ := hS.out
  have VLT := hid (own_lo hown)
  have VLO := hid (fun b e => (VLT.out b e).1)
  have HB := hid hb
  have HOW := hid hown
  have HIH := hid ih
  have HS := hid hs
  have HC := hid hc
  have HNM := hid hN.2
  have HNS := hid hN.1
  have HCN : Hid (acc.length + cntAt k x x.args.length ≤ 1099511627776) := hid (by have : cnt (k + 1) x = cntAt k x x.args.length := by unfold cnt cntAt; rw [List.take_length]
                                                                                   omega)
  have hal : acc.length ≤ 1099511627776 := by omega
  clear ih hs hc hN hS hb hown hcn
  obtain ⟨i0, hi, hz0, hz1, hz2⟩ := info_parts i51
  by_cases h3 : x.op = 3
  · have h3' : ((x.op : Int) == 3) = true := by rw [beq_iff_eq]; omega
    have h19' : ((x.op : Int) == 19) = false := by rw [beq_eq_false_iff_ne]; omega
    have hna' : ((nextAgo x ago : Nat) : Int) = (ago : Int) := by unfold nextAgo; rw [if_neg (by omega)]
    have HOR : Hid (ownRefs x ago acc = addR acc (x.name, ago)) := hid (by unfold ownRefs; rw [if_pos h3])
    have BR := hid (show ((w.alloc (.cells #[.int .u8 (x.op : Int), .int .i64 x.n, .string x.name, .slice ao x.args.length cap] 41)).alloc (.cells #[.string x.name, .int .i64 (ago : Int)] 47)).heap[w.heap.size]? = some (.cells #[.int .u8 (x.op : Int), .int .i64 x.n, .string x.name, .slice ao x.args.length cap] 41 (0, 0)) from push_old (push_new _ _ _ rfl))
    have RR := hid (show ((w.alloc (.cells #[.int .u8 (x.op : Int), .int .i64 x.n, .string x.name, .slice ao x.args.length cap] 41)).alloc (.cells #[.string x.name, .int .i64 (ago : Int)] 47)).heap[w.heap.size + 1]? = some (.cells #[.string x.name, .int .i64 (ago : Int)] 47 (0, 0)) from push_new _ _ _ (by simp))
    have VNB : Hid (v.ownBlock ≠ some w.heap.size) := hid (fun e => by have := (VLT.out _ e).2; omega)
    have VNR : Hid (v.ownBlock ≠ some (w.heap.size + 1)) := hid (fun e => by have := (VLT.out _ e).2; omega)
    have WBW := hid (bstep ((Below.refl w.heap.size w).alloc (Nat.le_refl _) (.cells #[.int .u8 (x.op : Int), .int .i64 x.n, .string x.name, .slice ao x.args.length cap] 41)) ((Below.refl _ _).alloc (Nat.le_refl _) (.cells #[.string x.name, .int .i64 (ago : Int)] 47)))
    have HWB := hid (HB.out.trans (WBW.out.mono HB.out.size))
    have SWB := hid HWB.out.size
    have SW := hid WBW.out.size
    have R0 := hid (RL.start ((HOW.out.alloc (.cells #[.int .u8 (x.op : Int), .int .i64 x.n, .string x.name, .slice ao x.args.length cap] 41)).alloc (.cells #[.string x.name, .int .i64 (ago : Int)] 47)))
    clear h3
    obtain ⟨va, vc, rfl, _⟩ := RfAt.of_own HOW.out
    go_enter Tryd.func50, Tryd.ntmps50
    go_wp2_with (fail)
    generalize ((w.alloc (.cells #[.int .u8 (x.op : Int), .int .i64 x.n, .string x.name, .slice ao x.args.length cap] 41)).alloc (.cells #[.string x.name, .int .i64 (ago : Int)] 47)) = WB at *
    go_loopw [8, 9] (fun th i wr => ∃ t : Nat, t ≤ acc.length ∧ i = .int .i64 (t : Int) ∧ th = .bool (rIn (acc.take t) (x.name, ago)) ∧ Hid (RL w0 WB (.slice va acc.length vc) acc (.slice va acc.length vc) wr)) (fun _ i _ => acc.length - (intOf i).toNat)
    case atStart => exact ⟨0, Nat.zero_le _, rfl, rfl, R0⟩
    case round =>
      obtain ⟨t, ht, rfl, rfl, HR⟩ := hrel
      have RRr := hid (HR.out.keep RR.out VNR.out)
      have y2 := (cell_of_row wr (w.heap.size + 1) 0 _ 47 (0, 0) RRr.out).trans (show _ = some (.string x.name) from rfl)
      have y3 := (cell_of_row wr (w.heap.size + 1) 1 _ 47 (0, 0) RRr.out).trans (show _ = some (.int .i64 (ago : Int)) from rfl)
      by_cases hlt : t < acc.length
      · have hlt' : (t : Int) < (acc.length : Int) := by omega
        have ht0 : (0 : Int) ≤ (t : Int) := by omega
        obtain ⟨a2, c2, e2, hh⟩ := RfAt.of_own HR.out.own
        injection e2 with e2 _ e3
        subst e2 e3
        obtain ⟨g, rfl, hcc⟩ := hh.resolve_left (by omega)
        obtain ⟨y0, y1⟩ := hcc t hlt
        have HT : Hid (rIn (acc.take (t + 1)) (x.name, ago) = (rIn (acc.take t) (x.name, ago) || (acc[t].1.data.toList == x.name.data.toList && acc[t].2 == ago))) := hid (by unfold rIn; rw [List.take_succ_eq_append_getElem hlt, List.any_append]; simp)
        have RD := hid (HR.out.step (W' := wr.drew) HR.out.own.drew ⟨rfl, rfl, rfl, Nat.le_refl _, fun _ _ _ => rfl⟩ (fun b e => .inl e))
        clear hcc hh
        generalize acc[t] = q at *
        generalize rIn (acc.take t) (x.name, ago) = th at *
        generalize hbq : (q.1.data.toList == x.name.data.toList && q.2 == ago) = bq at HT
        have HBQ := hid hbq
        clear hbq
        cases th with
        | true =>
          go_wp2_with (fail)
          refine wp_region_held_drew (S := fun V => V.cell? ⟨g, t * 2, none⟩ = some (.string q.1) ∧ V.cell? ⟨g, t * 2 + 1, none⟩ = some (.int .i64 (q.2 : Int)) ∧ V.cell? ⟨w.heap.size + 1, 0, none⟩ = some (.string x.name) ∧ V.cell? ⟨w.heap.size + 1, 1, none⟩ = some (.int .i64 (ago : Int))) (by kernel_rfl) ?_ (fun hHeld => ?_)
          · exact ⟨y0, y1, y2, y3⟩
          refine wpAnyH_take (i := 0) (oi := { dst := some 24, op := Go.Op.move (Go.Operand.tmp 8), type := 4, pos := _, after := #[], guard := none }) (v := ?_) rfl (by kernel_rfl) (by kernel_rfl) (by kernel_rfl) (fun _ _ _ h => h) (Or.inl ⟨by rfl, ?_⟩) (by assumption) ?_
          rotate_left
          · intro w hSw; (try dsimp only at hSw); go_simp <;> first | with_reducible rfl | (rw [if_neg (by first | omega | (simp only [ByteArray.size_append] at *; omega))])
          simp only [Act.put, List.setIfInBounds_toArray, List.set_cons_zero, List.set_cons_succ]
          refine wpAnyH_take (i := 1) (oi := { dst := some 25, op := Go.Op.move (Go.Operand.tmp 24), type := 4, pos := _, after := #[{ on := 0, ground := Go.Ground.data }], guard := none }) (v := ?_) rfl (by kernel_rfl) (by kernel_rfl) (by kernel_rfl) (fun _ _ _ h => h) (Or.inl ⟨by rfl, ?_⟩) (by assumption) ?_
          rotate_left
          · intro w hSw; (try dsimp only at hSw); go_simp <;> first | with_reducible rfl | (rw [if_neg (by first | omega | (simp only [ByteArray.size_append] at *; omega))])
          simp only [Act.put, List.setIfInBounds_toArray, List.set_cons_zero, List.set_cons_succ]
          refine wpAnyH_take (i := 2) (oi := { dst := some 26, op := Go.Op.move (Go.Operand.tmp 0), type := 44, pos := _, after := #[{ on := 1, ground := Go.Ground.guard }], guard := some (1, false) }) (v := undef) rfl (by kernel_rfl) (by kernel_rfl) (by kernel_rfl) (fun _ _ _ h => h) (Or.inr ⟨by rfl, rfl⟩) (by assumption) ?_
          simp only [Act.put, List.setIfInBounds_toArray, List.set_cons_zero, List.set_cons_succ]
          refine wpAnyH_take (i := 3) (oi := { dst := some 27, op := Go.Op.move (Go.Operand.tmp 9), type := 3, pos := _, after := #[{ on := 1, ground := Go.Ground.guard }], guard := some (1, false) }) (v := undef) rfl (by kernel_rfl) (by kernel_rfl) (by kernel_rfl) (fun _ _ _ h => h) (Or.inr ⟨by rfl, rfl⟩) (by assumption) ?_
          simp only [Act.put, List.setIfInBounds_toArray, List.set_cons_zero, List.set_cons_succ]
          refine wpAnyH_take (i := 4) (oi := { dst := some 28, op := Go.Op.indexAddr 44 (Go.Operand.tmp 26) (Go.Operand.tmp 27), type := 0, pos := _, after := #[{ on := 2, ground := Go.Ground.data }, { on := 3, ground := Go.Ground.data }, { on := 1, ground := Go.Ground.guard }], guard := some (1, false) }) (v := undef) rfl (by kernel_rfl) (by kernel_rfl) (by kernel_rfl) (fun _ _ _ h => h) (Or.inr ⟨by rfl, rfl⟩) (by assumption) ?_
          simp only [Act.put, List.setIfInBounds_toArray, List.set_cons_zero, List.set_cons_succ]
          refine wpAnyH_take (i := 5) (oi := { dst := some 29, op := Go.Op.load 47 (Go.Operand.tmp 28), type := 47, pos := _, after := #[{ on := 4, ground := Go.Ground.data }, { on := 1, ground := Go.Ground.guard }], guard := some (1, false) }) (v := undef) rfl (by kernel_rfl) (by kernel_rfl) (by kernel_rfl) (fun _ _ _ h => h) (Or.inr ⟨by rfl, rfl⟩) (by assumption) ?_
          simp only [Act.put, List.setIfInBounds_toArray, List.set_cons_zero, List.set_cons_succ]
          refine wpAnyH_take (i := 6) (oi := { dst := some 30, op := Go.Op.load 47 (Go.Operand.tmp 7), type := 47, pos := _, after := #[{ on := 1, ground := Go.Ground.guard }], guard := some (1, false) }) (v := undef) rfl (by kernel_rfl) (by kernel_rfl) (by kernel_rfl) (fun _ _ _ h => h) (Or.inr ⟨by rfl, rfl⟩) (by assumption) ?_
          simp only [Act.put, List.setIfInBounds_toArray, List.set_cons_zero, List.set_cons_succ]
          refine wpAnyH_take (i := 7) (oi := { dst := some 31, op := Go.Op.binOp Go.BinOp.eql 47 (Go.Operand.tmp 29) (Go.Operand.tmp 30) 47, type := 4, pos := _, after := #[{ on := 5, ground := Go.Ground.data }, { on := 6, ground := Go.Ground.data }, { on := 1, ground := Go.Ground.guard }], guard := some (1, false) }) (v := undef) rfl (by kernel_rfl) (by kernel_rfl) (by kernel_rfl) (fun _ _ _ h => h) (Or.inr ⟨by rfl, rfl⟩) (by assumption) ?_
          simp only [Act.put, List.setIfInBounds_toArray, List.set_cons_zero, List.set_cons_succ]
          refine wpAnyH_take (i := 8) (oi := { dst := some 32, op := Go.Op.pick (Go.Operand.tmp 25) (Go.Operand.const (Go.Value.bool true)) (Go.Operand.tmp 31), type := 4, pos := _, after := #[{ on := 1, ground := Go.Ground.data }, { on := 7, ground := Go.Ground.data }], guard := none }) (v := ?_) rfl (by kernel_rfl) (by kernel_rfl) (by kernel_rfl) (fun _ _ _ h => h) (Or.inl ⟨by rfl, ?_⟩) (by assumption) ?_
          rotate_left
          · intro w hSw; (try dsimp only at hSw); go_simp <;> first | with_reducible rfl | (rw [if_neg (by first | omega | (simp only [ByteArray.size_append] at *; omega))])
          simp only [Act.put, List.setIfInBounds_toArray, List.set_cons_zero, List.set_cons_succ]
          refine wpAnyH_take (i := 9) (oi := { dst := some 8, op := Go.Op.assign (Go.Operand.tmp 32), type := 4, pos := _, after := #[{ on := 8, ground := Go.Ground.data }, { on := 1, ground := Go.Ground.chain }, { on := 0, ground := Go.Ground.phase }, { on := 1, ground := Go.Ground.phase }, { on := 2, ground := Go.Ground.phase }, { on := 3, ground := Go.Ground.phase }, { on := 4, ground := Go.Ground.phase }, { on := 5, ground := Go.Ground.phase }, { on := 6, ground := Go.Ground.phase }, { on := 7, ground := Go.Ground.phase }, { on := 8, ground := Go.Ground.phase }], guard := none }) (v := ?_) rfl (by kernel_rfl) (by kernel_rfl) (by kernel_rfl) (fun _ _ _ h => h) (Or.inl ⟨by rfl, ?_⟩) (by assumption) ?_
          rotate_left
          · intro w hSw; (try dsimp only at hSw); go_simp <;> first | with_reducible rfl | (rw [if_neg (by first | omega | (simp only [ByteArray.size_append] at *; omega))])
          simp only [Act.put, List.setIfInBounds_toArray, List.set_cons_zero, List.set_cons_succ]
          refine wpAnyH_done (by kernel_rfl) ?_ _
          go_wp2_with (fail)
          go_roundw
          case rel => exact ⟨t + 1, by omega, by go_num, by rw [HT.out]; rfl, RD⟩
          case measure => simp [intOf]; omega
        | false =>
          go_wp2_with (fail)
          refine wp_region_held_drew (S := fun V => V.cell? ⟨g, t * 2, none⟩ = some (.string q.1) ∧ V.cell? ⟨g, t * 2 + 1, none⟩ = some (.int .i64 (q.2 : Int)) ∧ V.cell? ⟨w.heap.size + 1, 0, none⟩ = some (.string x.name) ∧ V.cell? ⟨w.heap.size + 1, 1, none⟩ = some (.int .i64 (ago : Int))) (by kernel_rfl) ?_ (fun hHeld => ?_)
          · exact ⟨y0, y1, y2, y3⟩
          refine wpAnyH_take (i := 0) (oi := { dst := some 24, op := Go.Op.move (Go.Operand.tmp 8), type := 4, pos := _, after := #[], guard := none }) (v := ?_) rfl (by kernel_rfl) (by kernel_rfl) (by kernel_rfl) (fun _ _ _ h => h) (Or.inl ⟨by rfl, ?_⟩) (by assumption) ?_
          rotate_left
          · intro w hSw; (try dsimp only at hSw); go_simp <;> first | with_reducible rfl | (rw [if_neg (by first | omega | (simp only [ByteArray.size_append] at *; omega))])
          simp only [Act.put, List.setIfInBounds_toArray, List.set_cons_zero, List.set_cons_succ]
          refine wpAnyH_take (i := 1) (oi := { dst := some 25, op := Go.Op.move (Go.Operand.tmp 24), type := 4, pos := _, after := #[{ on := 0, ground := Go.Ground.data }], guard := none }) (v := ?_) rfl (by kernel_rfl) (by kernel_rfl) (by kernel_rfl) (fun _ _ _ h => h) (Or.inl ⟨by rfl, ?_⟩) (by assumption) ?_
          rotate_left
          · intro w hSw; (try dsimp only at hSw); go_simp <;> first | with_reducible rfl | (rw [if_neg (by first | omega | (simp only [ByteArray.size_append] at *; omega))])
          simp only [Act.put, List.setIfInBounds_toArray, List.set_cons_zero, List.set_cons_succ]
          refine wpAnyH_take (i := 2) (oi := { dst := some 26, op := Go.Op.move (Go.Operand.tmp 0), type := 44, pos := _, after := #[{ on := 1, ground := Go.Ground.guard }], guard := some (1, false) }) (v := ?_) rfl (by kernel_rfl) (by kernel_rfl) (by kernel_rfl) (fun _ _ _ h => h) (Or.inl ⟨by rfl, ?_⟩) (by assumption) ?_
          rotate_left
          · intro w hSw; (try dsimp only at hSw); go_simp <;> first | with_reducible rfl | (rw [if_neg (by first | omega | (simp only [ByteArray.size_append] at *; omega))])
          simp only [Act.put, List.setIfInBounds_toArray, List.set_cons_zero, List.set_cons_succ]
          refine wpAnyH_take (i := 3) (oi := { dst := some 27, op := Go.Op.move (Go.Operand.tmp 9), type := 3, pos := _, after := #[{ on := 1, ground := Go.Ground.guard }], guard := some (1, false) }) (v := ?_) rfl (by kernel_rfl) (by kernel_rfl) (by kernel_rfl) (fun _ _ _ h => h) (Or.inl ⟨by rfl, ?_⟩) (by assumption) ?_
          rotate_left
          · intro w hSw; (try dsimp only at hSw); go_simp <;> first | with_reducible rfl | (rw [if_neg (by first | omega | (simp only [ByteArray.size_append] at *; omega))])
          simp only [Act.put, List.setIfInBounds_toArray, List.set_cons_zero, List.set_cons_succ]
          refine wpAnyH_take (i := 4) (oi := { dst := some 28, op := Go.Op.indexAddr 44 (Go.Operand.tmp 26) (Go.Operand.tmp 27), type := 0, pos := _, after := #[{ on := 2, ground := Go.Ground.data }, { on := 3, ground := Go.Ground.data }, { on := 1, ground := Go.Ground.guard }], guard := some (1, false) }) (v := ?_) rfl (by kernel_rfl) (by kernel_rfl) (by kernel_rfl) (fun _ _ _ h => h) (Or.inl ⟨by rfl, ?_⟩) (by assumption) ?_
          rotate_left
          · intro w hSw; (try dsimp only at hSw); go_simp <;> first | with_reducible rfl | (rw [if_neg (by first | omega | (simp only [ByteArray.size_append] at *; omega))])
          simp only [Act.put, List.setIfInBounds_toArray, List.set_cons_zero, List.set_cons_succ]
          refine wpAnyH_take (i := 5) (oi := { dst := some 29, op := Go.Op.load 47 (Go.Operand.tmp 28), type := 47, pos := _, after := #[{ on := 4, ground := Go.Ground.data }, { on := 1, ground := Go.Ground.guard }], guard := some (1, false) }) (v := ?_) rfl (by kernel_rfl) (by kernel_rfl) (by kernel_rfl) (fun _ _ _ h => h) (Or.inl ⟨by rfl, ?_⟩) (by assumption) ?_
          rotate_left
          · intro w hSw; (try dsimp only at hSw); go_simp <;> first | with_reducible rfl | (rw [if_neg (by first | omega | (simp only [ByteArray.size_append] at *; omega))])
          simp only [Act.put, List.setIfInBounds_toArray, List.set_cons_zero, List.set_cons_succ]
          refine wpAnyH_take (i := 6) (oi := { dst := some 30, op := Go.Op.load 47 (Go.Operand.tmp 7), type := 47, pos := _, after := #[{ on := 1, ground := Go.Ground.guard }], guard := some (1, false) }) (v := ?_) rfl (by kernel_rfl) (by kernel_rfl) (by kernel_rfl) (fun _ _ _ h => h) (Or.inl ⟨by rfl, ?_⟩) (by assumption) ?_
          rotate_left
          · intro w hSw; (try dsimp only at hSw); go_simp <;> first | with_reducible rfl | (rw [if_neg (by first | omega | (simp only [ByteArray.size_append] at *; omega))])
          simp only [Act.put, List.setIfInBounds_toArray, List.set_cons_zero, List.set_cons_succ]
          refine wpAnyH_take (i := 7) (oi := { dst := some 31, op := Go.Op.binOp Go.BinOp.eql 47 (Go.Operand.tmp 29) (Go.Operand.tmp 30) 47, type := 4, pos := _, after := #[{ on := 5, ground := Go.Ground.data }, { on := 6, ground := Go.Ground.data }, { on := 1, ground := Go.Ground.guard }], guard := some (1, false) }) (v := .bool bq) rfl (by kernel_rfl) (by kernel_rfl) (by kernel_rfl) (fun _ _ _ h => h) (Or.inl ⟨by rfl, ?_⟩) (by assumption) ?_
          · intro w hSw; (try dsimp only at hSw); go_simp; rw [← HBQ.out]; exact ref_eq _ _ _ _ _
          simp only [Act.put, List.setIfInBounds_toArray, List.set_cons_zero, List.set_cons_succ]
          refine wpAnyH_take (i := 8) (oi := { dst := some 32, op := Go.Op.pick (Go.Operand.tmp 25) (Go.Operand.const (Go.Value.bool true)) (Go.Operand.tmp 31), type := 4, pos := _, after := #[{ on := 1, ground := Go.Ground.data }, { on := 7, ground := Go.Ground.data }], guard := none }) (v := ?_) rfl (by kernel_rfl) (by kernel_rfl) (by kernel_rfl) (fun _ _ _ h => h) (Or.inl ⟨by rfl, ?_⟩) (by assumption) ?_
          rotate_left
          · intro w hSw; (try dsimp only at hSw); go_simp <;> first | with_reducible rfl | (rw [if_neg (by first | omega | (simp only [ByteArray.size_append] at *; omega))])
          simp only [Act.put, List.setIfInBounds_toArray, List.set_cons_zero, List.set_cons_succ]
          refine wpAnyH_take (i := 9) (oi := { dst := some 8, op := Go.Op.assign (Go.Operand.tmp 32), type := 4, pos := _, after := #[{ on := 8, ground := Go.Ground.data }, { on := 1, ground := Go.Ground.chain }, { on := 0, ground := Go.Ground.phase }, { on := 1, ground := Go.Ground.phase }, { on := 2, ground := Go.Ground.phase }, { on := 3, ground := Go.Ground.phase }, { on := 4, ground := Go.Ground.phase }, { on := 5, ground := Go.Ground.phase }, { on := 6, ground := Go.Ground.phase }, { on := 7, ground := Go.Ground.phase }, { on := 8, ground := Go.Ground.phase }], guard := none }) (v := ?_) rfl (by kernel_rfl) (by kernel_rfl) (by kernel_rfl) (fun _ _ _ h => h) (Or.inl ⟨by rfl, ?_⟩) (by assumption) ?_
          rotate_left
          · intro w hSw; (try dsimp only at hSw); go_simp <;> first | with_reducible rfl | (rw [if_neg (by first | omega | (simp only [ByteArray.size_append] at *; omega))])
          simp only [Act.put, List.setIfInBounds_toArray, List.set_cons_zero, List.set_cons_succ]
          refine wpAnyH_done (by kernel_rfl) ?_ _
          go_wp2_with (fail)
          go_roundw
          case rel => exact ⟨t + 1, by omega, by go_num, by rw [HT.out, Bool.false_or], RD⟩
          case measure => simp [intOf]; omega
      · have hlt' : ¬ (t : Int) < (acc.length : Int) := by omega
        obtain rfl : t = acc.length := by omega
        rw [List.take_length]
        clear ht hlt
        cases hin : rIn acc (x.name, ago) with
        | true =>
          have R1 : Hid (RL w0 WB (.slice va acc.length vc) (accAt k x ago acc 0) (.slice va acc.length vc) wr) := hid (show RL w0 WB _ (ownRefs x ago acc) _ wr by rw [HOR.out]; unfold addR; rw [if_pos hin]; exact HR.out)
          have RB := hid (HR.out.keep BR.out VNB.out)
          have v0 := (cell_of_row wr w.heap.size 0 _ 41 (0, 0) RB.out).trans (show _ = some (.int .u8 (x.op : Int)) from rfl)
          clear HR hin
          go_wp2_with (fail)
          clear v0
          go_loopw [0, 10] (fun l i wr => ∃ j : Nat, j ≤ x.args.length ∧ i = .int .i64 (j : Int) ∧ Hid (RL w0 WB (.slice va acc.length vc) (accAt k x ago acc j) l wr)) (fun _ i _ => x.args.length - (intOf i).toNat)
          case atStart => exact ⟨0, Nat.zero_le _, rfl, R1⟩
          case round =>
            obtain ⟨j, hj, rfl, HR⟩ := hrel
            have RB := hid (HR.out.keep BR.out VNB.out)
            have v0 := (cell_of_row wr w.heap.size 0 _ 41 (0, 0) RB.out).trans (show _ = some (.int .u8 (x.op : Int)) from rfl)
            have v3 := (cell_of_row wr w.heap.size 3 _ 41 (0, 0) RB.out).trans (show _ = some (.slice ao x.args.length cap) from rfl)
            by_cases hlt : j < x.args.length
            · have hlt' : (j : Int) < (x.args.length : Int) := by omega
              have hj0 : (0 : Int) ≤ (j : Int) := by omega
              obtain ⟨bb, o, rfl, hc⟩ := HC.out.resolve_left (by omega)
              have HBW := hid (HR.out.below VLO.out HWB.out SWB.out)
              obtain ⟨h0, h1, h2, h3⟩ := hc j hlt
              have y0 := cell_kept h0 HBW.out
              have y1 := cell_kept h1 HBW.out
              have y2 := cell_kept h2 HBW.out
              have y3 := cell_kept h3 HBW.out
              obtain ⟨a4, c4, _, e4, _⟩ := (HS.out j hlt).out
              rw [e4] at y3
              have c50 := HIH.out x.args[j] _ (nextAgo x ago) (accAt k x ago acc j) _ w0 wr (e4 ▸ HS.out j hlt) (HNM.out _ (List.getElem_mem hlt)) HBW.out HR.out.own (by unfold nextAgo; split <;> omega) (by
                have h1 := acc_len k x ago acc j
                have h2 := cntAt_succ (k := k) hlt
                have h3 := cntAt_le k x (x.args.length - (j + 1)) (j + 1) (by omega)
                have h4 := HCN.out
                omega)
              rw [← accAt_succ hlt] at c50
              rw [hna'] at c50
              clear h0 h1 h2 h3 hc e4
              generalize x.args[j] = y at *
              go_wp2_with (fail)
              refine c50.mono ?_
              rintro e w2 ⟨l', rfl, hown, hgr, hfr⟩
              have HR2 := hid (HR.out.step hown hgr hfr)
              clear hown hgr hfr
              go_wp2_with (fail)
              go_roundw
              case rel => exact ⟨j + 1, by omega, by go_num, HR2⟩
              case measure => simp [intOf]; omega
            · have hlt' : ¬ (j : Int) < (x.args.length : Int) := by omega
              obtain rfl : j = x.args.length := by omega
              have hend := HR.out
              rw [acc_all] at hend
              have HE := hid hend
              clear hend
              go_wp2_with (fail)
              go_ret
              exact ⟨_, rfl, HE.out.own, HE.out.back SWB.out WBW.out, HE.out.fr' SW.out⟩
        | false =>
          have RB := hid (HR.out.keep BR.out VNB.out)
          have HAD : Hid (ownRefs x ago acc = acc ++ [(x.name, ago)]) := hid (by rw [HOR.out]; unfold addR; rw [hin]; rfl)
          have N2 := hid (two_new wr (.string x.name) (.int .i64 (ago : Int)))
          have O2 := hid (HR.out.own.alloc (.cells #[.string x.name, .int .i64 (ago : Int)] 47))
          have BA := hid ((Below.refl wr.heap.size wr).alloc (Nat.le_refl _) (.cells #[.string x.name, .int .i64 (ago : Int)] 47))
          have v0 := (cell_of_row wr w.heap.size 0 _ 41 (0, 0) RB.out).trans (show _ = some (.int .u8 (x.op : Int)) from rfl)
          have hmx : acc.length + 1 ≤ maxLen := by unfold maxLen; omega
          have hlo : w0.heap.size ≤ (wr.alloc (.cells #[.string x.name, .int .i64 (ago : Int)] 47)).heap.size := Nat.le_trans (Nat.le_trans SWB.out HR.out.grown.size) BA.out.size
          clear hin
          go_wp2_with (at_builtin; refine wpList_append_own_at _ rfl (.tmp 35) (.tmp 37) 44 rfl w0.heap.size 47 i0 _ 2 24 Tryd.underlying44 hi hz0 hz1 hz2 rfl (by decide) _ _ _ rfl O2.out ⟨wr.heap.size, 0, none⟩ 1 1 [.string x.name, .int .i64 (ago : Int)] rfl rfl N2.out (by simp [Value.oneCell']) hmx (by omega) hlo ?_; intro l2 w6 hown6 hg6 _ hat6; have R1 : Hid (RL w0 WB (.slice va acc.length vc) (accAt k x ago acc 0) l2 w6) := hid (RL.more HR.out BA.out (by rw [show accAt k x ago acc 0 = ownRefs x ago acc from rfl, HAD.out, List.length_append, refsV_app]; exact hown6) hg6 hat6); have v0' := (cell_of_row w6 w.heap.size 0 _ 41 (0, 0) (R1.out.keep BR.out VNB.out)).trans (show _ = some (.int .u8 (x.op : Int)) from rfl); clear hown6 hg6 hat6)
          clear v0 v0' HR
          go_loopw [0, 10] (fun l i wr => ∃ j : Nat, j ≤ x.args.length ∧ i = .int .i64 (j : Int) ∧ Hid (RL w0 WB (.slice va acc.length vc) (accAt k x ago acc j) l wr)) (fun _ i _ => x.args.length - (intOf i).toNat)
          case atStart => exact ⟨0, Nat.zero_le _, rfl, R1⟩
          case round =>
            obtain ⟨j, hj, rfl, HR⟩ := hrel
            have RB := hid (HR.out.keep BR.out VNB.out)
            have v0 := (cell_of_row wr w.heap.size 0 _ 41 (0, 0) RB.out).trans (show _ = some (.int .u8 (x.op : Int)) from rfl)
            have v3 := (cell_of_row wr w.heap.size 3 _ 41 (0, 0) RB.out).trans (show _ = some (.slice ao x.args.length cap) from rfl)
            by_cases hlt : j < x.args.length
            · have hlt' : (j : Int) < (x.args.length : Int) := by omega
              have hj0 : (0 : Int) ≤ (j : Int) := by omega
              obtain ⟨bb, o, rfl, hc⟩ := HC.out.resolve_left (by omega)
              have HBW := hid (HR.out.below VLO.out HWB.out SWB.out)
              obtain ⟨h0, h1, h2, h3⟩ := hc j hlt
              have y0 := cell_kept h0 HBW.out
              have y1 := cell_kept h1 HBW.out
              have y2 := cell_kept h2 HBW.out
              have y3 := cell_kept h3 HBW.out
              obtain ⟨a4, c4, _, e4, _⟩ := (HS.out j hlt).out
              rw [e4] at y3
              have c50 := HIH.out x.args[j] _ (nextAgo x ago) (accAt k x ago acc j) _ w0 wr (e4 ▸ HS.out j hlt) (HNM.out _ (List.getElem_mem hlt)) HBW.out HR.out.own (by unfold nextAgo; split <;> omega) (by
                have h1 := acc_len k x ago acc j
                have h2 := cntAt_succ (k := k) hlt
                have h3 := cntAt_le k x (x.args.length - (j + 1)) (j + 1) (by omega)
                have h4 := HCN.out
                omega)
              rw [← accAt_succ hlt] at c50
              rw [hna'] at c50
              clear h0 h1 h2 h3 hc e4
              generalize x.args[j] = y at *
              go_wp2_with (fail)
              refine c50.mono ?_
              rintro e w2 ⟨l', rfl, hown, hgr, hfr⟩
              have HR2 := hid (HR.out.step hown hgr hfr)
              clear hown hgr hfr
              go_wp2_with (fail)
              go_roundw
              case rel => exact ⟨j + 1, by omega, by go_num, HR2⟩
              case measure => simp [intOf]; omega
            · have hlt' : ¬ (j : Int) < (x.args.length : Int) := by omega
              obtain rfl : j = x.args.length := by omega
              have hend := HR.out
              rw [acc_all] at hend
              have HE := hid hend
              clear hend
              go_wp2_with (fail)
              go_ret
              exact ⟨_, rfl, HE.out.own, HE.out.back SWB.out WBW.out, HE.out.fr' SW.out⟩
  · have h3' : ((x.op : Int) == 3) = false := by rw [beq_eq_false_iff_ne]; omega
    have BR := hid (heap_alloc_new w (.cells #[.int .u8 (x.op : Int), .int .i64 x.n, .string x.name, .slice ao x.args.length cap] 41))
    have VNB : Hid (v.ownBlock ≠ some w.heap.size) := hid (fun e => by have := (VLT.out _ e).2; omega)
    have WBW := hid ((Below.refl w.heap.size w).alloc (Nat.le_refl _) (.cells #[.int .u8 (x.op : Int), .int .i64 x.n, .string x.name, .slice ao x.args.length cap] 41))
    have HWB := hid (HB.out.trans (WBW.out.mono HB.out.size))
    have SWB : Hid (w0.heap.size ≤ (w.alloc (.cells #[.int .u8 (x.op : Int), .int .i64 x.n, .string x.name, .slice ao x.args.length cap] 41)).heap.size) := hid HWB.out.size
    have SW : Hid (w.heap.size ≤ (w.alloc (.cells #[.int .u8 (x.op : Int), .int .i64 x.n, .string x.name, .slice ao x.args.length cap] 41)).heap.size) := hid (by simp)
    have R0 := hid (RL.start (HOW.out.alloc (.cells #[.int .u8 (x.op : Int), .int .i64 x.n, .string x.name, .slice ao x.args.length cap] 41)))
    have HOR : Hid (ownRefs x ago acc = acc) := hid (by unfold ownRefs; rw [if_neg h3])
    clear h3
    by_cases h19 : x.op = 19
    · have h19' : ((x.op : Int) == 19) = true := by rw [beq_iff_eq]; omega
      have hna : nextAgo x ago = ago + 1 := by unfold nextAgo; rw [if_pos h19]
      have hna' : ((nextAgo x ago : Nat) : Int) = (ago : Int) + 1 := by rw [hna]; omega
      have hwa : IntKind.i64.wrap ((ago : Int) + 1) = (ago : Int) + 1 := by rw [IntKind.wrap_i64]; omega
      clear h19 hna
      go_enter Tryd.func50, Tryd.ntmps50
      go_wp2_with (fail)
      generalize (w.alloc (.cells #[.int .u8 (x.op : Int), .int .i64 x.n, .string x.name, .slice ao x.args.length cap] 41)) = WB at *
      have R1 : Hid (RL w0 WB v (accAt k x ago acc 0) v WB) := hid (show RL w0 WB v (ownRefs x ago acc) v WB by rw [HOR.out]; exact R0.out)
      go_loopw [0, 10] (fun l i wr => ∃ j : Nat, j ≤ x.args.length ∧ i = .int .i64 (j : Int) ∧ Hid (RL w0 WB v (accAt k x ago acc j) l wr)) (fun _ i _ => x.args.length - (intOf i).toNat)
      case atStart => exact ⟨0, Nat.zero_le _, rfl, R1⟩
      case round =>
        obtain ⟨j, hj, rfl, HR⟩ := hrel
        have RB := hid (HR.out.keep BR.out VNB.out)
        have v0 := (cell_of_row wr w.heap.size 0 _ 41 (0, 0) RB.out).trans (show _ = some (.int .u8 (x.op : Int)) from rfl)
        have v3 := (cell_of_row wr w.heap.size 3 _ 41 (0, 0) RB.out).trans (show _ = some (.slice ao x.args.length cap) from rfl)
        by_cases hlt : j < x.args.length
        · have hlt' : (j : Int) < (x.args.length : Int) := by omega
          have hj0 : (0 : Int) ≤ (j : Int) := by omega
          obtain ⟨bb, o, rfl, hc⟩ := HC.out.resolve_left (by omega)
          have HBW := hid (HR.out.below VLO.out HWB.out SWB.out)
          obtain ⟨h0, h1, h2, h3⟩ := hc j hlt
          have y0 := cell_kept h0 HBW.out
          have y1 := cell_kept h1 HBW.out
          have y2 := cell_kept h2 HBW.out
          have y3 := cell_kept h3 HBW.out
          obtain ⟨a4, c4, _, e4, _⟩ := (HS.out j hlt).out
          rw [e4] at y3
          have c50 := HIH.out x.args[j] _ (nextAgo x ago) (accAt k x ago acc j) _ w0 wr (e4 ▸ HS.out j hlt) (HNM.out _ (List.getElem_mem hlt)) HBW.out HR.out.own (by unfold nextAgo; split <;> omega) (by
            have h1 := acc_len k x ago acc j
            have h2 := cntAt_succ (k := k) hlt
            have h3 := cntAt_le k x (x.args.length - (j + 1)) (j + 1) (by omega)
            have h4 := HCN.out
            omega)
          rw [← accAt_succ hlt] at c50
          rw [hna'] at c50
          clear h0 h1 h2 h3 hc e4
          generalize x.args[j] = y at *
          go_wp2_with (fail)
          refine c50.mono ?_
          rintro e w2 ⟨l', rfl, hown, hgr, hfr⟩
          have HR2 := hid (HR.out.step hown hgr hfr)
          clear hown hgr hfr
          go_wp2_with (fail)
          go_roundw
          case rel => exact ⟨j + 1, by omega, by go_num, HR2⟩
          case measure => simp [intOf]; omega
        · have hlt' : ¬ (j : Int) < (x.args.length : Int) := by omega
          obtain rfl : j = x.args.length := by omega
          have hend := HR.out
          rw [acc_all] at hend
          have HE := hid hend
          clear hend
          go_wp2_with (fail)
          go_ret
          exact ⟨_, rfl, HE.out.own, HE.out.back SWB.out WBW.out, HE.out.fr' SW.out⟩
    · have h19' : ((x.op : Int) == 19) = false := by rw [beq_eq_false_iff_ne]; omega
      have hna' : ((nextAgo x ago : Nat) : Int) = (ago : Int) := by unfold nextAgo; rw [if_neg h19]
      clear h19
      go_enter Tryd.func50, Tryd.ntmps50
      go_wp2_with (fail)
      generalize (w.alloc (.cells #[.int .u8 (x.op : Int), .int .i64 x.n, .string x.name, .slice ao x.args.length cap] 41)) = WB at *
      have R1 : Hid (RL w0 WB v (accAt k x ago acc 0) v WB) := hid (show RL w0 WB v (ownRefs x ago acc) v WB by rw [HOR.out]; exact R0.out)
      go_loopw [0, 10] (fun l i wr => ∃ j : Nat, j ≤ x.args.length ∧ i = .int .i64 (j : Int) ∧ Hid (RL w0 WB v (accAt k x ago acc j) l wr)) (fun _ i _ => x.args.length - (intOf i).toNat)
      case atStart => exact ⟨0, Nat.zero_le _, rfl, R1⟩
      case round =>
        obtain ⟨j, hj, rfl, HR⟩ := hrel
        have RB := hid (HR.out.keep BR.out VNB.out)
        have v0 := (cell_of_row wr w.heap.size 0 _ 41 (0, 0) RB.out).trans (show _ = some (.int .u8 (x.op : Int)) from rfl)
        have v3 := (cell_of_row wr w.heap.size 3 _ 41 (0, 0) RB.out).trans (show _ = some (.slice ao x.args.length cap) from rfl)
        by_cases hlt : j < x.args.length
        · have hlt' : (j : Int) < (x.args.length : Int) := by omega
          have hj0 : (0 : Int) ≤ (j : Int) := by omega
          obtain ⟨bb, o, rfl, hc⟩ := HC.out.resolve_left (by omega)
          have HBW := hid (HR.out.below VLO.out HWB.out SWB.out)
          obtain ⟨h0, h1, h2, h3⟩ := hc j hlt
          have y0 := cell_kept h0 HBW.out
          have y1 := cell_kept h1 HBW.out
          have y2 := cell_kept h2 HBW.out
          have y3 := cell_kept h3 HBW.out
          obtain ⟨a4, c4, _, e4, _⟩ := (HS.out j hlt).out
          rw [e4] at y3
          have c50 := HIH.out x.args[j] _ (nextAgo x ago) (accAt k x ago acc j) _ w0 wr (e4 ▸ HS.out j hlt) (HNM.out _ (List.getElem_mem hlt)) HBW.out HR.out.own (by unfold nextAgo; split <;> omega) (by
            have h1 := acc_len k x ago acc j
            have h2 := cntAt_succ (k := k) hlt
            have h3 := cntAt_le k x (x.args.length - (j + 1)) (j + 1) (by omega)
            have h4 := HCN.out
            omega)
          rw [← accAt_succ hlt] at c50
          rw [hna'] at c50
          clear h0 h1 h2 h3 hc e4
          generalize x.args[j] = y at *
          go_wp2_with (fail)
          refine c50.mono ?_
          rintro e w2 ⟨l', rfl, hown, hgr, hfr⟩
          have HR2 := hid (HR.out.step hown hgr hfr)
          clear hown hgr hfr
          go_wp2_with (fail)
          go_roundw
          case rel => exact ⟨j + 1, by omega, by go_num, HR2⟩
          case measure => simp [intOf]; omega
        · have hlt' : ¬ (j : Int) < (x.args.length : Int) := by omega
          obtain rfl : j = x.args.length := by omega
          have hend := HR.out
          rw [acc_all] at hend
          have HE := hid hend
          clear hend
          go_wp2_with (fail)
          go_ret
          exact ⟨_, rfl, HE.out.own, HE.out.back SWB.out WBW.out, HE.out.fr' SW.out⟩
theorem rgather_any : ∀ k, RG k
  | 0 => fun x _ _ _ _ _ _ _ hN _ _ _ _ => by exact hN.elim
  | k + 1 => rgather_of k (rgather_any k)
set_option maxRecDepth 100000 in
theorem rrefs (k : Nat) (x : Ex) (s : Value) (w : World) (hS : St w x s) (hNm : NmOk k x) (hk : k ≤ 1099511627776) (hc : cnt k x ≤ 1099511627776) : Calls Tryd.prog 27 #[exV x s] w fun e w' => ∃ v, e = .returned v ∧ w'.ownsRow w.heap.size 47 2 v (gat k x 0 []).length (refsV (gat k x 0 [])) ∧ Below w.heap.size w w' := by
  obtain ⟨ao, cap, sl, rfl, _⟩ := hS.out
  have B0 := hid ((Below.refl w.heap.size w).alloc (Nat.le_refl _) (.cells #[.int .u8 (x.op : Int), .int .i64 x.n, .string x.name, .slice ao x.args.length cap] 41))
  have c50 := rgather_any k x (.slice ao x.args.length cap) 0 [] (.slice none 0 0) w (w.alloc (.cells #[.int .u8 (x.op : Int), .int .i64 x.n, .string x.name, .slice ao x.args.length cap] 41)) hS hNm B0.out ⟨rfl, .inl ⟨rfl, rfl⟩⟩ (by omega) (by simpa using hc)
  clear hS
  go_enter Tryd.func27, Tryd.ntmps27
  go_wp2_with (fail)
  refine c50.mono ?_
  rintro e w2 ⟨v', rfl, hown, hgr, _⟩
  have HO := hid hown
  have HB := hid (B0.out.grown hgr B0.out.size (fun j hj => by cases hj))
  clear hown hgr
  go_wp2_with (fail)
  go_ret
  exact ⟨_, rfl, HO.out, HB.out⟩
end Go.Proofs.YtilpoiihoikhlaaDoor.Lex
namespace Go.Proofs.YtilpoiihoikhlaaDoor.Lex
open Go.ChangeShapes Go.WideShapes Go.ChangeAt Go.RowKit Go.Joins
/-- Of how many parts; below 0: none. -/
def manyI (op : Nat) : Int := if op = 1 ∨ op = 2 ∨ op = 3 then 0 else if 0 < parts op then (parts op : Int) else -1
theorem many_1 (w : World) : Calls Tryd.prog 67 #[.int .u8 (1 : Int)] w fun e w' => e = .returned (.int .i64 (manyI 1)) ∧ w' = w := by
  have h : manyI 1 = 0 := by decide
  rw [h]
  go_enter Tryd.func67, Tryd.ntmps67
  go_wp2
  go_ret
  exact ⟨rfl, rfl⟩
theorem many_2 (w : World) : Calls Tryd.prog 67 #[.int .u8 (2 : Int)] w fun e w' => e = .returned (.int .i64 (manyI 2)) ∧ w' = w := by
  have h : manyI 2 = 0 := by decide
  rw [h]
  go_enter Tryd.func67, Tryd.ntmps67
  go_wp2
  go_ret
  exact ⟨rfl, rfl⟩
theorem many_3 (w : World) : Calls Tryd.prog 67 #[.int .u8 (3 : Int)] w fun e w' => e = .returned (.int .i64 (manyI 3)) ∧ w' = w := by
  have h : manyI 3 = 0 := by decide
  rw [h]
  go_enter Tryd.func67, Tryd.ntmps67
  go_wp2
  go_ret
  exact ⟨rfl, rfl⟩
theorem many_4 (w : World) : Calls Tryd.prog 67 #[.int .u8 (4 : Int)] w fun e w' => e = .returned (.int .i64 (manyI 4)) ∧ w' = w := by
  have h : manyI 4 = 1 := by decide
  rw [h]
  go_enter Tryd.func67, Tryd.ntmps67
  go_wp2
  go_ret
  exact ⟨rfl, rfl⟩
theorem many_5 (w : World) : Calls Tryd.prog 67 #[.int .u8 (5 : Int)] w fun e w' => e = .returned (.int .i64 (manyI 5)) ∧ w' = w := by
  have h : manyI 5 = 1 := by decide
  rw [h]
  go_enter Tryd.func67, Tryd.ntmps67
  go_wp2
  go_ret
  exact ⟨rfl, rfl⟩
theorem many_6 (w : World) : Calls Tryd.prog 67 #[.int .u8 (6 : Int)] w fun e w' => e = .returned (.int .i64 (manyI 6)) ∧ w' = w := by
  have h : manyI 6 = 2 := by decide
  rw [h]
  go_enter Tryd.func67, Tryd.ntmps67
  go_wp2
  go_ret
  exact ⟨rfl, rfl⟩
theorem many_7 (w : World) : Calls Tryd.prog 67 #[.int .u8 (7 : Int)] w fun e w' => e = .returned (.int .i64 (manyI 7)) ∧ w' = w := by
  have h : manyI 7 = 2 := by decide
  rw [h]
  go_enter Tryd.func67, Tryd.ntmps67
  go_wp2
  go_ret
  exact ⟨rfl, rfl⟩
theorem many_8 (w : World) : Calls Tryd.prog 67 #[.int .u8 (8 : Int)] w fun e w' => e = .returned (.int .i64 (manyI 8)) ∧ w' = w := by
  have h : manyI 8 = 2 := by decide
  rw [h]
  go_enter Tryd.func67, Tryd.ntmps67
  go_wp2
  go_ret
  exact ⟨rfl, rfl⟩
theorem many_9 (w : World) : Calls Tryd.prog 67 #[.int .u8 (9 : Int)] w fun e w' => e = .returned (.int .i64 (manyI 9)) ∧ w' = w := by
  have h : manyI 9 = 2 := by decide
  rw [h]
  go_enter Tryd.func67, Tryd.ntmps67
  go_wp2
  go_ret
  exact ⟨rfl, rfl⟩
theorem many_10 (w : World) : Calls Tryd.prog 67 #[.int .u8 (10 : Int)] w fun e w' => e = .returned (.int .i64 (manyI 10)) ∧ w' = w := by
  have h : manyI 10 = 2 := by decide
  rw [h]
  go_enter Tryd.func67, Tryd.ntmps67
  go_wp2
  go_ret
  exact ⟨rfl, rfl⟩
theorem many_11 (w : World) : Calls Tryd.prog 67 #[.int .u8 (11 : Int)] w fun e w' => e = .returned (.int .i64 (manyI 11)) ∧ w' = w := by
  have h : manyI 11 = 2 := by decide
  rw [h]
  go_enter Tryd.func67, Tryd.ntmps67
  go_wp2
  go_ret
  exact ⟨rfl, rfl⟩
theorem many_12 (w : World) : Calls Tryd.prog 67 #[.int .u8 (12 : Int)] w fun e w' => e = .returned (.int .i64 (manyI 12)) ∧ w' = w := by
  have h : manyI 12 = 2 := by decide
  rw [h]
  go_enter Tryd.func67, Tryd.ntmps67
  go_wp2
  go_ret
  exact ⟨rfl, rfl⟩
theorem many_13 (w : World) : Calls Tryd.prog 67 #[.int .u8 (13 : Int)] w fun e w' => e = .returned (.int .i64 (manyI 13)) ∧ w' = w := by
  have h : manyI 13 = 2 := by decide
  rw [h]
  go_enter Tryd.func67, Tryd.ntmps67
  go_wp2
  go_ret
  exact ⟨rfl, rfl⟩
theorem many_14 (w : World) : Calls Tryd.prog 67 #[.int .u8 (14 : Int)] w fun e w' => e = .returned (.int .i64 (manyI 14)) ∧ w' = w := by
  have h : manyI 14 = 2 := by decide
  rw [h]
  go_enter Tryd.func67, Tryd.ntmps67
  go_wp2
  go_ret
  exact ⟨rfl, rfl⟩
theorem many_15 (w : World) : Calls Tryd.prog 67 #[.int .u8 (15 : Int)] w fun e w' => e = .returned (.int .i64 (manyI 15)) ∧ w' = w := by
  have h : manyI 15 = 2 := by decide
  rw [h]
  go_enter Tryd.func67, Tryd.ntmps67
  go_wp2
  go_ret
  exact ⟨rfl, rfl⟩
theorem many_16 (w : World) : Calls Tryd.prog 67 #[.int .u8 (16 : Int)] w fun e w' => e = .returned (.int .i64 (manyI 16)) ∧ w' = w := by
  have h : manyI 16 = 2 := by decide
  rw [h]
  go_enter Tryd.func67, Tryd.ntmps67
  go_wp2
  go_ret
  exact ⟨rfl, rfl⟩
theorem many_17 (w : World) : Calls Tryd.prog 67 #[.int .u8 (17 : Int)] w fun e w' => e = .returned (.int .i64 (manyI 17)) ∧ w' = w := by
  have h : manyI 17 = 3 := by decide
  rw [h]
  go_enter Tryd.func67, Tryd.ntmps67
  go_wp2
  go_ret
  exact ⟨rfl, rfl⟩
theorem many_18 (w : World) : Calls Tryd.prog 67 #[.int .u8 (18 : Int)] w fun e w' => e = .returned (.int .i64 (manyI 18)) ∧ w' = w := by
  have h : manyI 18 = 2 := by decide
  rw [h]
  go_enter Tryd.func67, Tryd.ntmps67
  go_wp2
  go_ret
  exact ⟨rfl, rfl⟩
theorem many_19 (w : World) : Calls Tryd.prog 67 #[.int .u8 (19 : Int)] w fun e w' => e = .returned (.int .i64 (manyI 19)) ∧ w' = w := by
  have h : manyI 19 = 1 := by decide
  rw [h]
  go_enter Tryd.func67, Tryd.ntmps67
  go_wp2
  go_ret
  exact ⟨rfl, rfl⟩
theorem jOf_far {op : Nat} (h : 20 ≤ op) : jOf op = none := by
  unfold jOf JT
  rw [List.find?_eq_none]
  intro r hr
  simp only [List.mem_cons, List.not_mem_nil, or_false] at hr
  rcases hr with rfl | rfl | rfl | rfl | rfl | rfl | rfl | rfl | rfl | rfl | rfl | rfl <;> simp <;> omega
theorem many_far {op : Nat} (h : op = 0 ∨ 20 ≤ op) : manyI op = -1 := by
  rcases h with rfl | h
  · decide
  · have hp : parts op = 0 := by unfold parts; rw [if_neg (by omega), if_neg (by omega), jOf_far h]; rfl
    unfold manyI
    rw [if_neg (by omega), hp]
    rfl
theorem many_any (op : Nat) (w : World) : Calls Tryd.prog 67 #[.int .u8 (op : Int)] w fun e w' => e = .returned (.int .i64 (manyI op)) ∧ w' = w := by
  by_cases hop : op = 0 ∨ 20 ≤ op
  · rw [many_far hop]
    have e1 := neN (a := op) (b := 1) (by omega)
    have e2 := neN (a := op) (b := 2) (by omega)
    have e3 := neN (a := op) (b := 3) (by omega)
    have e4 := neN (a := op) (b := 4) (by omega)
    have e5 := neN (a := op) (b := 5) (by omega)
    have e6 := neN (a := op) (b := 6) (by omega)
    have e7 := neN (a := op) (b := 7) (by omega)
    have e8 := neN (a := op) (b := 8) (by omega)
    have e9 := neN (a := op) (b := 9) (by omega)
    have e10 := neN (a := op) (b := 10) (by omega)
    have e11 := neN (a := op) (b := 11) (by omega)
    have e12 := neN (a := op) (b := 12) (by omega)
    have e13 := neN (a := op) (b := 13) (by omega)
    have e14 := neN (a := op) (b := 14) (by omega)
    have e15 := neN (a := op) (b := 15) (by omega)
    have e16 := neN (a := op) (b := 16) (by omega)
    have e17 := neN (a := op) (b := 17) (by omega)
    have e18 := neN (a := op) (b := 18) (by omega)
    have e19 := neN (a := op) (b := 19) (by omega)
    clear hop
    go_enter Tryd.func67, Tryd.ntmps67
    go_wp2
    go_ret
    exact ⟨rfl, rfl⟩
  · have h : op = 1 ∨ op = 2 ∨ op = 3 ∨ op = 4 ∨ op = 5 ∨ op = 6 ∨ op = 7 ∨ op = 8 ∨ op = 9 ∨ op = 10 ∨ op = 11 ∨ op = 12 ∨ op = 13 ∨ op = 14 ∨ op = 15 ∨ op = 16 ∨ op = 17 ∨ op = 18 ∨ op = 19 := by omega
    clear hop
    rcases h with rfl | rfl | rfl | rfl | rfl | rfl | rfl | rfl | rfl | rfl | rfl | rfl | rfl | rfl | rfl | rfl | rfl | rfl | rfl
    · exact many_1 w
    · exact many_2 w
    · exact many_3 w
    · exact many_4 w
    · exact many_5 w
    · exact many_6 w
    · exact many_7 w
    · exact many_8 w
    · exact many_9 w
    · exact many_10 w
    · exact many_11 w
    · exact many_12 w
    · exact many_13 w
    · exact many_14 w
    · exact many_15 w
    · exact many_16 w
    · exact many_17 w
    · exact many_18 w
    · exact many_19 w
/-- The fields but for the parts. -/
def fldOk (op : Nat) (n : Int) (nm : ByteArray) : Bool :=
  if op = 1 then decide (0 ≤ n) && decide (nm.size = 0)
  else if op = 2 then (decide (n = 0) || decide (n = 1)) && decide (nm.size = 0)
  else if op = 3 then decide (n = 0) && isName nm
  else decide (n = 0) && decide (nm.size = 0)
theorem fields_split (op : Nat) (n : Int) (nm : ByteArray) (len : Nat) : fieldsOk op n nm len = (decide (manyI op = (len : Int)) && fldOk op n nm) := by
  have hz : decide ((0 : Int) = (len : Int)) = decide (len = 0) := by
    by_cases h : len = 0
    · rw [decide_eq_true h, decide_eq_true (by omega)]
    · rw [decide_eq_false h, decide_eq_false (by omega)]
  unfold fieldsOk fldOk
  by_cases h1 : op = 1
  · rw [if_pos h1, if_pos h1, manyI, if_pos (.inl h1), hz]
    cases decide (0 ≤ n) <;> cases decide (nm.size = 0) <;> cases decide (len = 0) <;> rfl
  · rw [if_neg h1, if_neg h1]
    by_cases h2 : op = 2
    · rw [if_pos h2, if_pos h2, manyI, if_pos (.inr (.inl h2)), hz]
      cases (decide (n = 0) || decide (n = 1)) <;> cases decide (nm.size = 0) <;> cases decide (len = 0) <;> rfl
    · rw [if_neg h2, if_neg h2]
      by_cases h3 : op = 3
      · rw [if_pos h3, if_pos h3, manyI, if_pos (.inr (.inr h3)), hz]
        cases decide (n = 0) <;> cases isName nm <;> cases decide (len = 0) <;> rfl
      · rw [if_neg h3, if_neg h3, manyI, if_neg (by omega)]
        by_cases hp : 0 < parts op
        · rw [if_pos hp, decide_eq_true hp]
          have : decide ((parts op : Int) = (len : Int)) = decide (len = parts op) := by
            by_cases h : len = parts op
            · rw [decide_eq_true h, decide_eq_true (by omega)]
            · rw [decide_eq_false h, decide_eq_false (by omega)]
          rw [this]
          cases decide (n = 0) <;> cases decide (nm.size = 0) <;> cases decide (len = parts op) <;> rfl
        · have hl : decide ((-1 : Int) = (len : Int)) = false := decide_eq_false (by omega)
          rw [if_neg hp, decide_eq_false hp, hl]
          rfl
end Go.Proofs.YtilpoiihoikhlaaDoor.Lex
namespace Go.Proofs.YtilpoiihoikhlaaDoor.Lex
open Go.ChangeShapes Go.WideShapes Go.ChangeAt Go.RowKit Go.Joins
set_option linter.unusedVariables false
/-- A size, below 0 if there is none. -/
def szI : Option Nat → Int
  | none => -1
  | some k => (k : Int)
def RSzC (d : Nat) : Prop := ∀ (x : Ex) (w : World) (s : Value) (M : Nat), M ≤ 200 → St w x s → Calls Tryd.prog 58 #[exV x s, .int .i64 (d : Int), .int .i64 (M : Int)] w fun e w' => e = .returned (.int .i64 (szI (sz d M x))) ∧ Below w.heap.size w w'
theorem inn {a b : Int} (h : a = b) : (a != b) = false := by simp [h]
theorem inq {a b : Int} (h : ¬ a = b) : (a != b) = true := by simp [h]
theorem drewN_zero (w : World) : w.drewN 0 = w := rfl
set_option maxRecDepth 100000 in
set_option maxHeartbeats 1000000 in
theorem rs_d0 (x : Ex) (ao : Option Addr) (cap : Nat) (D M : Int) (w : World) (hD : (D == 0) = true) : Calls Tryd.prog 58 #[exV x (.slice ao x.args.length cap), .int .i64 D, .int .i64 M] w fun e w' => e = .returned (.int .i64 (-1)) ∧ Below w.heap.size w w' := by
  go_enter Tryd.func58, Tryd.ntmps58
  go_wp2
  go_quiet ((go_at_call 67; exact Calls.quiet_of_same (many_any _ _)))
  go_wp2
  go_ret
  exact ⟨rfl, below_drewN ((Below.refl _ _).alloc (Nat.le_refl _) _) _⟩
set_option maxRecDepth 100000 in
set_option maxHeartbeats 1000000 in
theorem rs_m0 (x : Ex) (ao : Option Addr) (cap : Nat) (D M : Int) (w : World) (hD : (D == 0) = false) (hM : (M == 0) = true) : Calls Tryd.prog 58 #[exV x (.slice ao x.args.length cap), .int .i64 D, .int .i64 M] w fun e w' => e = .returned (.int .i64 (-1)) ∧ Below w.heap.size w w' := by
  go_enter Tryd.func58, Tryd.ntmps58
  go_wp2
  go_quiet ((go_at_call 67; exact Calls.quiet_of_same (many_any _ _)))
  go_wp2
  go_ret
  exact ⟨rfl, below_drewN ((Below.refl _ _).alloc (Nat.le_refl _) _) _⟩
set_option maxRecDepth 100000 in
set_option maxHeartbeats 1000000 in
theorem rs_mn (x : Ex) (ao : Option Addr) (cap : Nat) (D M : Int) (w : World) (hD : (D == 0) = false) (hM : (M == 0) = false) (hm : (manyI x.op != (x.args.length : Int)) = true) : Calls Tryd.prog 58 #[exV x (.slice ao x.args.length cap), .int .i64 D, .int .i64 M] w fun e w' => e = .returned (.int .i64 (-1)) ∧ Below w.heap.size w w' := by
  go_enter Tryd.func58, Tryd.ntmps58
  go_wp2
  go_quiet ((go_at_call 67; exact Calls.quiet_of_same (many_any _ _)))
  go_wp2
  go_ret
  exact ⟨rfl, below_drewN ((Below.refl _ _).alloc (Nat.le_refl _) _) _⟩
set_option maxRecDepth 100000 in
set_option maxHeartbeats 1000000 in
theorem rs_1a (x : Ex) (ao : Option Addr) (cap : Nat) (D M : Int) (w : World) (hD : (D == 0) = false) (hM : (M == 0) = false) (hm : (manyI x.op != (x.args.length : Int)) = false) (e1 : ((x.op : Int) == 1) = true) (h0 : x.n < 0) : Calls Tryd.prog 58 #[exV x (.slice ao x.args.length cap), .int .i64 D, .int .i64 M] w fun e w' => e = .returned (.int .i64 (-1)) ∧ Below w.heap.size w w' := by
  go_enter Tryd.func58, Tryd.ntmps58
  go_wp2
  go_quiet ((go_at_call 67; exact Calls.quiet_of_same (many_any _ _)))
  go_wp2
  go_ret
  exact ⟨rfl, below_drewN ((Below.refl _ _).alloc (Nat.le_refl _) _) _⟩
set_option maxRecDepth 100000 in
set_option maxHeartbeats 1000000 in
theorem rs_1b (x : Ex) (ao : Option Addr) (cap : Nat) (D M : Int) (w : World) (hD : (D == 0) = false) (hM : (M == 0) = false) (hm : (manyI x.op != (x.args.length : Int)) = false) (e1 : ((x.op : Int) == 1) = true) (h0 : ¬ x.n < 0) (he : x.name.toList.isEmpty = false) : Calls Tryd.prog 58 #[exV x (.slice ao x.args.length cap), .int .i64 D, .int .i64 M] w fun e w' => e = .returned (.int .i64 (-1)) ∧ Below w.heap.size w w' := by
  go_enter Tryd.func58, Tryd.ntmps58
  go_wp2
  go_quiet ((go_at_call 67; exact Calls.quiet_of_same (many_any _ _)))
  go_wp2
  go_ret
  exact ⟨rfl, below_drewN ((Below.refl _ _).alloc (Nat.le_refl _) _) _⟩
set_option maxRecDepth 100000 in
set_option maxHeartbeats 1000000 in
theorem rs_2a (x : Ex) (ao : Option Addr) (cap : Nat) (D M : Int) (w : World) (hD : (D == 0) = false) (hM : (M == 0) = false) (hm : (manyI x.op != (x.args.length : Int)) = false) (e1 : ((x.op : Int) == 1) = false) (e2 : ((x.op : Int) == 2) = true) (h0 : (x.n != 0) = true) (h1 : (x.n != 1) = true) : Calls Tryd.prog 58 #[exV x (.slice ao x.args.length cap), .int .i64 D, .int .i64 M] w fun e w' => e = .returned (.int .i64 (-1)) ∧ Below w.heap.size w w' := by
  go_enter Tryd.func58, Tryd.ntmps58
  go_wp2
  go_quiet ((go_at_call 67; exact Calls.quiet_of_same (many_any _ _)))
  go_wp2
  go_ret
  exact ⟨rfl, below_drewN ((Below.refl _ _).alloc (Nat.le_refl _) _) _⟩
set_option maxRecDepth 100000 in
set_option maxHeartbeats 1000000 in
theorem rs_2b (x : Ex) (ao : Option Addr) (cap : Nat) (D M : Int) (w : World) (hD : (D == 0) = false) (hM : (M == 0) = false) (hm : (manyI x.op != (x.args.length : Int)) = false) (e1 : ((x.op : Int) == 1) = false) (e2 : ((x.op : Int) == 2) = true) (h0 : (x.n != 0) = false) (he : x.name.toList.isEmpty = false) : Calls Tryd.prog 58 #[exV x (.slice ao x.args.length cap), .int .i64 D, .int .i64 M] w fun e w' => e = .returned (.int .i64 (-1)) ∧ Below w.heap.size w w' := by
  go_enter Tryd.func58, Tryd.ntmps58
  go_wp2
  go_quiet ((go_at_call 67; exact Calls.quiet_of_same (many_any _ _)))
  go_wp2
  go_ret
  exact ⟨rfl, below_drewN ((Below.refl _ _).alloc (Nat.le_refl _) _) _⟩
set_option maxRecDepth 100000 in
set_option maxHeartbeats 1000000 in
theorem rs_2c (x : Ex) (ao : Option Addr) (cap : Nat) (D M : Int) (w : World) (hD : (D == 0) = false) (hM : (M == 0) = false) (hm : (manyI x.op != (x.args.length : Int)) = false) (e1 : ((x.op : Int) == 1) = false) (e2 : ((x.op : Int) == 2) = true) (h0 : (x.n != 0) = true) (h1 : (x.n != 1) = false) (he : x.name.toList.isEmpty = false) : Calls Tryd.prog 58 #[exV x (.slice ao x.args.length cap), .int .i64 D, .int .i64 M] w fun e w' => e = .returned (.int .i64 (-1)) ∧ Below w.heap.size w w' := by
  go_enter Tryd.func58, Tryd.ntmps58
  go_wp2
  go_quiet ((go_at_call 67; exact Calls.quiet_of_same (many_any _ _)))
  go_wp2
  go_ret
  exact ⟨rfl, below_drewN ((Below.refl _ _).alloc (Nat.le_refl _) _) _⟩
set_option maxRecDepth 100000 in
set_option maxHeartbeats 1000000 in
theorem rs_3a (x : Ex) (ao : Option Addr) (cap : Nat) (D M : Int) (w : World) (hD : (D == 0) = false) (hM : (M == 0) = false) (hm : (manyI x.op != (x.args.length : Int)) = false) (e1 : ((x.op : Int) == 1) = false) (e2 : ((x.op : Int) == 2) = false) (e3 : ((x.op : Int) == 3) = true) (h0 : (x.n != 0) = true) : Calls Tryd.prog 58 #[exV x (.slice ao x.args.length cap), .int .i64 D, .int .i64 M] w fun e w' => e = .returned (.int .i64 (-1)) ∧ Below w.heap.size w w' := by
  go_enter Tryd.func58, Tryd.ntmps58
  go_wp2
  go_quiet ((go_at_call 67; exact Calls.quiet_of_same (many_any _ _)))
  go_wp2
  go_ret
  exact ⟨rfl, below_drewN ((Below.refl _ _).alloc (Nat.le_refl _) _) _⟩
set_option maxRecDepth 100000 in
set_option maxHeartbeats 1000000 in
theorem rs_3b (x : Ex) (ao : Option Addr) (cap : Nat) (D M : Int) (w : World) (hD : (D == 0) = false) (hM : (M == 0) = false) (hm : (manyI x.op != (x.args.length : Int)) = false) (e1 : ((x.op : Int) == 1) = false) (e2 : ((x.op : Int) == 2) = false) (e3 : ((x.op : Int) == 3) = true) (h0 : (x.n != 0) = false) (hnm : x.name.size ≤ 140737488355328) (hb : isName x.name = false) : Calls Tryd.prog 58 #[exV x (.slice ao x.args.length cap), .int .i64 D, .int .i64 M] w fun e w' => e = .returned (.int .i64 (-1)) ∧ Below w.heap.size w w' := by
  have c := fun W => refName x.name W hnm
  rw [hb] at c
  clear hb
  go_enter Tryd.func58, Tryd.ntmps58
  go_wp2
  go_quiet ((go_at_call 67; exact Calls.quiet_of_same (many_any _ _)))
  go_wp2_with (go_at_call 49; refine (c _).mono ?_; rintro e w2 ⟨rfl, hb2⟩)
  go_ret
  exact ⟨rfl, bstep (below_drewN ((Below.refl _ _).alloc (Nat.le_refl _) _) _) hb2⟩
set_option maxRecDepth 100000 in
set_option maxHeartbeats 1000000 in
theorem rs_4a (x : Ex) (ao : Option Addr) (cap : Nat) (D M : Int) (w : World) (hD : (D == 0) = false) (hM : (M == 0) = false) (hm : (manyI x.op != (x.args.length : Int)) = false) (e1 : ((x.op : Int) == 1) = false) (e2 : ((x.op : Int) == 2) = false) (e3 : ((x.op : Int) == 3) = false) (h0 : (x.n != 0) = true) : Calls Tryd.prog 58 #[exV x (.slice ao x.args.length cap), .int .i64 D, .int .i64 M] w fun e w' => e = .returned (.int .i64 (-1)) ∧ Below w.heap.size w w' := by
  go_enter Tryd.func58, Tryd.ntmps58
  go_wp2
  go_quiet ((go_at_call 67; exact Calls.quiet_of_same (many_any _ _)))
  go_wp2
  go_ret
  exact ⟨rfl, below_drewN ((Below.refl _ _).alloc (Nat.le_refl _) _) _⟩
set_option maxRecDepth 100000 in
set_option maxHeartbeats 1000000 in
theorem rs_4b (x : Ex) (ao : Option Addr) (cap : Nat) (D M : Int) (w : World) (hD : (D == 0) = false) (hM : (M == 0) = false) (hm : (manyI x.op != (x.args.length : Int)) = false) (e1 : ((x.op : Int) == 1) = false) (e2 : ((x.op : Int) == 2) = false) (e3 : ((x.op : Int) == 3) = false) (h0 : (x.n != 0) = false) (he : x.name.toList.isEmpty = false) : Calls Tryd.prog 58 #[exV x (.slice ao x.args.length cap), .int .i64 D, .int .i64 M] w fun e w' => e = .returned (.int .i64 (-1)) ∧ Below w.heap.size w w' := by
  go_enter Tryd.func58, Tryd.ntmps58
  go_wp2
  go_quiet ((go_at_call 67; exact Calls.quiet_of_same (many_any _ _)))
  go_wp2
  go_ret
  exact ⟨rfl, below_drewN ((Below.refl _ _).alloc (Nat.le_refl _) _) _⟩
set_option maxRecDepth 100000 in
set_option maxHeartbeats 1000000 in
theorem rs_1c (x : Ex) (ao : Option Addr) (cap : Nat) (D M : Int) (w : World) (hD : (D == 0) = false) (hM : (M == 0) = false) (hm : (manyI x.op != (x.args.length : Int)) = false) (e1 : ((x.op : Int) == 1) = true) (h0 : ¬ x.n < 0) (he : x.name.toList.isEmpty = true) (hl : Hid (x.args.length = 0)) : Calls Tryd.prog 58 #[exV x (.slice ao x.args.length cap), .int .i64 D, .int .i64 M] w fun e w' => e = .returned (.int .i64 1) ∧ Below w.heap.size w w' := by
  go_enter Tryd.func58, Tryd.ntmps58
  go_wp2
  go_quiet ((go_at_call 67; exact Calls.quiet_of_same (many_any _ _)))
  go_wp2
  go_loopw [7, 8] (fun n i wr => n = .int .i64 1 ∧ i = .int .i64 0 ∧ Hid (Below w.heap.size w wr) ∧ wr.cell? ⟨w.heap.size, 3, none⟩ = some (.slice ao x.args.length cap)) (fun _ _ _ => 0)
  case atStart => exact ⟨rfl, rfl, below_drewN ((Below.refl _ _).alloc (Nat.le_refl _) _) _, box_at w _ 41 3 _ rfl⟩
  case round =>
    obtain ⟨rfl, rfl, hB, hx3⟩ := hrel
    have hlt' : ¬ (0 : Int) < (x.args.length : Int) := by have := hl.out; omega
    go_wp2
    go_ret
    exact ⟨rfl, hB.out⟩
set_option maxRecDepth 100000 in
set_option maxHeartbeats 1000000 in
theorem rs_2d (x : Ex) (ao : Option Addr) (cap : Nat) (D M : Int) (w : World) (hD : (D == 0) = false) (hM : (M == 0) = false) (hm : (manyI x.op != (x.args.length : Int)) = false) (e1 : ((x.op : Int) == 1) = false) (e2 : ((x.op : Int) == 2) = true) (h0 : (x.n != 0) = false) (he : x.name.toList.isEmpty = true) (hl : Hid (x.args.length = 0)) : Calls Tryd.prog 58 #[exV x (.slice ao x.args.length cap), .int .i64 D, .int .i64 M] w fun e w' => e = .returned (.int .i64 1) ∧ Below w.heap.size w w' := by
  go_enter Tryd.func58, Tryd.ntmps58
  go_wp2
  go_quiet ((go_at_call 67; exact Calls.quiet_of_same (many_any _ _)))
  go_wp2
  go_loopw [7, 8] (fun n i wr => n = .int .i64 1 ∧ i = .int .i64 0 ∧ Hid (Below w.heap.size w wr) ∧ wr.cell? ⟨w.heap.size, 3, none⟩ = some (.slice ao x.args.length cap)) (fun _ _ _ => 0)
  case atStart => exact ⟨rfl, rfl, below_drewN ((Below.refl _ _).alloc (Nat.le_refl _) _) _, box_at w _ 41 3 _ rfl⟩
  case round =>
    obtain ⟨rfl, rfl, hB, hx3⟩ := hrel
    have hlt' : ¬ (0 : Int) < (x.args.length : Int) := by have := hl.out; omega
    go_wp2
    go_ret
    exact ⟨rfl, hB.out⟩
set_option maxRecDepth 100000 in
set_option maxHeartbeats 1000000 in
theorem rs_2e (x : Ex) (ao : Option Addr) (cap : Nat) (D M : Int) (w : World) (hD : (D == 0) = false) (hM : (M == 0) = false) (hm : (manyI x.op != (x.args.length : Int)) = false) (e1 : ((x.op : Int) == 1) = false) (e2 : ((x.op : Int) == 2) = true) (h0 : (x.n != 0) = true) (h1 : (x.n != 1) = false) (he : x.name.toList.isEmpty = true) (hl : Hid (x.args.length = 0)) : Calls Tryd.prog 58 #[exV x (.slice ao x.args.length cap), .int .i64 D, .int .i64 M] w fun e w' => e = .returned (.int .i64 1) ∧ Below w.heap.size w w' := by
  go_enter Tryd.func58, Tryd.ntmps58
  go_wp2
  go_quiet ((go_at_call 67; exact Calls.quiet_of_same (many_any _ _)))
  go_wp2
  go_loopw [7, 8] (fun n i wr => n = .int .i64 1 ∧ i = .int .i64 0 ∧ Hid (Below w.heap.size w wr) ∧ wr.cell? ⟨w.heap.size, 3, none⟩ = some (.slice ao x.args.length cap)) (fun _ _ _ => 0)
  case atStart => exact ⟨rfl, rfl, below_drewN ((Below.refl _ _).alloc (Nat.le_refl _) _) _, box_at w _ 41 3 _ rfl⟩
  case round =>
    obtain ⟨rfl, rfl, hB, hx3⟩ := hrel
    have hlt' : ¬ (0 : Int) < (x.args.length : Int) := by have := hl.out; omega
    go_wp2
    go_ret
    exact ⟨rfl, hB.out⟩
set_option maxRecDepth 100000 in
set_option maxHeartbeats 1000000 in
theorem rs_3c (x : Ex) (ao : Option Addr) (cap : Nat) (D M : Int) (w : World) (hD : (D == 0) = false) (hM : (M == 0) = false) (hm : (manyI x.op != (x.args.length : Int)) = false) (e1 : ((x.op : Int) == 1) = false) (e2 : ((x.op : Int) == 2) = false) (e3 : ((x.op : Int) == 3) = true) (h0 : (x.n != 0) = false) (hnm : x.name.size ≤ 140737488355328) (hb : isName x.name = true) (hl : Hid (x.args.length = 0)) : Calls Tryd.prog 58 #[exV x (.slice ao x.args.length cap), .int .i64 D, .int .i64 M] w fun e w' => e = .returned (.int .i64 1) ∧ Below w.heap.size w w' := by
  have c := fun W => refName x.name W hnm
  rw [hb] at c
  clear hb
  go_enter Tryd.func58, Tryd.ntmps58
  go_wp2
  go_quiet ((go_at_call 67; exact Calls.quiet_of_same (many_any _ _)))
  go_wp2_with (go_at_call 49; refine (c _).mono ?_; rintro e w2 ⟨rfl, hb2⟩)
  go_loopw [7, 8] (fun n i wr => n = .int .i64 1 ∧ i = .int .i64 0 ∧ Hid (Below w.heap.size w wr) ∧ wr.cell? ⟨w.heap.size, 3, none⟩ = some (.slice ao x.args.length cap)) (fun _ _ _ => 0)
  case atStart => exact ⟨rfl, rfl, bstep (below_drewN ((Below.refl _ _).alloc (Nat.le_refl _) _) _) hb2, cell_kept (w := (w.alloc (.cells #[.int .u8 (x.op : Int), .int .i64 x.n, .string x.name, .slice ao x.args.length cap] 41)).drewN _) (by exact box_at w _ 41 3 _ rfl) hb2⟩
  case round =>
    obtain ⟨rfl, rfl, hB, hx3⟩ := hrel
    have hlt' : ¬ (0 : Int) < (x.args.length : Int) := by have := hl.out; omega
    go_wp2
    go_ret
    exact ⟨rfl, hB.out⟩
set_option maxRecDepth 100000 in
set_option maxHeartbeats 1000000 in
theorem rs_4c (x : Ex) (ao : Option Addr) (cap : Nat) (D M : Int) (w : World) (d : Nat) (ih : RSzC d) (hd : d + 1 ≤ 32) (hDd : D = ((d + 1 : Nat) : Int)) (m : Nat) (hMm : M = (m : Int)) (hm1 : 1 ≤ m) (hm2 : m ≤ 200) (hD : (D == 0) = false) (hM : (M == 0) = false) (hm : (manyI x.op != (x.args.length : Int)) = false) (e1 : ((x.op : Int) == 1) = false) (e2 : ((x.op : Int) == 2) = false) (e3 : ((x.op : Int) == 3) = false) (h0 : (x.n != 0) = false) (he : x.name.toList.isEmpty = true) (hS : St w x (.slice ao x.args.length cap)) : Calls Tryd.prog 58 #[exV x (.slice ao x.args.length cap), .int .i64 D, .int .i64 M] w fun e w' => e = .returned (.int .i64 (szI (szL (sz d) m 1 x.args))) ∧ Below w.heap.size w w' := by
  obtain ⟨ao', cap', sl, hv, _, _, _, hlen, _, hcs, hss⟩ := hS.out
  injection hv with ea _ ec
  subst ea
  subst ec
  have HS := hid hss
  have HC := hid hcs
  have HI := hid ih
  have hD1 : D - 1 = (d : Int) := by omega
  have hD3 : D ≤ 32 := by omega
  have hD4 : 0 ≤ D := by omega
  have HM := hid hMm
  have hM1 : 1 ≤ M := by omega
  have hM2 : M ≤ 200 := by omega
  clear hss hcs ih hS hDd hMm
  go_enter Tryd.func58, Tryd.ntmps58
  go_wp2
  go_quiet ((go_at_call 67; exact Calls.quiet_of_same (many_any _ _)))
  go_wp2
  go_loopw [7, 8] (fun n i wr => ∃ (k z : Nat), k ≤ x.args.length ∧ 1 ≤ z ∧ z ≤ m ∧ n = .int .i64 (z : Int) ∧ i = .int .i64 (k : Int) ∧ Hid (szL (sz d) m 1 x.args = szL (sz d) m z (x.args.drop k)) ∧ Hid (Below w.heap.size w wr) ∧ wr.cell? ⟨w.heap.size, 3, none⟩ = some (.slice ao x.args.length cap)) (fun _ i _ => x.args.length - (intOf i).toNat)
  case atStart => exact ⟨0, 1, Nat.zero_le _, Nat.le_refl _, hm1, rfl, rfl, by simp [Hid], below_drewN ((Below.refl _ _).alloc (Nat.le_refl _) _) _, box_at w _ 41 3 _ rfl⟩
  case round =>
    obtain ⟨k, z, hk, hz1, hz2, rfl, rfl, hE, hB, hx3⟩ := hrel
    by_cases hlt : k < x.args.length
    · have hlt' : (k : Int) < (x.args.length : Int) := by omega
      have hk0 : (0 : Int) ≤ (k : Int) := by omega
      obtain ⟨bb, o, rfl, hcc⟩ := HC.out.resolve_left (by omega)
      obtain ⟨a0, a1, a2, a3⟩ := hcc k hlt
      have v0 := cell_kept a0 hB.out
      have v1 := cell_kept a1 hB.out
      have v2 := cell_kept a2 hB.out
      have v3 := cell_kept a3 hB.out
      have hdr : x.args.drop k = x.args[k] :: x.args.drop (k + 1) := List.drop_eq_getElem_cons hlt
      have hE' := hE.out
      rw [hdr, szL] at hE'
      have HE := hid hE'
      have hst := (HS.out k hlt).keep hB.out
      clear a0 a1 a2 a3 hcc hdr hE' hE
      generalize x.args[k] = y at *
      obtain ⟨sv, hsv⟩ : ∃ sv, sl k = sv := ⟨_, rfl⟩
      rw [hsv] at v3 hst
      obtain ⟨ak, ck, _, rfl, _⟩ := hst.out
      clear hsv
      have hMz : M - (z : Int) = ((m - z : Nat) : Int) := by have := HM.out; omega
      have cc := HI.out y wr _ (m - z) (by omega) hst
      clear hst
      cases hz : sz d (m - z) y with
      | none =>
        rw [hz] at cc HE
        have hnone : Hid (szL (sz d) m 1 x.args = none) := HE.out
        simp only [szI] at cc
        go_wp2_with (go_at_call 58; refine cc.mono ?_; rintro e w4 ⟨rfl, hb4⟩)
        go_ret
        exact ⟨by rw [hnone.out]; rfl, bstep hB.out hb4⟩
      | some j =>
        rw [hz] at cc HE
        have hj := sz_le _ _ _ _ hz
        simp only [szI] at cc
        have hj0 : ¬ (j : Int) < 0 := by omega
        go_wp2_with (go_at_call 58; refine cc.mono ?_; rintro e w4 ⟨rfl, hb4⟩; have hx4 := cell_kept hx3 hb4; have B4 := hid (bstep hB.out hb4))
        go_roundw
        case rel => exact ⟨k + 1, z + j, by omega, by omega, by omega, by go_num, by go_num, HE.out, B4, hx4⟩
        case measure => simp [intOf]; omega
    · have hlt' : ¬ (k : Int) < (x.args.length : Int) := by omega
      have hdr : x.args.drop k = [] := List.drop_eq_nil_of_le (by omega)
      have hE' := hE.out
      rw [hdr, szL] at hE'
      have HE := hid hE'
      clear hE' hdr hE
      go_wp2
      go_ret
      exact ⟨by rw [HE.out]; rfl, hB.out⟩
end Go.Proofs.YtilpoiihoikhlaaDoor.Lex
namespace Go.Proofs.YtilpoiihoikhlaaDoor.Lex
open Go.ChangeShapes Go.WideShapes Go.ChangeAt Go.RowKit Go.Joins
theorem many_ne {op len : Nat} (h : ¬ manyI op = (len : Int)) : (manyI op != (len : Int)) = true := by simp [h]
theorem many_eq {op len : Nat} (h : manyI op = (len : Int)) : (manyI op != (len : Int)) = false := by simp [h]
theorem sz_none {d M : Nat} {x : Ex} (h : M = 0 ∨ fieldsOk x.op x.n x.name x.args.length = false) : sz (d + 1) M x = none := by rw [sz, if_pos h]
theorem rsize_any : ∀ (d : Nat), d ≤ 32 → RSzC d
  | 0, _ => by
    intro x w s M hM hS
    obtain ⟨ao, cap, _, rfl, _⟩ := hS.out
    have e : sz 0 M x = none := by simp [sz]
    rw [e]
    exact rs_d0 x ao cap ((0 : Nat) : Int) (M : Int) w rfl
  | d + 1, hd => by
    intro x w s M hM hS
    have ih := rsize_any d (by omega)
    obtain ⟨ao, cap, sl, rfl, hop, hn, hnm, _⟩ := hS.out
    have hD : ((((d + 1 : Nat) : Int)) == 0) = false := by simp; omega
    by_cases hM0 : M = 0
    · rw [sz_none (.inl hM0)]
      exact rs_m0 x ao cap _ _ w hD (by simp [hM0])
    · have hM1 : ((M : Int) == 0) = false := by simp; omega
      have hsplit := fields_split x.op x.n x.name x.args.length
      by_cases hm : manyI x.op = (x.args.length : Int)
      · rw [decide_eq_true hm, Bool.true_and] at hsplit
        have hm' := many_eq hm
        have bad : fldOk x.op x.n x.name = false → sz (d + 1) M x = none := fun h => sz_none (.inr (hsplit.trans h))
        have good : fldOk x.op x.n x.name = true → sz (d + 1) M x = szL (sz d) M 1 x.args := fun h => by rw [sz, if_neg (by rw [hsplit, h]; simp [hM0])]
        have leaf : x.args.length = 0 → szL (sz d) M 1 x.args = some 1 := fun h => by rw [List.eq_nil_of_length_eq_zero h]; rfl
        unfold fldOk at bad good
        by_cases h1 : x.op = 1
        · rw [if_pos h1] at bad good
          have e1 := eqN (b := 1) h1
          have hl : x.args.length = 0 := by rw [h1] at hm; have : manyI 1 = 0 := by decide
                                            omega
          by_cases h0 : x.n < 0
          · rw [bad (by rw [decide_eq_false (by omega)]; rfl)]
            exact rs_1a x ao cap _ _ w hD hM1 hm' e1 h0
          · rw [decide_eq_true (by omega)] at bad good
            by_cases he : x.name.size = 0
            · rw [good (by rw [decide_eq_true he]; rfl), leaf hl]
              exact rs_1c x ao cap _ _ w hD hM1 hm' e1 h0 (empty_yes he) hl
            · rw [bad (by rw [decide_eq_false he]; rfl)]
              exact rs_1b x ao cap _ _ w hD hM1 hm' e1 h0 (empty_no he)
        · rw [if_neg h1] at bad good
          have e1 := neN (b := 1) h1
          by_cases h2 : x.op = 2
          · rw [if_pos h2] at bad good
            have e2 := eqN (b := 2) h2
            have hl : x.args.length = 0 := by rw [h2] at hm; have : manyI 2 = 0 := by decide
                                              omega
            by_cases h0 : x.n = 0
            · rw [decide_eq_true h0] at bad good
              by_cases he : x.name.size = 0
              · rw [good (by rw [decide_eq_true he]; rfl), leaf hl]
                exact rs_2d x ao cap _ _ w hD hM1 hm' e1 e2 (inn h0) (empty_yes he) hl
              · rw [bad (by rw [decide_eq_false he]; rfl)]
                exact rs_2b x ao cap _ _ w hD hM1 hm' e1 e2 (inn h0) (empty_no he)
            · rw [decide_eq_false h0] at bad good
              by_cases h01 : x.n = 1
              · rw [decide_eq_true h01] at bad good
                by_cases he : x.name.size = 0
                · rw [good (by rw [decide_eq_true he]; rfl), leaf hl]
                  exact rs_2e x ao cap _ _ w hD hM1 hm' e1 e2 (inq h0) (inn h01) (empty_yes he) hl
                · rw [bad (by rw [decide_eq_false he]; rfl)]
                  exact rs_2c x ao cap _ _ w hD hM1 hm' e1 e2 (inq h0) (inn h01) (empty_no he)
              · rw [decide_eq_false h01] at bad
                rw [bad rfl]
                exact rs_2a x ao cap _ _ w hD hM1 hm' e1 e2 (inq h0) (inq h01)
          · rw [if_neg h2] at bad good
            have e2 := neN (b := 2) h2
            by_cases h3 : x.op = 3
            · rw [if_pos h3] at bad good
              have e3 := eqN (b := 3) h3
              have hl : x.args.length = 0 := by rw [h3] at hm; have : manyI 3 = 0 := by decide
                                                omega
              by_cases h0 : x.n = 0
              · rw [decide_eq_true h0] at bad good
                cases hb : isName x.name with
                | false =>
                  rw [bad (by rw [hb]; rfl)]
                  exact rs_3b x ao cap _ _ w hD hM1 hm' e1 e2 e3 (inn h0) hnm hb
                | true =>
                  rw [good (by rw [hb]; rfl), leaf hl]
                  exact rs_3c x ao cap _ _ w hD hM1 hm' e1 e2 e3 (inn h0) hnm hb hl
              · rw [decide_eq_false h0] at bad
                rw [bad rfl]
                exact rs_3a x ao cap _ _ w hD hM1 hm' e1 e2 e3 (inq h0)
            · rw [if_neg h3] at bad good
              have e3 := neN (b := 3) h3
              by_cases h0 : x.n = 0
              · rw [decide_eq_true h0] at bad good
                by_cases he : x.name.size = 0
                · rw [good (by rw [decide_eq_true he]; rfl)]
                  exact rs_4c x ao cap _ _ w d ih hd rfl M rfl (by omega) hM hD hM1 hm' e1 e2 e3 (inn h0) (empty_yes he) hS
                · rw [bad (by rw [decide_eq_false he]; rfl)]
                  exact rs_4b x ao cap _ _ w hD hM1 hm' e1 e2 e3 (inn h0) (empty_no he)
              · rw [decide_eq_false h0] at bad
                rw [bad rfl]
                exact rs_4a x ao cap _ _ w hD hM1 hm' e1 e2 e3 (inq h0)
      · rw [decide_eq_false hm, Bool.false_and] at hsplit
        rw [sz_none (.inr hsplit)]
        exact rs_mn x ao cap _ _ w hD hM1 (many_ne hm)
set_option maxRecDepth 100000 in
/-- The document's own Check. -/
theorem rcheck (x : Ex) (w : World) (s : Value) (hS : St w x s) : Calls Tryd.prog 48 #[exV x s] w fun e w' => e = .returned (.bool (chk x)) ∧ Below w.heap.size w w' := by
  obtain ⟨ao, cap, sl, rfl, _⟩ := hS.out
  have b1 := (Below.refl w.heap.size w).alloc (Nat.le_refl _) (.cells #[.int .u8 (x.op : Int), .int .i64 x.n, .string x.name, .slice ao x.args.length cap] 41)
  have c := rsize_any 32 (Nat.le_refl _) x _ _ 200 (Nat.le_refl _) (hS.keep b1)
  have H1 := hid b1
  unfold chk
  cases hz : sz 32 200 x with
  | none =>
    rw [hz] at c
    simp only [szI] at c
    clear hS b1
    go_enter Tryd.func48, Tryd.ntmps48
    go_wp2_with (go_at_call 58; refine c.mono ?_; rintro e w3 ⟨rfl, hb3⟩)
    go_ret
    exact ⟨rfl, bstep H1.out hb3⟩
  | some k =>
    have hk := sz_le _ _ _ _ hz
    have hk' : (0 : Int) < (k : Int) := by omega
    rw [hz] at c
    simp only [szI] at c
    clear hS b1 hz
    go_enter Tryd.func48, Tryd.ntmps48
    go_wp2_with (go_at_call 58; refine c.mono ?_; rintro e w3 ⟨rfl, hb3⟩)
    go_ret
    exact ⟨by first | rfl | (simp; omega), bstep H1.out hb3⟩
end Go.Proofs.YtilpoiihoikhlaaDoor.Lex
namespace Go.Proofs.YtilpoiihoikhlaaDoor.Lex
open Go.ChangeShapes Go.WideShapes Go.ChangeAt Go.RowKit Go.Joins
set_option maxRecDepth 100000 in
set_option maxHeartbeats 2000000 in
theorem left_ins (l : List Hd) (w : World) (lo : Nat) (st s : Value) (hT : TwIns w lo l st) (hS : InsAt w l s) :
    Calls Tryd.prog 29 #[st, s] w fun e w' => e = .returned (.bool true) ∧ Below w.heap.size w w' := by
  obtain ⟨ao, cap, rfl, hlen, _, _, hc⟩ := hS
  obtain ⟨b, cp, rfl, _, _, hcp, _, htc, hsp, _⟩ := hT
  have HC := hid hc
  have HT := hid htc
  have HP := hid hsp
  have hne : ((l.length : Int) != (l.length : Int)) = false := by simp
  have hcp' : ¬ (cp : Int) ≤ (l.length : Int) := by omega
  clear hc htc hsp
  go_enter Tryd.func29, Tryd.ntmps29
  go_wp2
  go_loopw [5] (fun i wr => ∃ k : Nat, k ≤ l.length ∧ i = .int .i64 (k : Int) ∧ Hid (Below w.heap.size w wr)) (fun i _ => l.length - (intOf i).toNat)
  case atStart => exact ⟨0, Nat.zero_le _, rfl, Below.refl _ _⟩
  case round =>
    obtain ⟨k, hk, rfl, hB⟩ := hrel
    by_cases hlt : k < l.length
    · have hlt' : (k : Int) < (l.length : Int) := by omega
      have hk0 : (0 : Int) ≤ (k : Int) := by omega
      obtain ⟨bb, o, rfl, hcc⟩ := HC.out.resolve_left (by omega)
      obtain ⟨v0, v1, v2⟩ := (hcc k hlt).keep hB.out
      obtain ⟨u0, u1, u2⟩ := (HT.out k hlt).keep hB.out
      clear hcc
      generalize l[k] = y at *
      generalize y.name = N at *
      generalize y.ty = Y at *
      generalize y.st = Z at *
      go_wp2
      go_quiet (fail)
      go_wp2
      go_roundw
      case rel => exact ⟨k + 1, by omega, by go_num, below_drewN hB.out _⟩
      case measure => simp [intOf]; omega
    · have hlt' : ¬ (k : Int) < (l.length : Int) := by omega
      obtain ⟨q0, q1, q2⟩ := HP.out.keep hB.out
      unfold spare at q0
      have hle1 : (l.length : Int) + 1 ≤ (cp : Int) := by omega
      have hle2 : (l.length : Int) < (l.length : Int) + 1 := by omega
      have hle3 : (0 : Int) ≤ (l.length : Int) := by omega
      go_wp2
      go_ret
      exact ⟨rfl, bstep hB.out ((Below.refl _ _).alloc (Nat.le_refl _) _)⟩
set_option maxRecDepth 100000 in
set_option maxHeartbeats 2000000 in
theorem left_texts (l : List ByteArray) (w : World) (lo : Nat) (st s : Value) (hT : TwTexts w lo l st) (hS : TextsAt w l s) :
    Calls Tryd.prog 31 #[st, s] w fun e w' => e = .returned (.bool true) ∧ Below w.heap.size w w' := by
  obtain ⟨ao, cap, rfl, hlen, _, _, hc⟩ := hS
  obtain ⟨b, cp, rfl, _, _, hcp, _, htc, hsp, _⟩ := hT
  have HC := hid hc
  have HT := hid htc
  have HP := hid hsp
  have hne : ((l.length : Int) != (l.length : Int)) = false := by simp
  have hcp' : ¬ (cp : Int) ≤ (l.length : Int) := by omega
  clear hc htc hsp
  go_enter Tryd.func31, Tryd.ntmps31
  go_wp2
  go_loopw [5] (fun i wr => ∃ k : Nat, k ≤ l.length ∧ i = .int .i64 (k : Int) ∧ Hid (Below w.heap.size w wr)) (fun i _ => l.length - (intOf i).toNat)
  case atStart => exact ⟨0, Nat.zero_le _, rfl, Below.refl _ _⟩
  case round =>
    obtain ⟨k, hk, rfl, hB⟩ := hrel
    by_cases hlt : k < l.length
    · have hlt' : (k : Int) < (l.length : Int) := by omega
      have hk0 : (0 : Int) ≤ (k : Int) := by omega
      obtain ⟨bb, o, rfl, hcc⟩ := HC.out.resolve_left (by omega)
      have v0 := cell_kept (hcc k hlt) hB.out
      have u0 := cell_kept (HT.out k hlt) hB.out
      clear hcc
      generalize l[k] = N at *
      go_wp2
      go_quiet (fail)
      go_wp2
      go_roundw
      case rel => exact ⟨k + 1, by omega, by go_num, below_drewN hB.out _⟩
      case measure => simp [intOf]; omega
    · have hlt' : ¬ (k : Int) < (l.length : Int) := by omega
      have q0 := cell_kept HP.out hB.out
      unfold spare at q0
      have hle1 : (l.length : Int) + 1 ≤ (cp : Int) := by omega
      have hle2 : (l.length : Int) < (l.length : Int) + 1 := by omega
      have hle3 : (0 : Int) ≤ (l.length : Int) := by omega
      go_wp2
      go_ret
      exact ⟨rfl, hB.out⟩
set_option maxRecDepth 100000 in
set_option maxHeartbeats 1000000 in
theorem left_flow (x : Fl) (w : World) (lo : Nat) (st s : Value) (hT : Tw w lo x.body st) (hS : St w x.body s) :
    Calls Tryd.prog 51 #[flV x st, flV x s] w fun e w' => e = .returned (.bool true) ∧ Below w.heap.size w w' := by
  have hs := fun W hT hS => left_any _ x.body (Nat.le_refl _) W lo st s hT hS
  obtain ⟨ao, cap, sl, rfl, _⟩ := hS.out
  obtain ⟨b, cp, tl, rfl, _⟩ := hT.out
  have e0 : (x.name.toList == x.name.toList) = true := by simp
  have e1 : ((x.ty : Int) == (x.ty : Int)) = true := by simp
  have e2 : (x.st == x.st) = true := by simp
  have e3 : (x.df == x.df) = true := by simp
  have b1 := (Below.refl w.heap.size w).alloc (Nat.le_refl _) (.cells #[.string x.name, .int .u8 (x.ty : Int), .int .i64 x.st, .int .i64 x.df, .int .u8 (x.body.op : Int), .int .i64 x.body.n, .string x.body.name, .slice (some ⟨b, 0, none⟩) x.body.args.length cp] 43)
  have b2 := bstep b1 ((Below.refl _ _).alloc (Nat.le_refl _) (.cells #[.string x.name, .int .u8 (x.ty : Int), .int .i64 x.st, .int .i64 x.df, .int .u8 (x.body.op : Int), .int .i64 x.body.n, .string x.body.name, .slice ao x.body.args.length cap] 43))
  have HT := hid (hT.keep b2)
  have HS := hid (hS.keep b2)
  have HB := hid b2
  clear hT hS b1 b2
  go_enter Tryd.func51, Tryd.ntmps51
  go_wp2_with (go_at_call 60; refine (hs _ HT.out HS.out).mono ?_; rintro e w2 ⟨rfl, hb2⟩)
  go_ret
  exact ⟨rfl, bstep HB.out hb2⟩
set_option maxRecDepth 100000 in
set_option maxHeartbeats 2000000 in
theorem left_flows (l : List Fl) (w : World) (lo : Nat) (st s : Value) (hT : TwFlows w lo l st) (hS : FlowsAt w l s) :
    Calls Tryd.prog 30 #[st, s] w fun e w' => e = .returned (.bool true) ∧ Below w.heap.size w w' := by
  obtain ⟨ao, cap, sl, rfl, hlen, _, _, hc, hs⟩ := hS
  obtain ⟨b, cp, tl, rfl, _, _, hcp, _, htc, hsp, hts, _⟩ := hT
  have HC := hid hc
  have HT := hid htc
  have HP := hid hsp
  have HS := hid hs
  have HTS := hid hts
  have hne : ((l.length : Int) != (l.length : Int)) = false := by simp
  have hcp' : ¬ (cp : Int) ≤ (l.length : Int) := by omega
  clear hc htc hsp hs hts
  go_enter Tryd.func30, Tryd.ntmps30
  go_wp2
  go_loopw [5] (fun i wr => ∃ k : Nat, k ≤ l.length ∧ i = .int .i64 (k : Int) ∧ Hid (Below w.heap.size w wr)) (fun i _ => l.length - (intOf i).toNat)
  case atStart => exact ⟨0, Nat.zero_le _, rfl, Below.refl _ _⟩
  case round =>
    obtain ⟨k, hk, rfl, hB⟩ := hrel
    by_cases hlt : k < l.length
    · have hlt' : (k : Int) < (l.length : Int) := by omega
      have hk0 : (0 : Int) ≤ (k : Int) := by omega
      obtain ⟨bb, o, rfl, hcc⟩ := HC.out.resolve_left (by omega)
      have X := (hcc k hlt).keep hB.out
      have Y := (HT.out k hlt).keep hB.out
      have hst := HS.out k hlt
      have htw := HTS.out k hlt
      clear hcc
      generalize l[k] = y at *
      generalize sl k = sv at *
      generalize tl k = tv at *
      obtain ⟨a3, c3, _, rfl, _⟩ := hst.out
      obtain ⟨b2, c2, _, rfl, _⟩ := htw.out
      obtain ⟨v0, v1, v2, v3, v4, v5, v6, v7⟩ := X
      obtain ⟨u0, u1, u2, u3, u4, u5, u6, u7⟩ := Y
      have c := fun W (hb : Below w.heap.size w W) => left_flow y W _ _ _ (htw.keep hb) (hst.keep hb)
      clear hst htw
      go_wp2
      refine wp_region_held_drew (S := fun W => (W.cell? ⟨b, k * 8, none⟩ = some (.string y.name) ∧ W.cell? ⟨b, k * 8 + 1, none⟩ = some (.int .u8 (y.ty : Int)) ∧ W.cell? ⟨b, k * 8 + 2, none⟩ = some (.int .i64 y.st) ∧ W.cell? ⟨b, k * 8 + 3, none⟩ = some (.int .i64 y.df) ∧ W.cell? ⟨b, k * 8 + 4, none⟩ = some (.int .u8 (y.body.op : Int)) ∧ W.cell? ⟨b, k * 8 + 5, none⟩ = some (.int .i64 y.body.n) ∧ W.cell? ⟨b, k * 8 + 6, none⟩ = some (.string y.body.name) ∧ W.cell? ⟨b, k * 8 + 7, none⟩ = some (.slice (some ⟨b2, 0, none⟩) y.body.args.length c2)) ∧ W.cell? ⟨bb, o + k * 8, none⟩ = some (.string y.name) ∧ W.cell? ⟨bb, o + k * 8 + 1, none⟩ = some (.int .u8 (y.ty : Int)) ∧ W.cell? ⟨bb, o + k * 8 + 2, none⟩ = some (.int .i64 y.st) ∧ W.cell? ⟨bb, o + k * 8 + 3, none⟩ = some (.int .i64 y.df) ∧ W.cell? ⟨bb, o + k * 8 + 4, none⟩ = some (.int .u8 (y.body.op : Int)) ∧ W.cell? ⟨bb, o + k * 8 + 5, none⟩ = some (.int .i64 y.body.n) ∧ W.cell? ⟨bb, o + k * 8 + 6, none⟩ = some (.string y.body.name) ∧ W.cell? ⟨bb, o + k * 8 + 7, none⟩ = some (.slice a3 y.body.args.length c3)) (by kernel_rfl) ?_ (fun hHeld => ?_)
      · exact ⟨⟨u0, u1, u2, u3, u4, u5, u6, u7⟩, v0, v1, v2, v3, v4, v5, v6, v7⟩
      refine wpAnyH_take (i := 0) (oi := { dst := some 25, op := Go.Op.move (Go.Operand.tmp 0), type := 23, pos := _, after := #[], guard := none }) (v := ?_) rfl (by kernel_rfl) (by kernel_rfl) (by kernel_rfl) (fun _ _ _ h => h) (Or.inl ⟨by rfl, ?_⟩) (by assumption) ?_
      rotate_left
      · intro w hSw; (try dsimp only at hSw); go_simp <;> first | with_reducible rfl | (rw [if_neg (by first | omega | (simp only [ByteArray.size_append] at *; omega))])
      simp only [Act.put, List.setIfInBounds_toArray, List.set_cons_zero, List.set_cons_succ]
      refine wpAnyH_take (i := 1) (oi := { dst := some 26, op := Go.Op.move (Go.Operand.tmp 5), type := 3, pos := _, after := #[], guard := none }) (v := ?_) rfl (by kernel_rfl) (by kernel_rfl) (by kernel_rfl) (fun _ _ _ h => h) (Or.inl ⟨by rfl, ?_⟩) (by assumption) ?_
      rotate_left
      · intro w hSw; (try dsimp only at hSw); go_simp <;> first | with_reducible rfl | (rw [if_neg (by first | omega | (simp only [ByteArray.size_append] at *; omega))])
      simp only [Act.put, List.setIfInBounds_toArray, List.set_cons_zero, List.set_cons_succ]
      refine wpAnyH_take (i := 2) (oi := { dst := some 27, op := Go.Op.indexAddr 23 (Go.Operand.tmp 25) (Go.Operand.tmp 26), type := 0, pos := _, after := #[{ on := 0, ground := Go.Ground.data }, { on := 1, ground := Go.Ground.data }], guard := none }) (v := ?_) rfl (by kernel_rfl) (by kernel_rfl) (by kernel_rfl) (fun _ _ _ h => h) (Or.inl ⟨by rfl, ?_⟩) (by assumption) ?_
      rotate_left
      · intro w hSw; (try dsimp only at hSw); go_simp <;> first | with_reducible rfl | (rw [if_neg (by first | omega | (simp only [ByteArray.size_append] at *; omega))])
      simp only [Act.put, List.setIfInBounds_toArray, List.set_cons_zero, List.set_cons_succ]
      refine wpAnyH_take (i := 3) (oi := { dst := some 28, op := Go.Op.load 43 (Go.Operand.tmp 27), type := 43, pos := _, after := #[{ on := 2, ground := Go.Ground.data }], guard := none }) (v := ?_) rfl (by kernel_rfl) (by kernel_rfl) (by kernel_rfl) (fun _ _ _ h => h) (Or.inl ⟨by rfl, ?_⟩) (by assumption) ?_
      rotate_left
      · intro w hSw; (try dsimp only at hSw); go_simp <;> first | with_reducible rfl | (rw [if_neg (by first | omega | (simp only [ByteArray.size_append] at *; omega))])
      simp only [Act.put, List.setIfInBounds_toArray, List.set_cons_zero, List.set_cons_succ]
      refine wpAnyH_take (i := 4) (oi := { dst := some 29, op := Go.Op.move (Go.Operand.tmp 1), type := 23, pos := _, after := #[], guard := none }) (v := ?_) rfl (by kernel_rfl) (by kernel_rfl) (by kernel_rfl) (fun _ _ _ h => h) (Or.inl ⟨by rfl, ?_⟩) (by assumption) ?_
      rotate_left
      · intro w hSw; (try dsimp only at hSw); go_simp <;> first | with_reducible rfl | (rw [if_neg (by first | omega | (simp only [ByteArray.size_append] at *; omega))])
      simp only [Act.put, List.setIfInBounds_toArray, List.set_cons_zero, List.set_cons_succ]
      refine wpAnyH_take (i := 5) (oi := { dst := some 30, op := Go.Op.move (Go.Operand.tmp 5), type := 3, pos := _, after := #[], guard := none }) (v := ?_) rfl (by kernel_rfl) (by kernel_rfl) (by kernel_rfl) (fun _ _ _ h => h) (Or.inl ⟨by rfl, ?_⟩) (by assumption) ?_
      rotate_left
      · intro w hSw; (try dsimp only at hSw); go_simp <;> first | with_reducible rfl | (rw [if_neg (by first | omega | (simp only [ByteArray.size_append] at *; omega))])
      simp only [Act.put, List.setIfInBounds_toArray, List.set_cons_zero, List.set_cons_succ]
      refine wpAnyH_take (i := 6) (oi := { dst := some 31, op := Go.Op.indexAddr 23 (Go.Operand.tmp 29) (Go.Operand.tmp 30), type := 0, pos := _, after := #[{ on := 4, ground := Go.Ground.data }, { on := 5, ground := Go.Ground.data }], guard := none }) (v := ?_) rfl (by kernel_rfl) (by kernel_rfl) (by kernel_rfl) (fun _ _ _ h => h) (Or.inl ⟨by rfl, ?_⟩) (by assumption) ?_
      rotate_left
      · intro w hSw; (try dsimp only at hSw); go_simp <;> first | with_reducible rfl | (rw [if_neg (by first | omega | (simp only [ByteArray.size_append] at *; omega))])
      simp only [Act.put, List.setIfInBounds_toArray, List.set_cons_zero, List.set_cons_succ]
      refine wpAnyH_take (i := 7) (oi := { dst := some 32, op := Go.Op.load 43 (Go.Operand.tmp 31), type := 43, pos := _, after := #[{ on := 6, ground := Go.Ground.data }], guard := none }) (v := ?_) rfl (by kernel_rfl) (by kernel_rfl) (by kernel_rfl) (fun _ _ _ h => h) (Or.inl ⟨by rfl, ?_⟩) (by assumption) ?_
      rotate_left
      · intro w hSw; (try dsimp only at hSw); go_simp <;> first | with_reducible rfl | (rw [if_neg (by first | omega | (simp only [ByteArray.size_append] at *; omega))])
      simp only [Act.put, List.setIfInBounds_toArray, List.set_cons_zero, List.set_cons_succ]
      refine wpAnyH_ready (rs := [8]) (by kernel_rfl) (by simp) ?_
      refine AllReadyH.cons (o := { dst := some 33, op := Go.Op.call { callee := Go.Callee.value (Go.Operand.func 51), args := #[Go.Operand.tmp 28, Go.Operand.tmp 32], argTypes := #[43, 43] }, type := 4, pos := _, after := #[{ on := 3, ground := Go.Ground.data }, { on := 7, ground := Go.Ground.data }], guard := none }) rfl (fun K hK => ?_) AllReadyH.nil
      go_simp
      refine (c _ (hB.out.drew)).mono ?_
      rintro e w4 ⟨rfl, hb4⟩
      go_wp2_with fail
      refine hK.out _ _ ?_ (fun hHeld1 => ?_)
      · exact ⟨⟨cell_kept (w := wr.drew) u0 hb4, cell_kept (w := wr.drew) u1 hb4, cell_kept (w := wr.drew) u2 hb4, cell_kept (w := wr.drew) u3 hb4, cell_kept (w := wr.drew) u4 hb4, cell_kept (w := wr.drew) u5 hb4, cell_kept (w := wr.drew) u6 hb4, cell_kept (w := wr.drew) u7 hb4⟩, cell_kept (w := wr.drew) v0 hb4, cell_kept (w := wr.drew) v1 hb4, cell_kept (w := wr.drew) v2 hb4, cell_kept (w := wr.drew) v3 hb4, cell_kept (w := wr.drew) v4 hb4, cell_kept (w := wr.drew) v5 hb4, cell_kept (w := wr.drew) v6 hb4, cell_kept (w := wr.drew) v7 hb4⟩
      clear hK K
      refine wpAnyH_take (i := 9) (oi := { dst := some 34, op := Go.Op.unOp Go.UnOp.not 4 (Go.Operand.tmp 33), type := 4, pos := _, after := #[{ on := 8, ground := Go.Ground.data }], guard := none }) (v := ?_) rfl (by kernel_rfl) (by kernel_rfl) (by kernel_rfl) (fun _ _ _ h => h) (Or.inl ⟨by rfl, ?_⟩) (by assumption) ?_
      rotate_left
      · intro w hSw; (try dsimp only at hSw); go_simp <;> first | with_reducible rfl | (rw [if_neg (by first | omega | (simp only [ByteArray.size_append] at *; omega))])
      simp only [Act.put, List.setIfInBounds_toArray, List.set_cons_zero, List.set_cons_succ]
      refine wpAnyH_done (by kernel_rfl) ?_ _
      go_wp2
      go_roundw
      case rel => exact ⟨k + 1, by omega, by go_num, bstep hB.out.drew hb4⟩
      case measure => simp [intOf]; omega
    · have hlt' : ¬ (k : Int) < (l.length : Int) := by omega
      have Q := HP.out.keep hB.out
      simp only [FlCells, spare] at Q
      obtain ⟨q0, q1, q2, q3, q4, q5, q6, q7⟩ := Q
      have hle1 : (l.length : Int) + 1 ≤ (cp : Int) := by omega
      have hle2 : (l.length : Int) < (l.length : Int) + 1 := by omega
      have hle3 : (0 : Int) ≤ (l.length : Int) := by omega
      go_wp2
      go_ret
      exact ⟨rfl, bstep hB.out ((Below.refl _ _).alloc (Nat.le_refl _) _)⟩
set_option maxRecDepth 100000 in
set_option maxHeartbeats 1000000 in
theorem left_prog (p : Pg) (w : World) (lo : Nat) (a b c a' b' c' : Value) (hT : TwPg w lo p a b c) (hP : PgAt w p a' b' c') :
    Calls Tryd.prog 12 #[pgV p a b c, pgV p a' b' c'] w fun e w' => e = .returned (.bool true) ∧ Below w.heap.size w w' := by
  obtain ⟨a0, a1, rfl, _⟩ := hT.at.ins
  obtain ⟨b0, b1, _, rfl, _⟩ := hT.at.flows
  obtain ⟨c0, c1, rfl, _⟩ := hT.at.outs
  obtain ⟨a2, a3, rfl, _⟩ := hP.ins
  obtain ⟨b2, b3, _, rfl, _⟩ := hP.flows
  obtain ⟨c2, c3, rfl, _⟩ := hP.outs
  have e0 : (p.st == p.st) = true := by simp
  have bb := bstep ((Below.refl w.heap.size w).alloc (Nat.le_refl _) (.cells (pgC p (.slice a0 p.ins.length a1) (.slice b0 p.flows.length b1) (.slice c0 p.outs.length c1)) 26)) ((Below.refl _ _).alloc (Nat.le_refl _) (.cells (pgC p (.slice a2 p.ins.length a3) (.slice b2 p.flows.length b3) (.slice c2 p.outs.length c3)) 26))
  have HT := hid (hT.keep bb)
  have HP := hid (hP.keep bb)
  have HB := hid bb
  have x0 : ∀ j v, (pgC p (.slice a0 p.ins.length a1) (.slice b0 p.flows.length b1) (.slice c0 p.outs.length c1))[j]? = some v → ((w.alloc (.cells (pgC p (.slice a0 p.ins.length a1) (.slice b0 p.flows.length b1) (.slice c0 p.outs.length c1)) 26)).alloc (.cells (pgC p (.slice a2 p.ins.length a3) (.slice b2 p.flows.length b3) (.slice c2 p.outs.length c3)) 26)).cell? ⟨w.heap.size, j, none⟩ = some v := box_first w (pgC p (.slice a0 p.ins.length a1) (.slice b0 p.flows.length b1) (.slice c0 p.outs.length c1)) (pgC p (.slice a2 p.ins.length a3) (.slice b2 p.flows.length b3) (.slice c2 p.outs.length c3)) 26
  have x2 := x0 2 (.slice b0 p.flows.length b1) rfl
  have x3 := x0 3 (.slice c0 p.outs.length c1) rfl
  have y0 := box_at (w.alloc (.cells (pgC p (.slice a0 p.ins.length a1) (.slice b0 p.flows.length b1) (.slice c0 p.outs.length c1)) 26)) (pgC p (.slice a2 p.ins.length a3) (.slice b2 p.flows.length b3) (.slice c2 p.outs.length c3)) 26
  rw [World.size_alloc] at y0
  have y2 := y0 2 (.slice b2 p.flows.length b3) rfl
  have y3 := y0 3 (.slice c2 p.outs.length c3) rfl
  clear hT hP bb x0 y0
  go_enter Tryd.func12, Tryd.ntmps12
  go_wp2_with (first
    | (go_at_call 29; refine (left_ins _ _ _ _ _ HT.out.ins HP.out.ins).mono ?_; rintro e w1 ⟨rfl, hb1⟩; have x12 := cell_kept x2 hb1; have x13 := cell_kept x3 hb1; have y12 := cell_kept y2 hb1; have y13 := cell_kept y3 hb1; have HT1 := hid (HT.out.keep hb1); have HP1 := hid (HP.out.keep hb1); have HB1 := hid (bstep HB.out hb1); clear x2 x3 y2 y3 HT HP hb1)
    | (go_at_call 30; refine (left_flows _ _ _ _ _ HT1.out.flows HP1.out.flows).mono ?_; rintro e w2 ⟨rfl, hb2⟩; have x23 := cell_kept x13 hb2; have y23 := cell_kept y13 hb2; have HT2 := hid (HT1.out.keep hb2); have HP2 := hid (HP1.out.keep hb2); have HB2 := hid (bstep HB1.out hb2); clear x12 x13 y12 y13 HT1 HP1 hb2)
    | (go_at_call 31; refine (left_texts _ _ _ _ _ HT2.out.outs HP2.out.outs).mono ?_; rintro e w3 ⟨rfl, hb3⟩; have HB3 := hid (bstep HB2.out hb3); clear x23 y23 HT2 HP2 hb3))
  go_ret
  exact ⟨rfl, HB3.out⟩
end Go.Proofs.YtilpoiihoikhlaaDoor.Lex
namespace Go.Proofs.YtilpoiihoikhlaaDoor.Lex
open Go.ChangeShapes Go.WideShapes Go.ChangeAt Go.RowKit Go.Joins
theorem things_in (p : Pg) (k : Nat) (h : k < p.ins.length) : (insL p).take k ++ [(-1, p.ins[k])] <+: thingsL p := by
  rw [← insL_succ p k h]
  exact (List.take_prefix _ _).trans (List.prefix_append _ _)
theorem things_flow (p : Pg) (k : Nat) (h : k < p.flows.length) : (insL p ++ (flowsL p).take k) ++ [((k : Int), p.flows[k].hd)] <+: thingsL p := by
  rw [List.append_assoc, ← flowsL_succ p k h]
  exact (List.prefix_append_right_inj _).2 (List.take_prefix _ _)
theorem results_tmp4 {fn : Func} {t u v x : Tmp} (h : fn.results = #[.tmp t, .tmp u, .tmp v, .tmp x]) (tmps : Array Value) (P : Program) (w : World) :
    (results fn tmps).run P w = .ok (.tuple #[tmps.getD t undef, tmps.getD u undef, tmps.getD v undef, tmps.getD x undef]) w := by
  simp [results, h, go_sem]
set_option maxRecDepth 100000 in
set_option maxHeartbeats 4000000 in
theorem rfind (p : Pg) (name : ByteArray) (w : World) (a b c : Value) (hP : PgAt w p a b c) :
    Calls Tryd.prog 28 #[pgV p a b c, .string name] w fun e W' => e = .returned (.tuple (foV (findT (thingsL p) name))) ∧ Below w.heap.size w W' := by
  obtain ⟨a0, a1, rfl, hlen, _, _, hc⟩ := hP.ins
  obtain ⟨b0, b1, _, rfl, hlen2, _, _, hc2, _⟩ := hP.flows
  obtain ⟨c0, c1, rfl, _⟩ := hP.outs
  have HC := hid hc
  have HC2 := hid hc2
  clear hc hc2 hP
  have B0 := hid ((Below.refl w.heap.size w).alloc (Nat.le_refl _) (.cells (pgC p (.slice a0 p.ins.length a1) (.slice b0 p.flows.length b1) (.slice c0 p.outs.length c1)) 26))
  have bx := fun j v => box_at w (pgC p (.slice a0 p.ins.length a1) (.slice b0 p.flows.length b1) (.slice c0 p.outs.length c1)) 26 j v
  have X1 := hid (bx 1 (.slice a0 p.ins.length a1) rfl)
  have X2 := hid (bx 2 (.slice b0 p.flows.length b1) rfl)
  clear bx
  go_enter Tryd.func28, Tryd.ntmps28
  go_wp2
  generalize w.alloc (.cells (pgC p (.slice a0 p.ins.length a1) (.slice b0 p.flows.length b1) (.slice c0 p.outs.length c1)) 26) = w1 at *
  go_loopw [8] (fun i wr => ∃ k : Nat, k ≤ p.ins.length ∧ i = .int .i64 (k : Int) ∧ Hid (Free ((insL p).take k) name) ∧ Hid (Below w1.heap.size w1 wr)) (fun i _ => p.ins.length - (intOf i).toNat)
  case atStart => exact ⟨0, Nat.zero_le _, rfl, hid (fun x hx => by simp at hx), Below.refl _ _⟩
  case round =>
    obtain ⟨k, hk, rfl, hF, hB⟩ := hrel
    have x1 := cell_kept X1.out hB.out
    by_cases hlt : k < p.ins.length
    · have hlt' : (k : Int) < (p.ins.length : Int) := by omega
      have hk0 : (0 : Int) ≤ (k : Int) := by omega
      obtain ⟨bb, o, rfl, hcc⟩ := HC.out.resolve_left (by omega)
      obtain ⟨v0, v1, v2⟩ := (hcc k hlt).keep (bstep B0.out hB.out)
      have HT := hid (things_in p k hlt)
      have HS := hid (insL_succ p k hlt)
      clear hcc
      generalize p.ins[k] = y at *
      by_cases heq : (y.name.toList == name.toList) = true
      · go_wp2
        go_quiet (fail)
        go_wp2
        refine bodyPost_ret (results_tmp4 rfl _ _ _) rfl ?_
        exact ⟨by rw [findT_some HT.out hF.out heq]; rfl, below_drewN (bstep B0.out hB.out) _⟩
      · have heq' : (y.name.toList == name.toList) = false := by simpa using heq
        go_wp2
        go_roundw
        case rel => exact ⟨k + 1, by omega, by go_num, hid (by rw [HS.out]; exact hF.out.snoc heq'), hB⟩
        case measure => simp [intOf]; omega
    · have hlt' : ¬ (k : Int) < (p.ins.length : Int) := by omega
      have hF' : Hid (Free (insL p) name) := by rw [List.take_of_length_le (by rw [insL_len]; omega)] at hF; exact hF
      go_wp2
      go_loopw [9] (fun i wr => ∃ k : Nat, k ≤ p.flows.length ∧ i = .int .i64 (k : Int) ∧ Hid (Free (insL p ++ (flowsL p).take k) name) ∧ Hid (Below w1.heap.size w1 wr)) (fun i _ => p.flows.length - (intOf i).toNat)
      case atStart => exact ⟨0, Nat.zero_le _, rfl, hid (by simpa using hF'.out), hB⟩
      case round =>
        obtain ⟨j, hj, rfl, hG, hB'⟩ := hrel
        have x2 := cell_kept X2.out hB'.out
        by_cases hjl : j < p.flows.length
        · have hjl' : (j : Int) < (p.flows.length : Int) := by omega
          have hj0 : (0 : Int) ≤ (j : Int) := by omega
          obtain ⟨b2, o2, rfl, hcc⟩ := HC2.out.resolve_left (by omega)
          obtain ⟨v0, v1, v2, v3, v4, v5, v6, v7⟩ := (hcc j hjl).keep (bstep B0.out hB'.out)
          have HT := hid (things_flow p j hjl)
          have HS := hid (flowsL_succ p j hjl)
          clear hcc v7
          generalize p.flows[j] = y at *
          by_cases heq : (y.name.toList == name.toList) = true
          · go_wp2
            go_quiet (fail)
            go_wp2
            refine bodyPost_ret (results_tmp4 rfl _ _ _) rfl ?_
            exact ⟨by rw [findT_some HT.out hG.out heq]; rfl, below_drewN (bstep B0.out hB'.out) _⟩
          · have heq' : (y.name.toList == name.toList) = false := by simpa using heq
            go_wp2
            go_roundw
            case rel => exact ⟨j + 1, by omega, by go_num, hid (by rw [HS.out, ← List.append_assoc]; exact hG.out.snoc heq'), hB'⟩
            case measure => simp [intOf]; omega
        · have hjl' : ¬ (j : Int) < (p.flows.length : Int) := by omega
          go_wp2
          refine bodyPost_ret (results_tmp4 rfl _ _ _) rfl ?_
          exact ⟨by rw [findT_none (by have := hG.out; rw [List.take_of_length_le (by rw [flowsL_len]; omega)] at this; exact this)]; rfl, bstep B0.out hB'.out⟩
end Go.Proofs.YtilpoiihoikhlaaDoor.Lex
