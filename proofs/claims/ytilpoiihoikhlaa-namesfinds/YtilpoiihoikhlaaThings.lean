/-
  The things of a program, one by one: the contracts of names.things and of the function that it hands back.
-/
import Derived.Test.YtilpoiihoikhlaaPg
import Derived.RangeFuncNested
import Derived.RangeFuncBound
import Derived.RangeFuncCalls
import Derived.RangeFuncLeaves
import Derived.Shelf.Abstract
import Derived.Shelf.RegionOpen
import Derived.OwnWalkIn
import Derived.TacticsInMore
import Derived.LoopNIn
import Derived.LoopIn
namespace Go.Proofs.Ytilpoiihoikhlaa.Lex
open Go.ChangeShapes Go.WideShapes Go.ChangeAt Go.RowKit Go.Shelf
attribute [local go_sem] Oper.semAt_some
/-- The head of a flow. -/
abbrev Fl.hd (f : Fl) : Hd := ⟨f.name, f.ty, f.st⟩
def insL (p : Pg) : List (Int × Hd) := p.ins.map fun x => (-1, x)
def flowsL (p : Pg) : List (Int × Hd) := (List.range p.flows.length).map fun (i : Nat) => ((i : Int), (p.flows[i]?.map Fl.hd).getD ⟨ByteArray.empty, 0, 0⟩)
/-- The things of a program, each with its place. -/
def thingsL (p : Pg) : List (Int × Hd) := insL p ++ flowsL p
theorem insL_len (p : Pg) : (insL p).length = p.ins.length := by simp [insL]
theorem flowsL_len (p : Pg) : (flowsL p).length = p.flows.length := by simp [flowsL]
theorem insL_succ (p : Pg) (k : Nat) (h : k < p.ins.length) : (insL p).take (k + 1) = (insL p).take k ++ [(-1, p.ins[k])] := by
  rw [List.take_succ_eq_append_getElem (by rw [insL_len]; exact h)]
  simp [insL]
theorem flowsL_succ (p : Pg) (k : Nat) (h : k < p.flows.length) : (flowsL p).take (k + 1) = (flowsL p).take k ++ [((k : Int), p.flows[k].hd)] := by
  rw [List.take_succ_eq_append_getElem (by rw [flowsL_len]; exact h)]
  simp [flowsL, h]
set_option maxRecDepth 100000 in
set_option maxHeartbeats 2000000 in
theorem things1 (F : Fence) (n : Nat) (h22 : F.fn 22) (hro : F.round = none) (hn : 1 ≤ n) (l Bn n₀ : Nat) (p : Pg) (a b c : Value) (J Jx : List (Int × Hd) → World → Prop) (W0 W : World) (hW0 : n₀ = W0.heap.size) (hW : Below n₀ W0 W) (hP : PgAt W0 p a b c)
    (hA : AbidesFrom W.heap.size J)
    (hY : ∀ pre x W, J pre W → pre.length < (thingsL p).length → YieldAt F (n - 1) Try.prog l #[.int .i64 x.1, hdV x.2] W fun e W' =>
      (e = .returned (.bool true) ∧ J (pre ++ [x]) W' ∧ Below n₀ W W') ∨ (e = .returned (.bool false) ∧ Jx (pre ++ [x]) W'))
    (hB1 : W0.cell? ⟨Bn, 1, none⟩ = some a) (hB2 : W0.cell? ⟨Bn, 2, none⟩ = some b) (h0 : J [] W) :
    CallsIn F n Try.prog 22 #[.func (.yield l) #[] #[], .pointer (some ⟨Bn, 0, none⟩)] W fun e W' => (∃ v, e = .returned v) ∧
      ((∃ ys, ys = thingsL p ∧ J ys W') ∨ (∃ pre, pre <+: thingsL p ∧ Jx pre W')) := by
  subst hW0
  obtain ⟨ao, cap, rfl, hlen, _, _, hc⟩ := hP.ins
  obtain ⟨bo, cbp, sl, rfl, hlen2, _, _, hc2, hs2⟩ := hP.flows
  have HS2 := hid hs2
  have HC := hid hc
  have HC2 := hid hc2
  have HL : Hid ((thingsL p).length = p.ins.length + p.flows.length) := hid (by simp [thingsL, insL_len, flowsL_len])
  clear hc hc2 hs2 hP
  have x1 := cell_kept hB1 hW
  have HB2 := hid hB2
  have AL : ∀ (s : List (Int × Hd)) (V : World) (o : Obj), J s V → J s (V.alloc o) := fun s V o h => hA s V _ none h (World.grownBy_alloc V o none) (fun r e => by cases e)
  clear hB1 hB2 hA
  refine callsIn_of_wp Try.func22 rfl h22 ?_ hro
  simp only [Try.ntmps22, List.size_toArray, List.length_cons, List.length_nil, Nat.reduceAdd, Nat.reduceSub, Array.replicate_succ, Array.replicate_zero, List.push_toArray, List.append_toArray, List.nil_append, List.cons_append]
  gi_wp2
  gi_loopw [10] (fun i wr => ∃ k : Nat, k ≤ p.ins.length ∧ i = .int .i64 (k : Int) ∧ Hid (J ((insL p).take k) wr) ∧ Hid (Below W0.heap.size W0 wr)) (fun i wr => p.ins.length - (intOf i).toNat)
  case atStart => exact ⟨0, Nat.zero_le _, rfl, hid h0, hid hW⟩
  case round =>
    obtain ⟨k, hk, rfl, hJ, hB⟩ := hrel
    by_cases hlt : k < p.ins.length
    · have hlt' : (k : Int) < (p.ins.length : Int) := by omega
      have hk0 : (0 : Int) ≤ (k : Int) := by omega
      obtain ⟨bb, o, rfl, hcc⟩ := HC.out.resolve_left (by omega)
      obtain ⟨v0, v1, v2⟩ := (hcc k hlt).keep hB.out
      have HS := hid (insL_succ p k hlt)
      obtain ⟨fn, tmps, assign, body, hy, hR⟩ := hY ((insL p).take k) (-1, p.ins[k]) (wr.alloc (.cells #[.string p.ins[k].name, .int .u8 (p.ins[k].ty : Int), .int .i64 p.ins[k].st] 44)) (AL _ _ _ hJ.out) (by have := HL.out; have := insL_len p; simp; omega)
      dsimp only at hy
      clear hcc
      generalize p.ins[k] = y at *
      gi_wp2
      refine hR.mono ?_
      rintro e W3 (⟨rfl, hJ3, hk3⟩ | ⟨rfl, hJx3⟩)
      · gi_wp2
        go_roundw
        case rel => exact ⟨k + 1, by omega, by go_num, hid (by rw [HS.out]; exact hJ3), hid ((hB.out.alloc hB.out.size _).trans hk3)⟩
        case measure => simp [intOf]; omega
      · gi_wp2
        refine bodyPost_ret (results_none rfl _ _ _) rfl ?_
        exact ⟨⟨_, rfl⟩, .inr ⟨_, by rw [← HS.out]; exact (List.take_prefix _ _).trans (List.prefix_append _ _), hJx3⟩⟩
    · have hlt' : ¬ (k : Int) < (p.ins.length : Int) := by omega
      have hJ' : Hid (J (insL p) wr) := by rw [List.take_of_length_le (by rw [insL_len]; omega)] at hJ; exact hJ
      have x2 := cell_kept HB2.out hB.out
      clear hJ
      gi_wp2
      gi_loopw [22] (fun i wr => ∃ k : Nat, k ≤ p.flows.length ∧ i = .int .i64 (k : Int) ∧ Hid (J (insL p ++ (flowsL p).take k) wr) ∧ Hid (Below W0.heap.size W0 wr)) (fun i wr => p.flows.length - (intOf i).toNat)
      case atStart => exact ⟨0, Nat.zero_le _, rfl, hid (by simpa using hJ'.out), hB⟩
      case round =>
        obtain ⟨j, hj, rfl, hJ2, hB'⟩ := hrel
        by_cases hjl : j < p.flows.length
        · have hjl' : (j : Int) < (p.flows.length : Int) := by omega
          have hj0 : (0 : Int) ≤ (j : Int) := by omega
          obtain ⟨b2, o2, rfl, hcc⟩ := HC2.out.resolve_left (by omega)
          have X := (hcc j hjl).keep hB'.out
          obtain ⟨a3, c3, _, e3, _⟩ := (HS2.out j hjl).out
          rw [e3] at X
          have HS := hid (flowsL_succ p j hjl)
          obtain ⟨fn, tmps, assign, body, hy, hR⟩ := hY (insL p ++ (flowsL p).take j) ((j : Int), p.flows[j].hd) (wr.alloc (.cells #[.string p.flows[j].name, .int .u8 (p.flows[j].ty : Int), .int .i64 p.flows[j].st, .int .i64 p.flows[j].df, .int .u8 (p.flows[j].body.op : Int), .int .i64 p.flows[j].body.n, .string p.flows[j].body.name, .slice a3 p.flows[j].body.args.length c3] 50)) (AL _ _ _ hJ2.out) (by have := HL.out; have := insL_len p; have := flowsL_len p; simp; omega)
          dsimp only [Fl.hd] at hy
          clear hcc e3
          obtain ⟨v0, v1, v2, v3, v4, v5, v6, v7⟩ := X
          generalize p.flows[j] = y at *
          gi_wp2
          refine hR.mono ?_
          rintro e W3 (⟨rfl, hJ3, hk3⟩ | ⟨rfl, hJx3⟩)
          · gi_wp2
            go_roundw
            case rel => exact ⟨j + 1, by omega, by go_num, hid (by rw [HS.out, ← List.append_assoc]; exact hJ3), hid ((hB'.out.alloc hB'.out.size _).trans hk3)⟩
            case measure => simp [intOf]; omega
          · gi_wp2
            refine bodyPost_ret (results_none rfl _ _ _) rfl ?_
            exact ⟨⟨_, rfl⟩, .inr ⟨_, by rw [List.append_assoc, ← HS.out]; exact (List.prefix_append_right_inj _).2 (List.take_prefix _ _), hJx3⟩⟩
        · have hjl' : ¬ (j : Int) < (p.flows.length : Int) := by omega
          gi_wp2
          go_end0
          exact ⟨⟨_, rfl⟩, .inl (by have := hJ2.out; rw [List.take_of_length_le (by rw [flowsL_len]; omega)] at this; exact this)⟩
/-- names.things hands back that function, over a copy of the program. -/
theorem things (F : Fence) (n : Nat) (h14 : F.fn 14) (hro : F.round = none) (p : Pg) (a b c : Value) (w : World) :
    CallsIn F n Try.prog 14 #[pgV p a b c] w fun e w' => e = .returned (.func (.func 22) #[] #[.pointer (some ⟨w.heap.size, 0, none⟩)]) ∧ w' = w.alloc (.cells (pgC p a b c) 26) := by
  refine callsIn_of_wp Try.func14 rfl h14 ?_ hro
  simp only [Try.ntmps14, List.size_toArray, List.length_cons, List.length_nil, Nat.reduceAdd, Nat.reduceSub, Array.replicate_succ, Array.replicate_zero, List.push_toArray, List.append_toArray, List.nil_append, List.cons_append]
  gi_wp2
  go_ret
  exact ⟨rfl, rfl⟩
/-- What it hands back goes through the things. -/
theorem things_stops (F : Fence) (n : Nat) (h22 : F.fn 22) (hro : F.round = none) (hn : 1 ≤ n) (Bn : Nat) (p : Pg) (a b c : Value) (w : World) (hP : PgAt w p a b c) (hB1 : w.cell? ⟨Bn, 1, none⟩ = some a) (hB2 : w.cell? ⟨Bn, 2, none⟩ = some b) :
    SeqStopsK F n Try.prog 22 #[.pointer (some ⟨Bn, 0, none⟩)] (fun x : Int × Hd => #[.int .i64 x.1, hdV x.2]) (Below w.heap.size) (fun ys => ys = thingsL p) (fun pre => pre <+: thingsL p) (thingsL p).length w := fun l J Jx W hW hA _ hY h0 =>
  things1 F n h22 hro hn l Bn w.heap.size p a b c J Jx w W rfl hW hP hA hY hB1 hB2 h0
end Go.Proofs.Ytilpoiihoikhlaa.Lex
