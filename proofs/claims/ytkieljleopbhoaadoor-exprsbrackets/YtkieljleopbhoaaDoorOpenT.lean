/-
  What the package-level variables hold when the law on what is written begins.
-/
import Derived.Test.YtkieljleopbhoaaDoorTextsWalk
import Derived.Test.YtkieljleopbhoaaDoorOpenE
import Derived.Test.YtkieljleopbhoaaDoorTie
import Derived.Test.YtkieljleopbhoaaDoorCards
import Derived.ProofKit
import Derived.OpenShut
import Derived.ShutString
import Derived.ChangeOld
import Derived.LaidMore
import Derived.SizedLaws
import Derived.Lib.LaidTab
import Derived.Lib.SmallJoins
import Derived.Stop.LaidErr
namespace Go.Proofs.YtkieljleopbhoaaDoor.Lex
open Go.ChangeShapes Go.WideShapes Go.ChangeAt Go.RowKit Go.Joins
theorem ownGo : ownKnob Tryd.prog.godebug = none := by kernel_rfl
theorem laidOut : laidOutB Tryd.prog = true := by kernel_rfl
theorem gRes : Tryd.prog.globalNamed "belfry/tokens.reserved" = some 3 := by kernel_rfl
theorem tRes : (Tryd.prog.globals[3]?).map (·.type) = some 129 := by kernel_rfl
theorem gJoin : Tryd.prog.globalNamed "belfry/exprs.joins" = some 0 := by kernel_rfl
theorem tJoin : (Tryd.prog.globals[0]?).map (·.type) = some 96 := by kernel_rfl
theorem tPow : (Tryd.prog.globals[2]?).map (·.type) = some 123 := by kernel_rfl
theorem cells129 : Tryd.prog.cellsOf 129 = 17 := by kernel_rfl
theorem cells123 : Tryd.prog.cellsOf 123 = 20 := by kernel_rfl
theorem cells110 : Tryd.prog.cellsOf 110 = 1 := by kernel_rfl
theorem cells96 : Tryd.prog.cellsOf 96 = 72 := by kernel_rfl
theorem cells83 : Tryd.prog.cellsOf 83 = 6 := by kernel_rfl
theorem cells81 : Tryd.prog.cellsOf 81 = 2 := by kernel_rfl
theorem cells5 : Tryd.prog.cellsOf 5 = 1 := by kernel_rfl
theorem cells3 : Tryd.prog.cellsOf 3 = 1 := by kernel_rfl
/-- An array of strings that reads as a table holds the table's strings, cell for cell. -/
theorem cells_of_strs {H : Type} {enc : TypeId × Value → H} {P : Program} {w : World} {base : Nat} {sp : Nat → Bool} {held : Bool} {fuel : Nat} {t e : TypeId} {n : Nat} {cs : List Value} {zs : List (List UInt8)} {p : List MemPlace}
    (ht : P.underlying t = some (.array n e)) (he : P.underlying e = some .string) (hce : P.cellsOf e = 1) (hct : P.cellsOf t = n)
    (h : DataW.trod enc P w base sp held fuel t cs = some (.agg (zs.map fun z => .lit (.string z)), p)) : cs = zs.map fun z => Value.string ⟨z.toArray⟩ := by
  cases fuel with
  | zero => simp [DataW.trod] at h
  | succ fuel =>
    simp only [DataW.trod, ht, hce, hct, Nat.mul_one] at h
    split at h
    · rename_i hl
      obtain ⟨xs, hm, hx⟩ := Option.map_eq_some_iff.1 h
      have hxs : xs.map (·.1) = zs.map fun z => (DataW.lit (.string z) : DataW H) := by
        have := congrArg Prod.fst hx
        simpa using this
      have hxl : xs.length = n := by simpa using Lib.mapM_length hm
      have hzl : zs.length = n := by
        have := congrArg List.length hxs
        simp at this
        omega
      apply List.ext_getElem?
      intro i
      by_cases hi : i < n
      · obtain ⟨b, hb, hf⟩ := Lib.mapM_at hm i i (by simp [hi])
        obtain ⟨z, hc, rfl, _⟩ := DataW.trod_string he hf
        have h1 : cs[i]? = some (.string z) := by
          have := congrArg (·[0]?) hc
          simpa [List.getElem?_take, List.getElem?_drop] using this
        have h2 : (xs.map (·.1))[i]? = some (DataW.lit (.string z.data.toList) : DataW H) := by simp [hb]
        rw [hxs] at h2
        simp only [List.getElem?_map, Option.map_eq_some_iff, DataW.lit.injEq, Lit.string.injEq] at h2
        obtain ⟨z', hz', rfl⟩ := h2
        simp [h1, hz']
      · rw [List.getElem?_eq_none (by omega), List.getElem?_eq_none (by simp; omega)]
    · cases h
def resB : List (List UInt8) := [[115, 116, 97, 116, 105, 111, 110, 115], [105, 110], [97, 116], [102, 108, 111, 119], [100, 101, 102, 97, 117, 108, 116], [111, 117, 116], [105, 102], [116, 104, 101, 110], [101, 108, 115, 101], [112, 114, 101], [97, 110, 100], [111, 114], [110, 111, 116], [116, 114, 117, 101], [102, 97, 108, 115, 101], [105, 110, 116], [98, 111, 111, 108]]
/-- A row of the table of operators, as a datum. -/
def jD {H : Type} (r : J) : DataW H := .agg [.lit (.int .u8 (r.op : Int)), .agg [.lit (.int .u8 (r.kind : Int)), .lit (.string r.text.data.toList)], .lit (.int .i64 (r.rank : Int)), .lit (.int .i64 (r.first : Int)), .lit (.int .i64 (r.second : Int))]
theorem list6 {l : List Value} (h : l.length = 6) : ∃ a b c d e f, l = [a, b, c, d, e, f] := by match l, h with | [a, b, c, d, e, f], _ => exact ⟨a, b, c, d, e, f, rfl⟩
theorem lit_int {H : Type} {enc : TypeId × Value → H} {w : World} {base : Nat} {sp : Nat → Bool} {held : Bool} {fuel : Nat} {t : TypeId} {k : IntKind} {c : Value} {z : Int} {q : List MemPlace} (ht : Tryd.prog.underlying t = some (.int k)) (h : DataW.trod enc Tryd.prog w base sp held fuel t [c] = some (.lit (.int k z), q)) : c = .int k z := by
  obtain ⟨n, e, hx, _⟩ := DataW.trod_int ht h
  simp only [Prod.mk.injEq, DataW.lit.injEq, Lit.int.injEq, true_and] at hx
  simp only [List.cons.injEq, and_true] at e
  rw [e, hx.1]
theorem lit_str {H : Type} {enc : TypeId × Value → H} {w : World} {base : Nat} {sp : Nat → Bool} {held : Bool} {fuel : Nat} {c : Value} {z : List UInt8} {q : List MemPlace} (h : DataW.trod enc Tryd.prog w base sp held fuel 9 [c] = some (.lit (.string z), q)) : c = .string ⟨z.toArray⟩ := by
  obtain ⟨s, e, hx, _⟩ := DataW.trod_string Tryd.underlying9 h
  simp only [Prod.mk.injEq, DataW.lit.injEq, Lit.string.injEq] at hx
  simp only [List.cons.injEq, and_true] at e
  rw [e, hx.1]
set_option maxRecDepth 100000 in
/-- The cells of a row. -/
theorem row_cells {H : Type} {enc : TypeId × Value → H} {w : World} {base : Nat} {sp : Nat → Bool} {held : Bool} {fuel : Nat} {cs : List Value} {q : List MemPlace} (r : J) (h : DataW.trod enc Tryd.prog w base sp held fuel 83 cs = some (jD r, q)) : cs = (jrow r).toList := by
  obtain ⟨xs, n, _, hx, hl, hlen, hfs⟩ := DataW.trod_struct Tryd.underlying83 h
  rw [cells83] at hl
  obtain ⟨c0, c1, c2, c3, c4, c5, rfl⟩ := list6 hl
  match xs, hlen with
  | [y0, y1, y2, y3, y4], _ =>
    have h0 : DataW.trod enc Tryd.prog w base sp held n 22 [c0] = some y0 := by simpa [cells22] using hfs 0 _ rfl
    have h1 : DataW.trod enc Tryd.prog w base sp held n 81 [c1, c2] = some y1 := by simpa [cells81] using hfs 1 _ rfl
    have h2 : DataW.trod enc Tryd.prog w base sp held n 3 [c3] = some y2 := by simpa [cells3] using hfs 2 _ rfl
    have h3 : DataW.trod enc Tryd.prog w base sp held n 3 [c4] = some y3 := by simpa [cells3] using hfs 3 _ rfl
    have h4 : DataW.trod enc Tryd.prog w base sp held n 3 [c5] = some y4 := by simpa [cells3] using hfs 4 _ rfl
    simp only [jD, Prod.mk.injEq, List.map_cons, List.map_nil, DataW.agg.injEq, List.cons.injEq, and_true] at hx
    obtain ⟨⟨g0, g1, g2, g3, g4⟩, _⟩ := hx
    obtain ⟨z0, z1, m, hy, _, k0, k1⟩ := trod_struct2 Tryd.underlying81 h1
    have k0' : DataW.trod enc Tryd.prog w base sp held m 5 [c1] = some z0 := by simpa [cells5] using k0
    have k1' : DataW.trod enc Tryd.prog w base sp held m 9 [c2] = some z1 := by simpa [cells9] using k1
    rw [hy] at g1
    simp only [DataW.agg.injEq, List.cons.injEq, and_true] at g1
    have f0 : c0 = .int .u8 (r.op : Int) := lit_int Tryd.underlying22 (by rw [g0]; exact h0)
    have f1 : c1 = .int .u8 (r.kind : Int) := lit_int Tryd.underlying5 (by rw [g1.1]; exact k0')
    have f2 : c2 = .string ⟨r.text.data.toList.toArray⟩ := lit_str (by rw [g1.2]; exact k1')
    have f3 : c3 = .int .i64 (r.rank : Int) := lit_int Tryd.underlying3 (by rw [g2]; exact h2)
    have f4 : c4 = .int .i64 (r.first : Int) := lit_int Tryd.underlying3 (by rw [g3]; exact h3)
    have f5 : c5 = .int .i64 (r.second : Int) := lit_int Tryd.underlying3 (by rw [g4]; exact h4)
    rw [f0, f1, f2, f3, f4, f5]
    simp [jrow]
theorem chunk {α : Type} (m : Nat) : ∀ (n : Nat) (cs : List α), cs.length = n * m → (List.range n).flatMap (fun i => (cs.drop (i * m)).take m) = cs
  | 0, cs, h => by
    have : cs = [] := List.eq_nil_of_length_eq_zero (by omega)
    subst this
    rfl
  | n + 1, cs, h => by
    have hnm : (n + 1) * m = n * m + m := Nat.succ_mul n m
    have ih := chunk m n (cs.take (n * m)) (by rw [List.length_take]; omega)
    rw [List.range_succ, List.flatMap_append]
    have e : (List.range n).flatMap (fun i => (cs.drop (i * m)).take m) = (List.range n).flatMap (fun i => ((cs.take (n * m)).drop (i * m)).take m) := by
      have hh : ∀ (l : List Nat), (∀ i ∈ l, i < n) → l.flatMap (fun i => (cs.drop (i * m)).take m) = l.flatMap (fun i => ((cs.take (n * m)).drop (i * m)).take m) := by
        intro l
        induction l with
        | nil => intro _; rfl
        | cons i l ihl =>
          intro hl
          have hi := hl i (List.mem_cons_self ..)
          have him : i * m + m ≤ n * m := by rw [← Nat.succ_mul]; exact Nat.mul_le_mul_right m hi
          rw [List.flatMap_cons, List.flatMap_cons, ihl fun j hj => hl j (List.mem_cons_of_mem _ hj), List.drop_take, List.take_take, Nat.min_eq_left (by omega)]
      exact hh _ fun i hi => List.mem_range.1 hi
    rw [e, ih]
    simp only [List.flatMap_cons, List.flatMap_nil, List.append_nil]
    have hd : (cs.drop (n * m)).take m = cs.drop (n * m) := List.take_of_length_le (by rw [List.length_drop]; omega)
    rw [hd, List.take_append_drop]
set_option maxRecDepth 100000 in
/-- The table's cells. -/
theorem join_cells {H : Type} {enc : TypeId × Value → H} {w : World} {base : Nat} {sp : Nat → Bool} {held : Bool} {fuel : Nat} {cs : List Value} {q : List MemPlace} (h : DataW.trod enc Tryd.prog w base sp held fuel 96 cs = some (.agg (JT.map jD), q)) : cs = joinV.toList := by
  cases fuel with
  | zero => simp [DataW.trod] at h
  | succ fuel =>
    simp only [DataW.trod, Tryd.underlying96, cells83, cells96] at h
    split at h
    · rename_i hl
      obtain ⟨xs, hm, hx⟩ := Option.map_eq_some_iff.1 h
      have hxs : xs.map (·.1) = JT.map jD := by
        have := congrArg Prod.fst hx
        simpa using this
      have hxl : xs.length = 12 := by simpa using Lib.mapM_length hm
      rw [← chunk 6 12 cs (by omega)]
      have hh : ∀ i, i < 12 → (cs.drop (i * 6)).take 6 = (jrow (jR i)).toList := fun i hi => by
        obtain ⟨b, hb, hf⟩ := Lib.mapM_at hm i i (by simp [hi])
        have h1 : (xs.map (·.1))[i]? = some b.1 := by simp [hb]
        rw [hxs, List.getElem?_map] at h1
        have h2 : JT[i]? = some (jR i) := by
          unfold jR
          have : i < JT.length := hi
          rw [List.getD_eq_getElem?_getD, List.getElem?_eq_getElem this]
          rfl
        rw [h2] at h1
        simp only [Option.map_some, Option.some.injEq] at h1
        exact row_cells (jR i) (q := b.2) (by rw [hf, h1])
      have e : (List.range 12).flatMap (fun i => (cs.drop (i * 6)).take 6) = (List.range 12).flatMap (fun i => (jrow (jR i)).toList) := by
        have hh2 : ∀ (l : List Nat), (∀ i ∈ l, i < 12) → l.flatMap (fun i => (cs.drop (i * 6)).take 6) = l.flatMap (fun i => (jrow (jR i)).toList) := by
          intro l
          induction l with
          | nil => intro _; rfl
          | cons i l ihl => intro hl; rw [List.flatMap_cons, List.flatMap_cons, ihl fun j hj => hl j (List.mem_cons_of_mem _ hj), hh i (hl i (List.mem_cons_self ..))]
        exact hh2 _ fun i hi => List.mem_range.1 hi
      rw [e]
      rfl
    · cases h
/-- What the package-level variables hold when a call begins. -/
def laidL : List (String × DataW Unit) := [("math/bits.deBruijn32tab", Rows.laid_math_bits_deBruijn32tab), ("math/bits.deBruijn64tab", Rows.laid_math_bits_deBruijn64tab), ("internal/strconv.uint64pow10", Rows.laid_internal_strconv_uint64pow10), ("belfry/tokens.reserved", Rows.laid_belfry_tokens_reserved), ("belfry/exprs.joins", Rows.laid_belfry_exprs_joins)]
theorem door_met (os : Os) (args : Array Value) : laidMetH Tryd.prog laidL ((World.doorLaid Tryd.prog 101 os).forCall (fun _ _ => 0) ⟨#[], args, []⟩).memory :=
  laidMetH_of_parts3 (fuel := 8) (laidMet_of_run' 8 (by kernel_rfl) (by kernel_rfl)) (by kernel_rfl) (by kernel_rfl)
theorem var_res {w : World} {x : Array Value} (h : w.var? Tryd.prog "belfry/tokens.reserved" = some x) : ∃ t fz, w.heap[3]? = some (.cells x t fz) := by
  unfold World.var? at h
  rw [gRes] at h
  simp only [Option.bind_some] at h
  split at h
  · next cs t fz he => injection h with h; subst h; exact ⟨_, _, he⟩
  · cases h
theorem var_join {w : World} {x : Array Value} (h : w.var? Tryd.prog "belfry/exprs.joins" = some x) : ∃ t fz, w.heap[0]? = some (.cells x t fz) := by
  unfold World.var? at h
  rw [gJoin] at h
  simp only [Option.bind_some] at h
  split at h
  · next cs t fz he => injection h with h; subst h; exact ⟨_, _, he⟩
  · cases h
theorem res_of {W : World} {rest : List (String × DataW Unit)} (h : laidMet Tryd.prog (("belfry/tokens.reserved", Rows.laid_belfry_tokens_reserved) :: rest) W) : TabR W := by
  obtain ⟨ps, ⟨g0, t0, cs0, f0, p0, q0, hg0, ht0, hv0, hd0, _, _⟩, _⟩ := h
  obtain rfl := Option.some.inj (gRes.symm.trans hg0)
  obtain rfl := Option.some.inj (tRes.symm.trans ht0)
  have hd : DataW.trod _ Tryd.prog W 0 _ _ f0 129 cs0.toList = some (.agg (resB.map fun z => .lit (.string z)), p0) := hd0
  have hcs := cells_of_strs Tryd.underlying129 Tryd.underlying9 cells9 cells129 hd
  obtain ⟨t, fz, hb⟩ := var_res hv0
  refine ⟨t, fz, ?_⟩
  rw [hb]
  obtain ⟨l⟩ := cs0
  simp only at hcs
  subst hcs
  rfl
theorem join_of {W : World} {rest : List (String × DataW Unit)} (h : laidMet Tryd.prog (("belfry/exprs.joins", Rows.laid_belfry_exprs_joins) :: rest) W) : TabJ W := by
  obtain ⟨ps, ⟨g0, t0, cs0, f0, p0, q0, hg0, ht0, hv0, hd0, _, _⟩, _⟩ := h
  obtain rfl := Option.some.inj (gJoin.symm.trans hg0)
  obtain rfl := Option.some.inj (tJoin.symm.trans ht0)
  have hd : DataW.trod _ Tryd.prog W 0 _ _ f0 96 cs0.toList = some (.agg (JT.map jD), p0) := hd0
  have hcs := join_cells hd
  obtain ⟨t, fz, hb⟩ := var_join hv0
  refine ⟨t, fz, ?_⟩
  rw [hb]
  obtain ⟨l⟩ := cs0
  simp only at hcs
  subst hcs
  rfl
theorem wid_of_laid {W : World} (h : laidMetH Tryd.prog laidL W) : Env W := by
  rw [MakeChecks.laidMetH_plain _ _ _ (by kernel_rfl)] at h
  have h3 : laidMet Tryd.prog [("internal/strconv.uint64pow10", Rows.laid_internal_strconv_uint64pow10), ("belfry/tokens.reserved", Rows.laid_belfry_tokens_reserved), ("belfry/exprs.joins", Rows.laid_belfry_exprs_joins)] W := h.tail.tail
  exact ⟨res_of h3.tail, join_of h3.tail.tail, Lib.tabIs_of_head (rest := [("belfry/tokens.reserved", Rows.laid_belfry_tokens_reserved), ("belfry/exprs.joins", Rows.laid_belfry_exprs_joins)]) gPow tPow Tryd.underlying123 Tryd.underlying110 cells110 cells123 h3⟩
end Go.Proofs.YtkieljleopbhoaaDoor.Lex
