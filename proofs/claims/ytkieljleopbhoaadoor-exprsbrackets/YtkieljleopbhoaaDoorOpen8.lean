/-
  What the package-level variables hold when a law on what is read begins.
-/
import Derived.Test.YtkieljleopbhoaaDoorOpenT
import Derived.Test.YtkieljleopbhoaaDoorReadX
namespace Go.Proofs.YtkieljleopbhoaaDoor.Lex8
open Go.ChangeShapes Go.WideShapes Go.ChangeAt Go.RowKit Go.Joins Lex
theorem ownGo : ownKnob Tryd.prog.godebug = none := Lex.ownGo
theorem laidOut : laidOutB Tryd.prog = true := Lex.laidOut
theorem gSig : Tryd.prog.globalNamed "belfry/tokens.signTexts" = some 1 := by kernel_rfl
theorem tSig : (Tryd.prog.globals[1]?).map (·.type) = some 100 := by kernel_rfl
theorem cells100 : Tryd.prog.cellsOf 100 = 16 := by kernel_rfl
theorem tRange : (Tryd.prog.globals[7]?).map (·.type) = some 117 := by kernel_rfl
theorem cells146 : Tryd.prog.cellsOf 146 = 1 := by kernel_rfl
theorem star : "*" ++ "errors.errorString" = "*errors.errorString" := by decide
theorem row144 (u : TypeId) (h : Tryd.prog.typeName? 3 u = some "*errors.errorString") : u = 144 :=
  typeName_ptr_named (nm := "errors.errorString") (by rw [star]; kernel_rfl) (by kernel_rfl) (by decide) u (by rw [star]; exact h)
/-- What the package-level variables hold when a call begins. -/
def laidL : List (String × DataW Unit) := [("math/bits.deBruijn32tab", Rows.laid_math_bits_deBruijn32tab), ("math/bits.deBruijn64tab", Rows.laid_math_bits_deBruijn64tab), ("internal/strconv.uint64pow10", Rows.laid_internal_strconv_uint64pow10), ("strconv.ErrRange", Rows.laid_strconv_ErrRange), ("strconv.ErrSyntax", Rows.laid_strconv_ErrSyntax), ("belfry/tokens.reserved", Rows.laid_belfry_tokens_reserved), ("belfry/tokens.signTexts", Rows.laid_belfry_tokens_signTexts), ("belfry/exprs.joins", Rows.laid_belfry_exprs_joins)]
theorem door_met (os : Os) (args : Array Value) : laidMetH Tryd.prog laidL ((World.doorLaid Tryd.prog 101 os).forCall (fun _ _ => 0) ⟨#[], args, []⟩).memory :=
  laidMetH_of_parts3 (fuel := 8) (laidMet_of_run' 8 (by kernel_rfl) (by kernel_rfl)) (by kernel_rfl) (by kernel_rfl)
theorem var_block {w : World} {x : Array Value} (h : w.var? Tryd.prog "belfry/tokens.signTexts" = some x) : ∃ t fz, w.heap[1]? = some (.cells x t fz) := by
  unfold World.var? at h
  rw [gSig] at h
  simp only [Option.bind_some] at h
  split at h
  · next cs t fz he => injection h with h; subst h; exact ⟨_, _, he⟩
  · cases h
def sigB : List (List UInt8) := [[60, 61], [61, 61], [33, 61], [45, 62], [40], [41], [58], [59], [44], [61], [43], [45], [42], [47], [37], [60]]
theorem wid_of_laid {W : World} (h : laidMetH Tryd.prog laidL W) : AEnv W := by
  rw [MakeChecks.laidMetH_plain _ _ _ (by kernel_rfl)] at h
  have h2 : laidMet Tryd.prog [("internal/strconv.uint64pow10", Rows.laid_internal_strconv_uint64pow10), ("strconv.ErrRange", Rows.laid_strconv_ErrRange), ("strconv.ErrSyntax", Rows.laid_strconv_ErrSyntax), ("belfry/tokens.reserved", Rows.laid_belfry_tokens_reserved), ("belfry/tokens.signTexts", Rows.laid_belfry_tokens_signTexts), ("belfry/exprs.joins", Rows.laid_belfry_exprs_joins)] W := h.tail.tail
  have h3 := h2.tail
  obtain ⟨a0, s0, hv0, -, -, -⟩ := laid_sentinel h3 gRange tRange Tryd.underlying117 row144 Tryd.underlying144 Tryd.underlying146 rfl rfl Tryd.underlying9 cells146 cells9
  refine ⟨?_, ⟨res_of h3.tail.tail, join_of h3.tail.tail.tail.tail, Lib.tabIs_of_head (rest := [("strconv.ErrRange", Rows.laid_strconv_ErrRange), ("strconv.ErrSyntax", Rows.laid_strconv_ErrSyntax), ("belfry/tokens.reserved", Rows.laid_belfry_tokens_reserved), ("belfry/tokens.signTexts", Rows.laid_belfry_tokens_signTexts), ("belfry/exprs.joins", Rows.laid_belfry_exprs_joins)]) gPow tPow Tryd.underlying123 Tryd.underlying110 cells110 cells123 h2⟩, _, _, hv0⟩
  obtain ⟨ps, ⟨g0, t0, cs0, f0, p0, q0, hg0, ht0, hv0, hd0, _, _⟩, _⟩ := h3.tail.tail.tail
  obtain rfl := Option.some.inj (gSig.symm.trans hg0)
  obtain rfl := Option.some.inj (tSig.symm.trans ht0)
  have hd : DataW.trod _ Tryd.prog W 0 _ _ f0 100 cs0.toList = some (.agg (sigB.map fun z => .lit (.string z)), p0) := hd0
  have hcs := cells_of_strs Tryd.underlying100 Tryd.underlying9 cells9 cells100 hd
  obtain ⟨t, fz, hb⟩ := var_block hv0
  refine ⟨t, fz, ?_⟩
  rw [hb]
  obtain ⟨l⟩ := cs0
  simp only at hcs
  subst hcs
  rfl
theorem nat_c {n : Int} (h : (Lit.int .u8 n).wf = true) : ∃ k : Nat, k < 256 ∧ n = (k : Int) := by
  simp [Lit.wf, IntKind.min, IntKind.max, IntKind.signed, IntKind.bits] at h
  exact ⟨n.toNat, by omega, by omega⟩
end Go.Proofs.YtkieljleopbhoaaDoor.Lex8
