/-
  How an api.Frame that came in is opened; the table of widths, as it is laid when a call begins; a world that fits.
-/
import Derived.Test.YtmbkdalmnfcbfaaDoorHead
import Derived.Test.YtmbkdalmnfcbfaaDoorTie
import Derived.Test.YtmbkdalmnfcbfaaDoorCards
import Derived.WalkKit
import Derived.ProofKit
import Derived.OpenShut
import Derived.ShutString
import Derived.ChangeOld
import Derived.Below
import Derived.SizedLaws
import Derived.LaidMore
import Derived.Lib.LaidTab
import Derived.Lib.SmallJoins
namespace Go.Proofs.YtmbkdalmnfcbfaaDoor.Bits
open Go.ChangeShapes Go.WideShapes Go.ChangeAt Go.RowKit Go.Joins
theorem ownGo : ownKnob Tryd.prog.godebug = none := by kernel_rfl
theorem laidOut : laidOutB Tryd.prog = true := by kernel_rfl
theorem gWidths : Tryd.prog.globalNamed "belfry/frames.widths" = some 0 := by kernel_rfl
theorem tWidths : (Tryd.prog.globals[0]?).map (·.type) = some 54 := by kernel_rfl
theorem cells3 : Tryd.prog.cellsOf 3 = 1 := by kernel_rfl
theorem cells54 : Tryd.prog.cellsOf 54 = 6 := by kernel_rfl
/-- What the package-level variables hold when a call begins. -/
def laidL : List (String × DataW Unit) := [("belfry/frames.widths", Rows.laid_belfry_frames_widths)]
theorem door_met (os : Os) (args : Array Value) : laidMetH Tryd.prog laidL ((World.doorLaid Tryd.prog 14 os).forCall (fun _ _ => 0) ⟨#[], args, []⟩).memory :=
  laidMetH_of_parts3 (fuel := 8) (laidMet_of_run' 8 (by kernel_rfl) (by kernel_rfl)) (by kernel_rfl) (by kernel_rfl)
theorem wid_of_laid {W : World} (h : laidMetH Tryd.prog laidL W) : Wid W := by
  rw [MakeChecks.laidMetH_plain _ _ _ (by kernel_rfl)] at h
  obtain ⟨ps, ⟨g0, t0, cs0, f0, p0, q0, hg0, ht0, hv0, hd0, _, _⟩, _⟩ := h
  obtain rfl := Option.some.inj (gWidths.symm.trans hg0)
  obtain rfl := Option.some.inj (tWidths.symm.trans ht0)
  have hd : DataW.trod _ Tryd.prog W 0 _ _ f0 54 cs0.toList = some (Lib.tabData .i64 [4, 32, 8, 16, 12, 32], p0) := hd0
  have hcs := Lib.cells_of_tab Tryd.underlying54 Tryd.underlying3 cells3 cells54 hd
  intro i hi
  have := World.var?_cell hg0 hv0 i
  rw [this]
  obtain ⟨l⟩ := cs0
  simp only at hcs
  subst hcs
  rcases i with _ | _ | _ | _ | _ | _ | i
  all_goals first | rfl | omega
/-- Bytes that came in with a frame. -/
def Came (w : World) (a : Option Addr) (len : Nat) (l : List Int) : Prop :=
  l.length = len ∧ len ≤ 140737488355328 ∧ (∀ i, i < len → 0 ≤ l.getD i 0 ∧ l.getD i 0 < 256) ∧ (len = 0 ∨ ∃ b o, a = some ⟨b, o, none⟩ ∧ ∀ i, i < len → w.cell? ⟨b, o + i, none⟩ = some (.int .u8 (l.getD i 0)))
theorem Came.elems {w : World} {a : Option Addr} {len : Nat} {l : List Int} (h : Came w a len l) (hl : len ≤ 1048576) : Elems w a len l := ⟨h.1, hl, h.2.2.1, h.2.2.2⟩
theorem bytesOf5 : Tryd.prog.bytesOf 5 = 1 := by kernel_rfl
theorem cells5 : Tryd.prog.cellsOf 5 = 1 := by kernel_rfl
theorem byte_wf {n : Int} (h : (Lit.int .u8 n).wf = true) : 0 ≤ n ∧ n < 256 := by
  simp [Lit.wf, IntKind.min, IntKind.max, IntKind.signed, IntKind.bits] at h
  omega
theorem getD_mem' (l : List Int) (k : Nat) (h : k < l.length) : l.getD k 0 ∈ l := by
  simp [h]
theorem nat_n {n : Int} (h : (Lit.int .u32 n).wf = true) : ∃ k : Nat, k < 2 ^ 32 ∧ n = k := by
  simp [Lit.wf, IntKind.min, IntKind.max, IntKind.signed, IntKind.bits] at h
  exact ⟨n.toNat, by omega, by omega⟩
theorem nat_h {n : Int} (h : (Lit.int .u16 n).wf = true) : ∃ k : Nat, k < 2 ^ 16 ∧ n = k := by
  simp [Lit.wf, IntKind.min, IntKind.max, IntKind.signed, IntKind.bits] at h
  exact ⟨n.toNat, by omega, by omega⟩
theorem nat_c {n : Int} (h : (Lit.int .u8 n).wf = true) : ∃ k : Nat, k < 2 ^ 8 ∧ n = k := by
  simp [Lit.wf, IntKind.min, IntKind.max, IntKind.signed, IntKind.bits] at h
  exact ⟨n.toNat, by omega, by omega⟩
/-- A []byte that came in, opened once. -/
theorem view {H : Type} {enc : TypeId × Value → H} {W : World} {a0 : Option Addr} {len cap fuel : Nat} {d : DataW H} {p : List MemPlace} {ts : List TypeId} {ds : List (DataW H)} {j : Nat}
    (hf : DataW.trod enc Tryd.prog W 0 (fun _ => true) true fuel 24 [.slice a0 len cap] = some (d, p))
    (hsz : (DataW.weightsEach Tryd.prog ts ds).all (· ≤ reachBytes) = true) (ht : ts[j]? = some 24) (hj : ds[j]? = some d) : ∃ l, Came W a0 len l ∧ len ≤ cap := by
  rcases open_ints Tryd.underlying24 Tryd.underlying5 cells5 hf with ⟨hcs, hx⟩ | ⟨a, len', cap', zs, hcs, _, hl, hm, hz, hx, hcell, hwz⟩
  · simp at hcs
    obtain ⟨rfl, rfl, rfl⟩ := hcs
    exact ⟨[], ⟨rfl, by omega, fun i hi => by omega, .inl rfl⟩, Nat.le_refl _⟩
  · simp at hcs
    obtain ⟨rfl, rfl, rfl⟩ := hcs
    simp only [Prod.mk.injEq] at hx
    obtain ⟨rfl, _⟩ := hx
    simp only [if_true] at hz
    have hr := sized_slice hsz ht hj Tryd.underlying24
    rw [bytesOf5] at hr
    simp only [lits, List.length_map, List.length_take, List.length_drop, reachBytes] at hr
    have hg : ∀ i, i < len → (zs.take len).getD i 0 = zs.getD i 0 := fun i hi => by simp [List.getD, hi]
    refine ⟨zs.take len, ⟨by simp; omega, by omega, fun i hi => ?_, ?_⟩, hl⟩
    · rw [hg i hi]
      exact byte_wf (hwz _ (getD_mem' zs i (by omega)))
    · by_cases h0 : len = 0
      · exact .inl h0
      · obtain ⟨b, o, sp⟩ := a
        have hsp : sp = none := by simpa [Addr.add] using World.cell?_spot (hcell 0 (by omega))
        subst hsp
        refine .inr ⟨b, o, rfl, fun i hi => ?_⟩
        rw [hg i hi, ← Addr.add_mid]
        exact hcell i (by omega)
theorem sized_struct {H : Type} {P : Program} {ts : List TypeId} {ds parts : List (DataW H)} (h : (DataW.weightsEach P ts ds).all (· ≤ reachBytes) = true) {j : Nat} {t : TypeId} {fs : Array Field} (ht : ts[j]? = some t) (hd : ds[j]? = some (.agg parts)) (hu : P.underlying t = some (.struct fs)) :
    (DataW.weightsEach P (fs.toList.map (·.type)) parts).all (· ≤ reachBytes) = true := by
  rw [List.all_eq_true] at h ⊢
  intro n hn
  exact h n (DataW.weights_mem_each ht hd n (by simpa [DataW.weights, hu] using hn))
theorem array5 {α : Type} {cs : Array α} (h : cs.size = 5) : ∃ c0 c1 c2 c3 c4, cs = #[c0, c1, c2, c3, c4] := by
  obtain ⟨l⟩ := cs
  match l, h with
  | [c0, c1, c2, c3, c4], _ => exact ⟨c0, c1, c2, c3, c4, rfl⟩
theorem cells22 : Tryd.prog.cellsOf 22 = 1 := by kernel_rfl
theorem cells23 : Tryd.prog.cellsOf 23 = 1 := by kernel_rfl
theorem cells24 : Tryd.prog.cellsOf 24 = 1 := by kernel_rfl
theorem cells26 : Tryd.prog.cellsOf 26 = 5 := by kernel_rfl
/-- A frame as a value. -/
abbrev frv (st : Int) (rd mb md : Nat) (a : Option Addr) (len cap : Nat) : Value := .agg #[.int .i64 st, .int .u32 (rd : Int), .int .u8 (mb : Int), .int .u16 (md : Int), .slice a len cap]
/-- An api.Frame that came in, opened once. -/
theorem viewF {H : Type} {enc : TypeId × Value → H} {W : World} {r : Reach} {b0 : Nat} {v : Value} {d : DataW H} {p : List MemPlace} {ts : List TypeId} {ds : List (DataW H)} {j : Nat}
    (hv : Value.okWide Tryd.prog W r b0 26 v) (h : DataW.Trod enc Tryd.prog W 0 (fun _ => true) true 26 v d p)
    (hsz : (DataW.weightsEach Tryd.prog ts ds).all (· ≤ reachBytes) = true) (ht : ts[j]? = some 26) (hj : ds[j]? = some d) :
    ∃ (st : Int) (rd mb md : Nat) (a : Option Addr) (len cap : Nat) (l : List Int), v = frv st rd mb md a len cap ∧ (Lit.int .i64 st).wf = true ∧ rd < 2 ^ 32 ∧ mb < 2 ^ 8 ∧ md < 2 ^ 16 ∧ Came W a len l := by
  obtain ⟨cs, rfl, hz⟩ := okWide_struct Tryd.underlying26 hv
  obtain ⟨c0, c1, c2, c3, c4, rfl⟩ := array5 (hz.trans cells26)
  obtain ⟨fuel, hf⟩ := h
  obtain ⟨xs, n, _, hx, hl, hlen, hfs⟩ := DataW.trod_struct Tryd.underlying26 hf
  match xs, hlen with
  | [y0, y1, y2, y3, y4], _ =>
    have h0 : DataW.trod enc Tryd.prog W 0 (fun _ => true) true n 3 [c0] = some y0 := by simpa [Value.cells, cells3] using hfs 0 _ rfl
    have h1 : DataW.trod enc Tryd.prog W 0 (fun _ => true) true n 22 [c1] = some y1 := by simpa [Value.cells, cells22] using hfs 1 _ rfl
    have h2 : DataW.trod enc Tryd.prog W 0 (fun _ => true) true n 5 [c2] = some y2 := by simpa [Value.cells, cells5] using hfs 2 _ rfl
    have h3 : DataW.trod enc Tryd.prog W 0 (fun _ => true) true n 23 [c3] = some y3 := by simpa [Value.cells, cells23] using hfs 3 _ rfl
    have h4 : DataW.trod enc Tryd.prog W 0 (fun _ => true) true n 24 [c4] = some y4 := by simpa [Value.cells, cells24] using hfs 4 _ rfl
    obtain ⟨st, e0, _, w0⟩ := DataW.trod_int Tryd.underlying3 h0
    obtain ⟨rd', e1, _, w1⟩ := DataW.trod_int Tryd.underlying22 h1
    obtain ⟨mb', e2, _, w2⟩ := DataW.trod_int Tryd.underlying5 h2
    obtain ⟨md', e3, _, w3⟩ := DataW.trod_int Tryd.underlying23 h3
    obtain ⟨a, len, cap, e4⟩ := slice_form Tryd.underlying24 h4
    simp only [List.cons.injEq, and_true] at e0 e1 e2 e3 e4
    subst e0 e1 e2 e3 e4
    obtain ⟨rd, hrd, rfl⟩ := nat_n w1
    obtain ⟨mb, hmb, rfl⟩ := nat_c w2
    obtain ⟨md, hmd, rfl⟩ := nat_h w3
    simp only [Prod.mk.injEq] at hx
    obtain ⟨rfl, _⟩ := hx
    have hs := sized_struct hsz ht hj Tryd.underlying26
    obtain ⟨d4, p4⟩ := y4
    obtain ⟨l, hC, _⟩ := view (j := 4) h4 hs rfl rfl
    exact ⟨st, rd, mb, md, a, len, cap, l, rfl, w0, hrd, hmb, hmd, hC⟩
end Go.Proofs.YtmbkdalmnfcbfaaDoor.Bits
