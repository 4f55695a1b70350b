/-
  How an argument of type []byte is opened once for all statements of this seat; Beyond by its two answers.
-/
import Derived.Test.YtbndgdahokldeaaTwin
import Derived.SizedLaws
namespace Go.Proofs.Ytbndgdahokldeaa.Crc
open Go.ChangeShapes Go.WideShapes Go.ChangeAt Go.RowKit
theorem own : ownKnob Try.prog.godebug = none := by kernel_rfl
theorem laidOut : laidOutB Try.prog = true := by kernel_rfl
theorem bytes5 : Try.prog.bytesOf 5 = 1 := by kernel_rfl
theorem cells5 : Try.prog.cellsOf 5 = 1 := by kernel_rfl
/-- A slice of bytes that came in: its elements; they lie within the form's own reach. -/
def Came (w : World) (a : Option Addr) (len : Nat) (l : List Int) : Prop :=
  l.length = len ∧ len ≤ 140737488351232 ∧ (∀ i, i < len → 0 ≤ l.getD i 0 ∧ l.getD i 0 < 256) ∧ (len = 0 ∨ ∃ b o, a = some ⟨b, o, none⟩ ∧ ∀ i, i < len → w.cell? ⟨b, o + i, none⟩ = some (.int .u8 (l.getD i 0)))
theorem Came.elems {w : World} {a : Option Addr} {len : Nat} {l : List Int} (h : Came w a len l) (hn : len ≤ 1048576) : Elems w a len l := ⟨h.1, hn, h.2.2⟩
theorem Came.below {w w' : World} {a : Option Addr} {len : Nat} {l : List Int} (h : Came w a len l) (hb : Below w.heap.size w w') : Came w' a len l := by
  obtain ⟨h1, h2, h3, h4⟩ := h
  refine ⟨h1, h2, h3, ?_⟩
  rcases h4 with h4 | ⟨b, o, ha, hc⟩
  · exact .inl h4
  · exact .inr ⟨b, o, ha, fun i hi => by rw [hb.cell (World.block_lt_of_cell? w _ (hc i hi))]; exact hc i hi⟩
theorem byte_wf {n : Int} (h : (Lit.int .u8 n).wf = true) : 0 ≤ n ∧ n < 256 := by
  simp [Lit.wf, IntKind.min, IntKind.max, IntKind.signed, IntKind.bits] at h
  omega
theorem word_wf {n : Int} (h : (Lit.int .u32 n).wf = true) : ∃ s : BitVec 32, n = (s.toNat : Int) := by
  simp [Lit.wf, IntKind.min, IntKind.max, IntKind.signed, IntKind.bits] at h
  refine ⟨BitVec.ofInt 32 n, ?_⟩
  rw [BitVec.toNat_ofInt]
  omega
/-- An argument of type []byte, opened once. -/
theorem view {H : Type} {enc : TypeId × Value → H} {W : World} {a0 : Option Addr} {len cap : Nat} {d : DataW H} {p : List MemPlace} {ts : List TypeId} {ds : List (DataW H)} {j : Nat}
    (hd : DataW.Trod enc Try.prog W 0 (fun _ => true) true 22 (.slice a0 len cap) d p)
    (hsz : (DataW.weightsEach Try.prog ts ds).all (· ≤ reachBytes) = true) (ht : ts[j]? = some 22) (hj : ds[j]? = some d) : ∃ l, Came W a0 len l := by
  obtain ⟨fuel, hf⟩ := hd
  rcases open_ints Try.underlying22 Try.underlying5 cells5 hf with ⟨hcs, hx⟩ | ⟨a, len', cap', zs, hcs, _, hl, hm, hz, hx, hcell, hwz⟩
  · simp [Value.cells] at hcs
    obtain ⟨rfl, rfl, rfl⟩ := hcs
    exact ⟨[], rfl, by omega, fun i hi => by omega, .inl rfl⟩
  · simp [Value.cells] at hcs
    obtain ⟨rfl, rfl, rfl⟩ := hcs
    simp only [Prod.mk.injEq] at hx
    obtain ⟨rfl, _⟩ := hx
    simp only [if_true] at hz
    have hr := sized_slice hsz ht hj Try.underlying22
    rw [bytes5] at hr
    simp only [lits, List.length_map, List.length_take, List.length_drop, reachBytes] at hr
    have hg : ∀ i, i < len → (zs.take len).getD i 0 = zs.getD i 0 := fun i hi => by simp [List.getD, hi]
    refine ⟨zs.take len, by simp; omega, by omega, fun i hi => ?_, ?_⟩
    · rw [hg i hi]
      exact byte_wf (hwz _ (getD_mem zs i (by omega)))
    · by_cases h0 : len = 0
      · exact .inl h0
      · obtain ⟨b, o, sp⟩ := a
        have hsp : sp = none := by simpa [Addr.add] using World.cell?_spot (hcell 0 (by omega))
        subst hsp
        refine .inr ⟨b, o, rfl, fun i hi => ?_⟩
        rw [hg i hi, ← Addr.add_mid]
        exact hcell i (by omega)
/-- Beyond of sizes that are too much, and of sizes that are not. -/
theorem beyond_yes (b len cap : Nat) (l : List Int) (w : World) (hl : l.length = len) (hlen : len ≤ 3) (h0 : ∀ x ∈ l, 0 ≤ x ∧ x ≤ 140737488355328) (hc : ∀ i, i < len → w.cell? ⟨b, 0 + i, none⟩ = some (.int .i64 (l.getD i 0))) (hs : 1048576 < l.sum) :
    Calls Try.prog 9 #[.slice (some ⟨b, 0, none⟩) len cap] w fun e w' => e = .returned (.bool true) ∧ w' = w :=
  (w9 b 0 len cap l w hl hlen h0 hc).mono fun e w' ⟨h1, h2⟩ => ⟨by rw [h1, decide_eq_true hs], h2⟩
theorem beyond_no (b len cap : Nat) (l : List Int) (w : World) (hl : l.length = len) (hlen : len ≤ 3) (h0 : ∀ x ∈ l, 0 ≤ x ∧ x ≤ 140737488355328) (hc : ∀ i, i < len → w.cell? ⟨b, 0 + i, none⟩ = some (.int .i64 (l.getD i 0))) (hs : l.sum ≤ 1048576) :
    Calls Try.prog 9 #[.slice (some ⟨b, 0, none⟩) len cap] w fun e w' => e = .returned (.bool false) ∧ w' = w :=
  (w9 b 0 len cap l w hl hlen h0 hc).mono fun e w' ⟨h1, h2⟩ => ⟨by rw [h1, decide_eq_false (by omega)], h2⟩
end Go.Proofs.Ytbndgdahokldeaa.Crc
