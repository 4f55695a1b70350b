/-
  What the package-level variables hold when a law of layer 11 begins; values that came in.
-/
import Derived.Test.YtkniacdfhajogabDoorText
import Derived.Test.YtkniacdfhajogabDoorTie
import Derived.Test.YtkniacdfhajogabDoorCards
import Derived.ProofKit
import Derived.OpenShut
import Derived.ShutString
import Derived.ChangeOld
import Derived.LaidMore
import Derived.SizedLaws
import Derived.Lib.LaidTab
import Derived.Lib.SmallJoins
import Derived.Stop.LaidErr
namespace Go.Proofs.YtkniacdfhajogabDoor.Val
open Go.ChangeShapes Go.WideShapes Go.ChangeAt Go.RowKit Go.Joins
theorem ownGo : ownKnob Tryd.prog.godebug = none := by kernel_rfl
theorem laidOut : laidOutB Tryd.prog = true := by kernel_rfl
theorem tPow : (Tryd.prog.globals[0]?).map (·.type) = some 60 := by kernel_rfl
theorem cells70 : Tryd.prog.cellsOf 60 = 20 := by kernel_rfl
theorem cells55 : Tryd.prog.cellsOf 27 = 1 := by kernel_rfl
/-- What the package-level variables hold when a call begins. -/
def laidL : List (String × DataW Unit) := [("math/bits.deBruijn32tab", Rows.laid_math_bits_deBruijn32tab), ("math/bits.deBruijn64tab", Rows.laid_math_bits_deBruijn64tab), ("internal/strconv.uint64pow10", Rows.laid_internal_strconv_uint64pow10)]
theorem door_met (os : Os) (args : Array Value) : laidMetH Tryd.prog laidL ((World.doorLaid Tryd.prog 24 os).forCall (fun _ _ => 0) ⟨#[], args, []⟩).memory :=
  laidMetH_of_parts3 (fuel := 8) (laidMet_of_run' 8 (by kernel_rfl) (by kernel_rfl)) (by kernel_rfl) (by kernel_rfl)
theorem wid_of_laid {W : World} (h : laidMetH Tryd.prog laidL W) : TabP W := by
  rw [MakeChecks.laidMetH_plain _ _ _ (by kernel_rfl)] at h
  have h2 : laidMet Tryd.prog [("internal/strconv.uint64pow10", Rows.laid_internal_strconv_uint64pow10)] W := h.tail.tail
  exact Lib.tabIs_of_head (rest := []) gPow tPow Tryd.underlying60 Tryd.underlying27 cells55 cells70 h2
theorem nat_c {n : Int} (h : (Lit.int .u8 n).wf = true) : ∃ k : Nat, k < 256 ∧ n = (k : Int) := by
  simp [Lit.wf, IntKind.min, IntKind.max, IntKind.signed, IntKind.bits] at h
  exact ⟨n.toNat, by omega, by omega⟩
theorem in_i {n : Int} (h : (Lit.int .i64 n).wf = true) : -9223372036854775808 ≤ n ∧ n ≤ 9223372036854775807 := by
  simp [Lit.wf, IntKind.min, IntKind.max, IntKind.signed, IntKind.bits] at h
  omega
theorem all_mem {H : Type} {P : Program} {e : TypeId} : ∀ {l : List (DataW H)} {i : Nat} {d : DataW H}, l[i]? = some d → ∀ v ∈ d.weights P e, v ∈ DataW.weightsAll P e l
  | [], i, d, h => by simp at h
  | x :: l, 0, d, h => by simp at h; subst h; intro v hv; rw [DataW.weightsAll]; exact List.mem_append_left _ hv
  | x :: l, i + 1, d, h => by simp at h; intro v hv; rw [DataW.weightsAll]; exact List.mem_append_right _ (all_mem h v hv)
theorem add_off (b o n : Nat) : (⟨b, o, none⟩ : Addr).add n = ⟨b, o + n, none⟩ := by unfold Addr.add; split <;> simp_all
abbrev Trd {H : Type} (enc : TypeId × Value → H) (W : World) (n : Nat) (t : TypeId) (cs : List Value) (y : DataW H × List MemPlace) : Prop := DataW.trod enc Tryd.prog W 0 (fun _ => true) true n t cs = some y
theorem view_u8 {H : Type} {enc : TypeId × Value → H} {W : World} {n : Nat} {t : TypeId} {c : Value} {y : DataW H × List MemPlace} (hu : Tryd.prog.underlying t = some (.int .u8)) (h : Trd enc W n t [c] y) : ∃ u : Nat, c = .int .u8 (u : Int) ∧ u < 256 := by
  obtain ⟨k, e, _, w0⟩ := DataW.trod_int hu h
  simp only [List.cons.injEq, and_true] at e
  subst e
  have hk : 0 ≤ k ∧ k < 256 := by
    simp [Lit.wf, IntKind.min, IntKind.max, IntKind.signed, IntKind.bits] at w0
    omega
  exact ⟨k.toNat, by rw [Int.toNat_of_nonneg hk.1], by omega⟩
theorem view_i64 {H : Type} {enc : TypeId × Value → H} {W : World} {n : Nat} {t : TypeId} {c : Value} {y : DataW H × List MemPlace} (hu : Tryd.prog.underlying t = some (.int .i64)) (h : Trd enc W n t [c] y) : ∃ k : Int, c = .int .i64 k ∧ (-9223372036854775808 ≤ k ∧ k ≤ 9223372036854775807) := by
  obtain ⟨k, e, _, w0⟩ := DataW.trod_int hu h
  simp only [List.cons.injEq, and_true] at e
  subst e
  have hk : -9223372036854775808 ≤ k ∧ k ≤ 9223372036854775807 := by
    simp [Lit.wf, IntKind.min, IntKind.max, IntKind.signed, IntKind.bits] at w0
    omega
  exact ⟨k, rfl, hk⟩
/-- A slice that came in: where its elements lie, and that each can be opened. -/
theorem view_row {H : Type} {enc : TypeId × Value → H} {W : World} {n : Nat} {t e : TypeId} {c : Value} {y : DataW H × List MemPlace} (hu : Tryd.prog.underlying t = some (.slice e)) (h : Trd enc W n t [c] y) (hw : ∀ v ∈ y.1.weights Tryd.prog t, v ≤ reachBytes) (hc0 : 0 < Tryd.prog.cellsOf e) :
    ∃ (ao : Option Addr) (len cap : Nat), c = .slice ao len cap ∧ len ≤ cap ∧ len * Tryd.prog.bytesOf e ≤ reachBytes ∧ (len = 0 ∨ ∃ b o, ao = some ⟨b, o, none⟩ ∧ ∀ i, i < len → ∃ l d m, (W.cells? 0 ⟨b, o + i * Tryd.prog.cellsOf e, none⟩ (Tryd.prog.cellsOf e)) = some l ∧ Trd enc W m e l d ∧ ∀ v ∈ d.1.weights Tryd.prog e, v ≤ reachBytes) := by
  rcases DataW.trod_slice hu h with ⟨hc, _⟩ | ⟨a, len, cap, elems, rest, n', hn', hc, hy3, hb, hlc, hcm, hel, helem, hsp, _⟩
  · simp only [List.cons.injEq, and_true] at hc
    exact ⟨none, 0, 0, hc, Nat.le_refl _, by simp [reachBytes], .inl rfl⟩
  · simp only [List.cons.injEq, and_true] at hc
    subst hc
    have hwl : (len + rest.length) * Tryd.prog.bytesOf e ≤ reachBytes := by
      have := hw ((elems.map (·.1)).length + (rest.map (·.1)).length |> (· * Tryd.prog.bytesOf e)) (by rw [hy3]; simp [DataW.weights, hu])
      simpa [hel] using this
    refine ⟨some a, len, cap, rfl, hlc, Nat.le_trans (Nat.mul_le_mul_right _ (by omega)) hwl, ?_⟩
    by_cases h00 : len = 0
    · exact .inl h00
    · right
      have each : ∀ i, i < len → ∃ l d m, (W.cells? 0 (a.add (i * Tryd.prog.cellsOf e)) (Tryd.prog.cellsOf e)) = some l ∧ Trd enc W m e l d ∧ ∀ v ∈ d.1.weights Tryd.prog e, v ≤ reachBytes := fun i hi => by
        have he := helem i hi
        rw [List.getElem?_eq_getElem (by omega)] at he
        obtain ⟨l, hl1, hl2⟩ := Option.bind_eq_some_iff.1 he
        refine ⟨l, _, n', hl1, hl2, fun v hv => hw v ?_⟩
        rw [hy3]
        simp only [DataW.weights, hu]
        refine List.mem_cons_of_mem _ (List.mem_append_left _ (all_mem (i := i) (d := (elems[i]'(by omega)).1) ?_ v hv))
        rw [List.getElem?_map, List.getElem?_eq_getElem (by omega)]
        rfl
      obtain ⟨b, o, sp⟩ := a
      have hspt : sp = none := by
        obtain ⟨l, d, m, hl, _⟩ := each 0 (by omega)
        unfold World.cells? at hl
        rw [if_pos (Nat.zero_le _)] at hl
        obtain ⟨v, _, hf⟩ := Lib.mapM_at hl 0 0 (by simp [hc0])
        simpa [Addr.add] using World.cell?_spot hf
      subst hspt
      exact ⟨b, o, rfl, fun i hi => by have := each i hi; rw [add_off] at this; exact this⟩
theorem cells_at {w : World} {b o c : Nat} {l : List Value} (h : w.cells? 0 ⟨b, o, none⟩ c = some l) : l.length = c ∧ ∀ j, j < c → w.cell? ⟨b, o + j, none⟩ = l[j]? := by
  unfold World.cells? at h
  rw [if_pos (Nat.zero_le _)] at h
  refine ⟨by have := Lib.mapM_length h; simpa using this, fun j hj => ?_⟩
  obtain ⟨v, hb, hf⟩ := Lib.mapM_at h j j (by simp [hj])
  rw [add_off] at hf
  rw [hf, hb]
theorem trod_array2 {H : Type} {enc : TypeId × Value → H} {P : Program} {w : World} {base : Nat} {spare : Nat → Bool} {held : Bool} {t e : TypeId} {fuel : Nat} {c0 c1 : Value} {x : DataW H × List MemPlace} (ht : P.underlying t = some (.array 2 e)) (hce : P.cellsOf e = 1)
    (h : DataW.trod enc P w base spare held fuel t [c0, c1] = some x) :
    ∃ y0 y1 n, x = (.agg [y0.1, y1.1], y0.2 ++ y1.2) ∧ DataW.trod enc P w base spare held n e [c0] = some y0 ∧ DataW.trod enc P w base spare held n e [c1] = some y1 := by
  cases fuel with
  | zero => simp [DataW.trod] at h
  | succ n =>
    unfold DataW.trod at h
    rw [ht] at h
    have r2 : List.range 2 = [0, 1] := rfl
    simp [r2, hce] at h
    obtain ⟨_, h⟩ := h
    cases h0 : DataW.trod enc P w base spare held n e [c0] with
    | none => simp [h0] at h
    | some y0 =>
      cases h1 : DataW.trod enc P w base spare held n e [c1] with
      | none => simp [h0, h1] at h
      | some y1 =>
        simp [h0, h1] at h
        exact ⟨y0, y1, n, h.symm, h0, h1⟩
theorem list2v {α : Type} (l : List α) (h : l.length = 2) : ∃ a b, l = [a, b] := by
  match l, h with
  | [a, b], _ => exact ⟨a, b, rfl⟩
theorem cells2 : Tryd.prog.cellsOf 2 = 1 := by kernel_rfl
theorem cells22 : Tryd.prog.cellsOf 23 = 1 := by kernel_rfl
theorem cells24 : Tryd.prog.cellsOf 25 = 2 := by kernel_rfl
theorem bytes24 : Tryd.prog.bytesOf 25 = 16 := by kernel_rfl
theorem viewC {H : Type} {enc : TypeId × Value → H} {W : World} {n : Nat} {cs : List Value} {y : DataW H × List MemPlace} (h : Trd enc W n 25 cs y) : ∃ x : Vl, cs = [.int .u8 (x.ty : Int), .int .i64 x.n] ∧ x.ok := by
  obtain ⟨xs, m, hn, hx, hl, hlen, hfs⟩ := DataW.trod_struct Tryd.underlying25 h
  rw [cells24] at hl
  obtain ⟨c0, c1, rfl⟩ := list2v cs hl
  match xs, hlen with
  | [y0, y1], _ =>
    have h0 : Trd enc W m 23 [c0] y0 := by simpa [cells22] using hfs 0 _ rfl
    have h1 : Trd enc W m 2 [c1] y1 := by simpa [cells2] using hfs 1 _ rfl
    obtain ⟨u, rfl, k1⟩ := view_u8 Tryd.underlying23 h0
    obtain ⟨k, rfl, k2⟩ := view_i64 Tryd.underlying2 h1
    exact ⟨⟨u, k⟩, rfl, k1, k2⟩
/-- A value that came in. -/
theorem viewV {H : Type} {enc : TypeId × Value → H} {W : World} {base : Nat} {v : Value} {d : DataW H} {p : List MemPlace}
    (hv : Value.okWide Tryd.prog W .any base 25 v) (hd : DataW.Trod enc Tryd.prog W 0 (fun _ => true) true 25 v d p) : ∃ x : Vl, v = vV x ∧ x.ok := by
  obtain ⟨cs, rfl, hsz, _⟩ : ∃ cs, v = .agg cs ∧ cs.size = Tryd.prog.cellsOf 25 ∧ Row.okWide Tryd.prog W .any base 25 cs := by
    simpa [Value.okWide, Tryd.underlying25] using hv
  obtain ⟨fuel, hf⟩ := hd
  obtain ⟨l⟩ := cs
  obtain ⟨x, e, hx⟩ := viewC (show Trd enc W fuel 25 l (d, p) from hf)
  subst e
  exact ⟨x, rfl, hx⟩
/-- Values that came in, in a slice. -/
theorem viewL {H : Type} {enc : TypeId × Value → H} {W : World} {n : Nat} {c : Value} {y : DataW H × List MemPlace} (h : Trd enc W n 40 [c] y) (hw : ∀ v ∈ y.1.weights Tryd.prog 40, v ≤ reachBytes) : ∃ l : List Vl, VSl W l c ∧ ∀ x ∈ l, x.ok := by
  obtain ⟨ao, len, cap, rfl, hlc, hby, hr⟩ := view_row Tryd.underlying40 h hw (by rw [cells24]; omega)
  rw [bytes24] at hby
  rw [cells24] at hr
  have each : ∀ i, ∃ x : Vl, i < len → x.ok ∧ ∃ b o, ao = some ⟨b, o, none⟩ ∧ W.cell? ⟨b, o + i * 2, none⟩ = some (.int .u8 (x.ty : Int)) ∧ W.cell? ⟨b, o + i * 2 + 1, none⟩ = some (.int .i64 x.n) := fun i => by
    by_cases hi : i < len
    · obtain ⟨b, o, rfl, hc⟩ := hr.resolve_left (by omega)
      obtain ⟨l, d, m, hl, ht, hwt⟩ := hc i hi
      obtain ⟨x, rfl, hx⟩ := viewC ht
      obtain ⟨_, hcell⟩ := cells_at hl
      exact ⟨x, fun _ => ⟨hx, b, o, rfl, hcell 0 (by omega), hcell 1 (by omega)⟩⟩
    · exact ⟨⟨0, 0⟩, fun h => absurd h hi⟩
  obtain ⟨f, hf⟩ := Classical.axiomOfChoice each
  refine ⟨(List.range len).map f, ⟨ao, cap, by simp, ?_, ?_⟩, fun x hx => ?_⟩
  · unfold reachBytes at hby
    simp
    omega
  · by_cases h0 : len = 0
    · exact .inl (by simp [h0])
    · right
      obtain ⟨_, b, o, e, _⟩ := hf 0 (by omega)
      refine ⟨b, o, e, fun i hi => ?_⟩
      obtain ⟨_, b', o', e', hc⟩ := hf i (by simpa using hi)
      rw [e] at e'
      injection e' with e'
      injection e' with e1 e2 _
      subst e1 e2
      simpa using hc
  · obtain ⟨i, hi, rfl⟩ := List.mem_map.1 hx
    exact (hf i (by simpa using hi)).1
theorem viewL0 {H : Type} {enc : TypeId × Value → H} {W : World} {r : Reach} {b0 : Nat} {v : Value} {d : DataW H} {p : List MemPlace} {ts : List TypeId} {ds : List (DataW H)} {j : Nat}
    (hv : Value.okWide Tryd.prog W r b0 40 v) (h : DataW.Trod enc Tryd.prog W 0 (fun _ => true) true 40 v d p)
    (hsz : (DataW.weightsEach Tryd.prog ts ds).all (· ≤ reachBytes) = true) (ht : ts[j]? = some 40) (hj : ds[j]? = some d) : ∃ l : List Vl, VSl W l v ∧ ∀ x ∈ l, x.ok := by
  obtain ⟨a, len, cap, rfl⟩ := okWide_slice Tryd.underlying40 hv
  obtain ⟨fuel, hf⟩ := h
  have hw : ∀ v ∈ d.weights Tryd.prog 40, v ≤ reachBytes := fun v hv => by
    have := List.all_eq_true.1 hsz _ (DataW.weights_mem_each ht hj v hv)
    simpa using this
  exact viewL (show Trd enc W fuel 40 [.slice a len cap] (d, p) from hf) hw
end Go.Proofs.YtkniacdfhajogabDoor.Val
