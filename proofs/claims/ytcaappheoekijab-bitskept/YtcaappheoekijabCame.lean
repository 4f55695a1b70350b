/-
  How an argument of type []byte is opened; the copy that TwinBytes makes.
-/
import Derived.Test.YtcaappheoekijabAlive
import Derived.SizedLaws
import Derived.Deep.MidRow
namespace Go.Proofs.Ytcaappheoekijab.Bits
open Go.ChangeShapes Go.WideShapes Go.ChangeAt Go.RowKit
theorem take_snoc (l : List Int) (k : Nat) (h : k < l.length) : l.take (k + 1) = l.take k ++ [l.getD k 0] := by
  rw [List.take_succ_eq_append_getElem h]; simp [h]
theorem getD_mem (l : List Int) (k : Nat) (h : k < l.length) : l.getD k 0 ∈ l := by
  simp [h]

theorem val_int {k : IntKind} {a b : Int} (h : a = b) : Value.int k a = .int k b := by rw [h]
/-- TwinBytes: a copy in new memory, a mark in the room behind it. -/
theorem w10 (a : Option Addr) (len cap : Nat) (l : List Int) (w : World) (hE : Elems w a len l) :
    Calls Try.prog 11 #[.slice a len cap] w fun e w' => e = .returned (.slice (some ⟨w.heap.size, 0, none⟩) len (len + 1)) ∧
      w'.ownsRow w.heap.size 5 1 (.slice (some ⟨w.heap.size, 0, none⟩) (len + 1) (len + 1)) (len + 1) ((l ++ [77]).map (Value.int .u8)) ∧ Below w.heap.size w w' := by
  obtain ⟨i0, hi, hz0, hz1, hz2⟩ := info_parts info5
  have hlm : len ≤ 1048576 := hE.2.1
  go_enter Try.func11, Try.ntmps11
  go_wp2_with (at_make; refine wpList_make_own _ rfl _ _ 31 rfl w.heap.size 5 i0 (.int .u8 0) 1 Try.underlying31 hi hz0 hz1 _ _ _ (len + 1) rfl rfl (by omega) ?b2 ?b3 (Nat.le_refl _) ?_)
  case b2 => rw [hz2]; omega
  case b3 => unfold maxLen; omega
  intro w0 hown0 hgrow0
  go_wp2
  go_loopw [3, 4] (fun t i wr => ∃ k : Nat, k ≤ len ∧ i = .int .i64 k ∧ t = .slice (some ⟨w.heap.size, 0, none⟩) k (len + 1) ∧
      wr.ownsRow w.heap.size 5 1 (.slice (some ⟨w.heap.size, 0, none⟩) k (len + 1)) k ((l.take k).map (Value.int .u8)) ∧ Below w.heap.size w wr)
    (fun _ i _ => len - (intOf i).toNat)
  case atStart => exact ⟨0, Nat.zero_le _, rfl, rfl, hown0, (Below.refl _ _).grown hgrow0 (Nat.le_refl _) (fun k h => by cases h)⟩
  case round =>
    obtain ⟨k, hk, rfl, rfl, hown, hb⟩ := hrel
    obtain ⟨hl, _, hby, hcs⟩ := hE.below hb
    by_cases hlt : k < len
    · obtain ⟨b, o, rfl, hcell⟩ := hcs.resolve_left (by omega)
      have hc := hcell k hlt
      have hts := take_snoc l k (by omega)
      have HT : Hid (l.take (k + 1) = l.take k ++ [l.getD k 0]) := hts
      generalize l.getD k 0 = z at hc HT
      have hlt' : (k : Int) < (len : Int) := by omega
      clear hcell hby hts hcs hE
      go_wp2_with (at_builtin; refine wpList_append_fits _ rfl (.tmp 15) (.tmp 20) 31 rfl w.heap.size 5 i0 1 Try.underlying31 hi hz1 w.heap.size k (len + 1) _ rfl (hown.alloc _) ⟨wr.heap.size, 0, none⟩ 1 1 [.int .u8 z] rfl rfl (by intro t u ht; match t, ht with | 0, ht => simp at ht; subst ht; simp [Addr.add]) (by intro u hu; simp at hu; subst hu; rfl) (by omega) ?_; intro w1 hown1 hgrow1)
      go_roundw
      case rel => exact ⟨k + 1, by omega, by go_num, rfl, by rw [HT.out, List.map_append]; exact hown1, (hb.alloc hb.size _).grown hgrow1 (by simp; have := hb.size; omega) (fun k hk => by cases hk; exact Nat.le_refl _)⟩
      case measure => simp [intOf]; omega
    · have hkl : k = len := by omega
      subst hkl
      have e : l.take k = l := List.take_of_length_le (by omega)
      rw [e] at hown
      clear hby hcs hE e
      go_wp2_with (at_builtin; refine wpList_append_fits _ rfl (.tmp 22) (.tmp 23) 31 rfl w.heap.size 5 i0 1 Try.underlying31 hi hz1 w.heap.size k (k + 1) _ rfl (hown.alloc _) ⟨wr.heap.size, 0, none⟩ 1 1 [.int .u8 77] rfl rfl (by intro t u ht; match t, ht with | 0, ht => simp at ht; subst ht; simp [Addr.add]) (by intro u hu; simp at hu; subst hu; rfl) (by omega) ?_; intro w1 hown1 hgrow1)
      go_ret
      exact ⟨rfl, by rw [List.map_append]; exact hown1, (hb.alloc hb.size _).grown hgrow1 (by simp; have := hb.size; omega) (fun k hk => by cases hk; exact Nat.le_refl _)⟩

/-- What the copy owns, cell by cell. -/
theorem own_cell {w : World} {B g n cap : Nat} {l : List Int} (h : w.ownsRow B 5 1 (.slice (some ⟨g, 0, none⟩) n cap) n (l.map (Value.int .u8))) (i : Nat) (hi : i < l.length) :
    w.cell? ⟨g, i, none⟩ = some (.int .u8 (l.getD i 0)) := by
  obtain ⟨h1, h2⟩ := h
  rcases h2 with ⟨h2, _⟩ | ⟨g', cap', cur, hv, hg, hh, hn, hm, hs, ht⟩
  · cases h2
  · simp only [Value.slice.injEq, Option.some.injEq, Addr.mk.injEq, and_true, true_and] at hv
    obtain ⟨rfl, rfl⟩ := hv
    rw [cell_of_row w g i cur 5 (0, 0) hh]
    have e : (cur.toList.take (n * 1))[i]? = some (.int .u8 (l.getD i 0)) := by rw [ht]; simp [hi]
    rw [List.getElem?_take] at e
    split at e
    · simpa using e
    · cases e
theorem getD_append_left (l : List Int) (z : Int) (i : Nat) (h : i < l.length) : (l ++ [z]).getD i 0 = l.getD i 0 := by
  simp [List.getElem?_append_left h]
theorem getD_append_last (l : List Int) (z : Int) : (l ++ [z]).getD l.length 0 = z := by simp
theorem ownGo : ownKnob Try.prog.godebug = none := by kernel_rfl
theorem laidOut : laidOutB Try.prog = true := by kernel_rfl
theorem bytesOf5 : Try.prog.bytesOf 5 = 1 := by kernel_rfl
theorem cells5 : Try.prog.cellsOf 5 = 1 := by kernel_rfl
/-- A slice of bytes that came in: its elements; they lie within the form's own reach. -/
def Came (w : World) (a : Option Addr) (len : Nat) (l : List Int) : Prop :=
  l.length = len ∧ len ≤ 140737488351232 ∧ (∀ i, i < len → 0 ≤ l.getD i 0 ∧ l.getD i 0 < 256) ∧ (len = 0 ∨ ∃ b o, a = some ⟨b, o, none⟩ ∧ ∀ i, i < len → w.cell? ⟨b, o + i, none⟩ = some (.int .u8 (l.getD i 0)))
theorem Came.elems {w : World} {a : Option Addr} {len : Nat} {l : List Int} (h : Came w a len l) (hn : len ≤ 1048576) : Elems w a len l := ⟨h.1, hn, h.2.2⟩
theorem Came.below {w w' : World} {a : Option Addr} {len : Nat} {l : List Int} (h : Came w a len l) (hb : Below w.heap.size w w') : Came w' a len l := by
  obtain ⟨h1, h2, h3, h4⟩ := h
  refine ⟨h1, h2, h3, ?_⟩
  rcases h4 with h4 | ⟨b, o, ha, hc⟩
  · exact .inl h4
  · exact .inr ⟨b, o, ha, fun i hi => by rw [hb.cell (World.block_lt_of_cell? w _ (hc i hi))]; exact hc i hi⟩
theorem byte_wf {n : Int} (h : (Lit.int .u8 n).wf = true) : 0 ≤ n ∧ n < 256 := by
  simp [Lit.wf, IntKind.min, IntKind.max, IntKind.signed, IntKind.bits] at h
  omega
/-- An argument of type []byte, opened once. -/
theorem view {H : Type} {enc : TypeId × Value → H} {W : World} {a0 : Option Addr} {len cap : Nat} {d : DataW H} {p : List MemPlace} {ts : List TypeId} {ds : List (DataW H)} {j : Nat}
    (hd : DataW.Trod enc Try.prog W 0 (fun _ => true) true 31 (.slice a0 len cap) d p)
    (hsz : (DataW.weightsEach Try.prog ts ds).all (· ≤ reachBytes) = true) (ht : ts[j]? = some 31) (hj : ds[j]? = some d) : ∃ l, Came W a0 len l := by
  obtain ⟨fuel, hf⟩ := hd
  rcases open_ints Try.underlying31 Try.underlying5 cells5 hf with ⟨hcs, hx⟩ | ⟨a, len', cap', zs, hcs, _, hl, hm, hz, hx, hcell, hwz⟩
  · simp [Value.cells] at hcs
    obtain ⟨rfl, rfl, rfl⟩ := hcs
    exact ⟨[], rfl, by omega, fun i hi => by omega, .inl rfl⟩
  · simp [Value.cells] at hcs
    obtain ⟨rfl, rfl, rfl⟩ := hcs
    simp only [Prod.mk.injEq] at hx
    obtain ⟨rfl, _⟩ := hx
    simp only [if_true] at hz
    have hr := sized_slice hsz ht hj Try.underlying31
    rw [bytesOf5] at hr
    simp only [lits, List.length_map, List.length_take, List.length_drop, reachBytes] at hr
    have hg : ∀ i, i < len → (zs.take len).getD i 0 = zs.getD i 0 := fun i hi => by simp [List.getD, hi]
    refine ⟨zs.take len, by simp; omega, by omega, fun i hi => ?_, ?_⟩
    · rw [hg i hi]
      exact byte_wf (hwz _ (getD_mem zs i (by omega)))
    · by_cases h0 : len = 0
      · exact .inl h0
      · obtain ⟨b, o, sp⟩ := a
        have hsp : sp = none := by simpa [Addr.add] using World.cell?_spot (hcell 0 (by omega))
        subst hsp
        refine .inr ⟨b, o, rfl, fun i hi => ?_⟩
        rw [hg i hi, ← Addr.add_mid]
        exact hcell i (by omega)
/-- The copy that TwinBytes made, in block g: its bytes, the mark behind them, none of them frozen. -/
structure Copy (w : World) (g len : Nat) (l : List Int) : Prop where
  cells : ∀ i, i < len → w.cell? ⟨g, i, none⟩ = some (.int .u8 (l.getD i 0))
  mark : w.cell? ⟨g, len, none⟩ = some (.int .u8 77)
  free : ∀ i, i < len + 1 → w.frozen? ⟨g, i, none⟩ = false
theorem Copy.elems {w w0 : World} {g len : Nat} {a : Option Addr} {l : List Int} (h : Copy w g len l) (hE : Elems w0 a len l) : Elems w (some ⟨g, 0, none⟩) len l :=
  ⟨hE.1, hE.2.1, hE.2.2.1, .inr ⟨g, 0, rfl, fun i hi => by rw [Nat.zero_add]; exact h.cells i hi⟩⟩
theorem Copy.below {w w' : World} {g len B : Nat} {l : List Int} (h : Copy w g len l) (hb : Below B w w') (hB : w.heap.size ≤ B) : Copy w' g len l := by
  have hg := World.block_lt_of_cell? w _ h.mark
  have hg' : g < w.heap.size := hg
  refine ⟨fun i hi => ?_, ?_, fun i hi => ?_⟩
  · rw [hb.cell (p := ⟨g, i, none⟩) (by show g < B; omega)]; exact h.cells i hi
  · rw [hb.cell (p := ⟨g, len, none⟩) (by show g < B; omega)]; exact h.mark
  · rw [hb.frozen (p := ⟨g, i, none⟩) (by show g < B; omega)]; exact h.free i hi
theorem twin (a : Option Addr) (len cap : Nat) (l : List Int) (w : World) (g : Nat) (hg : w.heap.size = g) (hE : Elems w a len l) :
    Calls Try.prog 11 #[.slice a len cap] w fun e w' => e = .returned (.slice (some ⟨g, 0, none⟩) len (len + 1)) ∧ Copy w' g len l ∧ Below g w w' := by
  subst hg
  refine (w10 a len cap l w hE).mono ?_
  rintro e w' ⟨he, hown, hb⟩
  have hl := hE.1
  refine ⟨he, ⟨fun i hi => ?_, ?_, fun i hi => ?_⟩, hb⟩
  · rw [own_cell hown i (by simp; omega), getD_append_left l 77 i (by omega)]
  · rw [own_cell hown len (by simp; omega), ← hl, getD_append_last]
  · obtain ⟨_, h2⟩ := hown
    rcases h2 with ⟨h2, _⟩ | ⟨g', cap', cur, hv, _, hh, _⟩
    · cases h2
    · simp only [Value.slice.injEq, Option.some.injEq, Addr.mk.injEq, and_true, true_and] at hv
      obtain ⟨rfl, rfl⟩ := hv
      exact frozen_of_row _ _ _ _ _ hh
end Go.Proofs.Ytcaappheoekijab.Bits
