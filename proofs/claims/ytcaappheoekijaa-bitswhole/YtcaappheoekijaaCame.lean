/-
  How an argument of type []byte is opened; Beyond; the copy that TwinBytes makes, and whether it is left as it was made.
-/
import Derived.Test.YtcaappheoekijaaAlive
import Derived.SizedLaws
import Derived.Deep.MidRow
namespace Go.Proofs.Ytcaappheoekijaa.Bits
open Go.ChangeShapes Go.WideShapes Go.ChangeAt Go.RowKit
theorem take_snoc (l : List Int) (k : Nat) (h : k < l.length) : l.take (k + 1) = l.take k ++ [l.getD k 0] := by
  rw [List.take_succ_eq_append_getElem h]; simp [h]
/-- The sum of the first ones. -/
def sumTo (l : List Int) (k : Nat) : Int := (l.take k).sum
theorem sum_nonneg (l : List Int) (h : ∀ x ∈ l, 0 ≤ x) : 0 ≤ l.sum := by
  induction l with
  | nil => simp
  | cons a l ih =>
    have h1 := h a (by simp)
    have h2 := ih fun x hx => h x (by simp [hx])
    simp only [List.sum_cons]; omega
theorem sumTo_le (l : List Int) (k : Nat) (h : ∀ x ∈ l, 0 ≤ x) : sumTo l k ≤ l.sum := by
  have e : l.sum = (l.take k).sum + (l.drop k).sum := by rw [← List.sum_append, List.take_append_drop]
  have := sum_nonneg (l.drop k) fun x hx => h x (List.mem_of_mem_drop hx)
  unfold sumTo; omega
theorem sumTo_succ (l : List Int) (k : Nat) (h : k < l.length) : sumTo l (k + 1) = sumTo l k + l.getD k 0 := by
  unfold sumTo; rw [take_snoc l k h, List.sum_append]; simp
theorem getD_mem (l : List Int) (k : Nat) (h : k < l.length) : l.getD k 0 ∈ l := by
  simp [h]

theorem val_int {k : IntKind} {a b : Int} (h : a = b) : Value.int k a = .int k b := by rw [h]
theorem ret_true {p : Prop} [Decidable p] (h : p) : Ending.returned (.bool true) = .returned (.bool (decide p)) := by rw [decide_eq_true h]
theorem ret_false {p : Prop} [Decidable p] (h : ¬ p) : Ending.returned (.bool false) = .returned (.bool (decide p)) := by rw [decide_eq_false h]
/-- Beyond: are these sizes together above the bound? -/
theorem w9 (b o len cap : Nat) (l : List Int) (w : World) (hl : l.length = len) (hlen : len ≤ 3) (h0 : ∀ x ∈ l, 0 ≤ x ∧ x ≤ 140737488355328)
    (hc : ∀ i, i < len → w.cell? ⟨b, o + i, none⟩ = some (.int .i64 (l.getD i 0))) :
    Calls Try.prog 8 #[.slice (some ⟨b, o, none⟩) len cap] w fun e w' => (e = .returned (.bool (decide (1048576 < l.sum)))) ∧ w' = w := by
  go_enter Try.func8, Try.ntmps8
  go_wp2
  go_loop [3, 4] (fun n i => ∃ k : Nat, k ≤ len ∧ i = .int .i64 k ∧ n = .int .i64 (sumTo l k) ∧ 0 ≤ sumTo l k ∧ sumTo l k ≤ 1048576) (fun _ i => len - (intOf i).toNat)
  case atStart => exact ⟨0, Nat.zero_le _, rfl, rfl, by simp [sumTo], by simp [sumTo]⟩
  case round =>
    obtain ⟨k, hk, rfl, rfl, hp, hq⟩ := hrel
    by_cases hlt : k < len
    · have hck := hc k hlt
      have hs := sumTo_succ l k (by omega)
      have hle := sumTo_le l (k + 1) (fun x hx => (h0 x hx).1)
      obtain ⟨hz0, hz1⟩ := h0 _ (getD_mem l k (by omega))
      have HS : Hid (sumTo l (k + 1) = sumTo l k + l.getD k 0) := hs
      have HLE : Hid (sumTo l (k + 1) ≤ l.sum) := hle
      clear hs hle h0 hc
      generalize l.getD k 0 = z at hck hz0 hz1 HS
      generalize sumTo l k = t at hp hq HS
      have hlt' : (k : Int) < (len : Int) := by omega
      by_cases hbig : 1048576 < t + z
      · go_wp2
        go_ret
        have h1 := HS.out
        have h2 := HLE.out
        exact ⟨ret_true (by omega), rfl⟩
      · go_wp2
        go_round
        case rel =>
          have h1 := HS.out
          exact ⟨k + 1, by omega, by go_num, val_int h1.symm, by omega, by omega⟩
        case measure => simp [intOf]; omega
    · have e : sumTo l k = l.sum := by unfold sumTo; rw [List.take_of_length_le (by omega)]
      have HE : Hid (sumTo l k = l.sum) := e
      clear e h0 hc
      generalize sumTo l k = t at hp hq HE
      go_wp2
      go_ret
      have h1 := HE.out
      exact ⟨ret_false (by omega), rfl⟩
/-- TwinBytes: a copy in new memory, a mark in the room behind it. -/
theorem w10 (a : Option Addr) (len cap : Nat) (l : List Int) (w : World) (hE : Elems w a len l) :
    Calls Try.prog 9 #[.slice a len cap] w fun e w' => e = .returned (.slice (some ⟨w.heap.size, 0, none⟩) len (len + 1)) ∧
      w'.ownsRow w.heap.size 5 1 (.slice (some ⟨w.heap.size, 0, none⟩) (len + 1) (len + 1)) (len + 1) ((l ++ [77]).map (Value.int .u8)) ∧ Below w.heap.size w w' := by
  obtain ⟨i0, hi, hz0, hz1, hz2⟩ := info_parts info5
  have hlm : len ≤ 1048576 := hE.2.1
  go_enter Try.func9, Try.ntmps9
  go_wp2_with (at_make; refine wpList_make_own _ rfl _ _ 22 rfl w.heap.size 5 i0 (.int .u8 0) 1 Try.underlying22 hi hz0 hz1 _ _ _ (len + 1) rfl rfl (by omega) ?b2 ?b3 (Nat.le_refl _) ?_)
  case b2 => rw [hz2]; omega
  case b3 => unfold maxLen; omega
  intro w0 hown0 hgrow0
  go_wp2
  go_loopw [3, 4] (fun t i wr => ∃ k : Nat, k ≤ len ∧ i = .int .i64 k ∧ t = .slice (some ⟨w.heap.size, 0, none⟩) k (len + 1) ∧
      wr.ownsRow w.heap.size 5 1 (.slice (some ⟨w.heap.size, 0, none⟩) k (len + 1)) k ((l.take k).map (Value.int .u8)) ∧ Below w.heap.size w wr)
    (fun _ i _ => len - (intOf i).toNat)
  case atStart => exact ⟨0, Nat.zero_le _, rfl, rfl, hown0, (Below.refl _ _).grown hgrow0 (Nat.le_refl _) (fun k h => by cases h)⟩
  case round =>
    obtain ⟨k, hk, rfl, rfl, hown, hb⟩ := hrel
    obtain ⟨hl, _, hby, hcs⟩ := hE.below hb
    by_cases hlt : k < len
    · obtain ⟨b, o, rfl, hcell⟩ := hcs.resolve_left (by omega)
      have hc := hcell k hlt
      have hts := take_snoc l k (by omega)
      have HT : Hid (l.take (k + 1) = l.take k ++ [l.getD k 0]) := hts
      generalize l.getD k 0 = z at hc HT
      have hlt' : (k : Int) < (len : Int) := by omega
      clear hcell hby hts hcs hE
      go_wp2_with (at_builtin; refine wpList_append_fits _ rfl (.tmp 15) (.tmp 20) 22 rfl w.heap.size 5 i0 1 Try.underlying22 hi hz1 w.heap.size k (len + 1) _ rfl (hown.alloc _) ⟨wr.heap.size, 0, none⟩ 1 1 [.int .u8 z] rfl rfl (by intro t u ht; match t, ht with | 0, ht => simp at ht; subst ht; simp [Addr.add]) (by intro u hu; simp at hu; subst hu; rfl) (by omega) ?_; intro w1 hown1 hgrow1)
      go_roundw
      case rel => exact ⟨k + 1, by omega, by go_num, rfl, by rw [HT.out, List.map_append]; exact hown1, (hb.alloc hb.size _).grown hgrow1 (by simp; have := hb.size; omega) (fun k hk => by cases hk; exact Nat.le_refl _)⟩
      case measure => simp [intOf]; omega
    · have hkl : k = len := by omega
      subst hkl
      have e : l.take k = l := List.take_of_length_le (by omega)
      rw [e] at hown
      clear hby hcs hE e
      go_wp2_with (at_builtin; refine wpList_append_fits _ rfl (.tmp 22) (.tmp 23) 22 rfl w.heap.size 5 i0 1 Try.underlying22 hi hz1 w.heap.size k (k + 1) _ rfl (hown.alloc _) ⟨wr.heap.size, 0, none⟩ 1 1 [.int .u8 77] rfl rfl (by intro t u ht; match t, ht with | 0, ht => simp at ht; subst ht; simp [Addr.add]) (by intro u hu; simp at hu; subst hu; rfl) (by omega) ?_; intro w1 hown1 hgrow1)
      go_ret
      exact ⟨rfl, by rw [List.map_append]; exact hown1, (hb.alloc hb.size _).grown hgrow1 (by simp; have := hb.size; omega) (fun k hk => by cases hk; exact Nat.le_refl _)⟩

/-- LeftBytes: the copy is as it was made, the mark behind it too. -/
theorem w15 (g : Nat) (a : Option Addr) (len cap : Nat) (l : List Int) (w : World) (hE : Elems w a len l)
    (hg : ∀ i, i < len → w.cell? ⟨g, i, none⟩ = some (.int .u8 (l.getD i 0))) (hm : w.cell? ⟨g, len, none⟩ = some (.int .u8 77)) :
    Calls Try.prog 12 #[.slice (some ⟨g, 0, none⟩) len (len + 1), .slice a len cap] w fun e w' => e = .returned (.bool true) ∧ ∃ n, w' = w.drewN n := by
  have hlm : len ≤ 1048576 := hE.2.1
  have hne : ((len : Int) != (len : Int)) = false := by simp
  go_enter Try.func12, Try.ntmps12
  go_wp2
  go_loopw [5] (fun i wr => ∃ k n : Nat, k ≤ len ∧ i = .int .i64 k ∧ wr = w.drewN n) (fun i _ => len - (intOf i).toNat)
  case atStart => exact ⟨0, 0, Nat.zero_le _, rfl, rfl⟩
  case round =>
    obtain ⟨k, n, hk, rfl, rfl⟩ := hrel
    obtain ⟨hl, _, hby, hcs⟩ := hE
    by_cases hlt : k < len
    · obtain ⟨b, o, rfl, hcell⟩ := hcs.resolve_left (by omega)
      have hc := hcell k hlt
      have hgk := hg k hlt
      generalize l.getD k 0 = z at hc hgk
      have hlt' : (k : Int) < (len : Int) := by omega
      have hk0 : (0 : Int) ≤ (k : Int) := by omega
      clear hcell hby hcs hg
      go_wp2
      go_quiet (fail)
      go_wp2
      go_roundw
      case rel => exact ⟨k + 1, n + nq, by omega, by go_num, rfl⟩
      case measure => simp [intOf]; omega
    · go_wp2
      go_ret
      exact ⟨rfl, n, rfl⟩

/-- What the copy owns, cell by cell. -/
theorem own_cell {w : World} {B g n cap : Nat} {l : List Int} (h : w.ownsRow B 5 1 (.slice (some ⟨g, 0, none⟩) n cap) n (l.map (Value.int .u8))) (i : Nat) (hi : i < l.length) :
    w.cell? ⟨g, i, none⟩ = some (.int .u8 (l.getD i 0)) := by
  obtain ⟨h1, h2⟩ := h
  rcases h2 with ⟨h2, _⟩ | ⟨g', cap', cur, hv, hg, hh, hn, hm, hs, ht⟩
  · cases h2
  · simp only [Value.slice.injEq, Option.some.injEq, Addr.mk.injEq, and_true, true_and] at hv
    obtain ⟨rfl, rfl⟩ := hv
    rw [cell_of_row w g i cur 5 (0, 0) hh]
    have e : (cur.toList.take (n * 1))[i]? = some (.int .u8 (l.getD i 0)) := by rw [ht]; simp [hi]
    rw [List.getElem?_take] at e
    split at e
    · simpa using e
    · cases e
theorem getD_append_left (l : List Int) (z : Int) (i : Nat) (h : i < l.length) : (l ++ [z]).getD i 0 = l.getD i 0 := by
  simp [List.getElem?_append_left h]
theorem getD_append_last (l : List Int) (z : Int) : (l ++ [z]).getD l.length 0 = z := by simp
theorem ownGo : ownKnob Try.prog.godebug = none := by kernel_rfl
theorem laidOut : laidOutB Try.prog = true := by kernel_rfl
theorem bytesOf5 : Try.prog.bytesOf 5 = 1 := by kernel_rfl
theorem cells5 : Try.prog.cellsOf 5 = 1 := by kernel_rfl
/-- A slice of bytes that came in: its elements; they lie within the form's own reach. -/
def Came (w : World) (a : Option Addr) (len : Nat) (l : List Int) : Prop :=
  l.length = len ∧ len ≤ 140737488351232 ∧ (∀ i, i < len → 0 ≤ l.getD i 0 ∧ l.getD i 0 < 256) ∧ (len = 0 ∨ ∃ b o, a = some ⟨b, o, none⟩ ∧ ∀ i, i < len → w.cell? ⟨b, o + i, none⟩ = some (.int .u8 (l.getD i 0)))
theorem Came.elems {w : World} {a : Option Addr} {len : Nat} {l : List Int} (h : Came w a len l) (hn : len ≤ 1048576) : Elems w a len l := ⟨h.1, hn, h.2.2⟩
theorem Came.below {w w' : World} {a : Option Addr} {len : Nat} {l : List Int} (h : Came w a len l) (hb : Below w.heap.size w w') : Came w' a len l := by
  obtain ⟨h1, h2, h3, h4⟩ := h
  refine ⟨h1, h2, h3, ?_⟩
  rcases h4 with h4 | ⟨b, o, ha, hc⟩
  · exact .inl h4
  · exact .inr ⟨b, o, ha, fun i hi => by rw [hb.cell (World.block_lt_of_cell? w _ (hc i hi))]; exact hc i hi⟩
theorem byte_wf {n : Int} (h : (Lit.int .u8 n).wf = true) : 0 ≤ n ∧ n < 256 := by
  simp [Lit.wf, IntKind.min, IntKind.max, IntKind.signed, IntKind.bits] at h
  omega
/-- An argument of type []byte, opened once. -/
theorem view {H : Type} {enc : TypeId × Value → H} {W : World} {a0 : Option Addr} {len cap : Nat} {d : DataW H} {p : List MemPlace} {ts : List TypeId} {ds : List (DataW H)} {j : Nat}
    (hd : DataW.Trod enc Try.prog W 0 (fun _ => true) true 22 (.slice a0 len cap) d p)
    (hsz : (DataW.weightsEach Try.prog ts ds).all (· ≤ reachBytes) = true) (ht : ts[j]? = some 22) (hj : ds[j]? = some d) : ∃ l, Came W a0 len l := by
  obtain ⟨fuel, hf⟩ := hd
  rcases open_ints Try.underlying22 Try.underlying5 cells5 hf with ⟨hcs, hx⟩ | ⟨a, len', cap', zs, hcs, _, hl, hm, hz, hx, hcell, hwz⟩
  · simp [Value.cells] at hcs
    obtain ⟨rfl, rfl, rfl⟩ := hcs
    exact ⟨[], rfl, by omega, fun i hi => by omega, .inl rfl⟩
  · simp [Value.cells] at hcs
    obtain ⟨rfl, rfl, rfl⟩ := hcs
    simp only [Prod.mk.injEq] at hx
    obtain ⟨rfl, _⟩ := hx
    simp only [if_true] at hz
    have hr := sized_slice hsz ht hj Try.underlying22
    rw [bytesOf5] at hr
    simp only [lits, List.length_map, List.length_take, List.length_drop, reachBytes] at hr
    have hg : ∀ i, i < len → (zs.take len).getD i 0 = zs.getD i 0 := fun i hi => by simp [List.getD, hi]
    refine ⟨zs.take len, by simp; omega, by omega, fun i hi => ?_, ?_⟩
    · rw [hg i hi]
      exact byte_wf (hwz _ (getD_mem zs i (by omega)))
    · by_cases h0 : len = 0
      · exact .inl h0
      · obtain ⟨b, o, sp⟩ := a
        have hsp : sp = none := by simpa [Addr.add] using World.cell?_spot (hcell 0 (by omega))
        subst hsp
        refine .inr ⟨b, o, rfl, fun i hi => ?_⟩
        rw [hg i hi, ← Addr.add_mid]
        exact hcell i (by omega)
/-- Beyond of sizes that are too much, and of sizes that are not. -/
theorem beyond_yes (b len cap : Nat) (l : List Int) (w : World) (hl : l.length = len) (hlen : len ≤ 3) (h0 : ∀ x ∈ l, 0 ≤ x ∧ x ≤ 140737488355328) (hc : ∀ i, i < len → w.cell? ⟨b, 0 + i, none⟩ = some (.int .i64 (l.getD i 0))) (hs : 1048576 < l.sum) :
    Calls Try.prog 8 #[.slice (some ⟨b, 0, none⟩) len cap] w fun e w' => e = .returned (.bool true) ∧ w' = w :=
  (w9 b 0 len cap l w hl hlen h0 hc).mono fun e w' ⟨h1, h2⟩ => ⟨by rw [h1, decide_eq_true hs], h2⟩
theorem beyond_no (b len cap : Nat) (l : List Int) (w : World) (hl : l.length = len) (hlen : len ≤ 3) (h0 : ∀ x ∈ l, 0 ≤ x ∧ x ≤ 140737488355328) (hc : ∀ i, i < len → w.cell? ⟨b, 0 + i, none⟩ = some (.int .i64 (l.getD i 0))) (hs : l.sum ≤ 1048576) :
    Calls Try.prog 8 #[.slice (some ⟨b, 0, none⟩) len cap] w fun e w' => e = .returned (.bool false) ∧ w' = w :=
  (w9 b 0 len cap l w hl hlen h0 hc).mono fun e w' ⟨h1, h2⟩ => ⟨by rw [h1, decide_eq_false (by omega)], h2⟩
/-- The copy that TwinBytes made, in block g: its bytes, the mark behind them, none of them frozen. -/
structure Copy (w : World) (g len : Nat) (l : List Int) : Prop where
  cells : ∀ i, i < len → w.cell? ⟨g, i, none⟩ = some (.int .u8 (l.getD i 0))
  mark : w.cell? ⟨g, len, none⟩ = some (.int .u8 77)
  free : ∀ i, i < len + 1 → w.frozen? ⟨g, i, none⟩ = false
theorem Copy.elems {w w0 : World} {g len : Nat} {a : Option Addr} {l : List Int} (h : Copy w g len l) (hE : Elems w0 a len l) : Elems w (some ⟨g, 0, none⟩) len l :=
  ⟨hE.1, hE.2.1, hE.2.2.1, .inr ⟨g, 0, rfl, fun i hi => by rw [Nat.zero_add]; exact h.cells i hi⟩⟩
theorem Copy.below {w w' : World} {g len B : Nat} {l : List Int} (h : Copy w g len l) (hb : Below B w w') (hB : w.heap.size ≤ B) : Copy w' g len l := by
  have hg := World.block_lt_of_cell? w _ h.mark
  have hg' : g < w.heap.size := hg
  refine ⟨fun i hi => ?_, ?_, fun i hi => ?_⟩
  · rw [hb.cell (p := ⟨g, i, none⟩) (by show g < B; omega)]; exact h.cells i hi
  · rw [hb.cell (p := ⟨g, len, none⟩) (by show g < B; omega)]; exact h.mark
  · rw [hb.frozen (p := ⟨g, i, none⟩) (by show g < B; omega)]; exact h.free i hi
theorem twin (a : Option Addr) (len cap : Nat) (l : List Int) (w : World) (g : Nat) (hg : w.heap.size = g) (hE : Elems w a len l) :
    Calls Try.prog 9 #[.slice a len cap] w fun e w' => e = .returned (.slice (some ⟨g, 0, none⟩) len (len + 1)) ∧ Copy w' g len l ∧ Below g w w' := by
  subst hg
  refine (w10 a len cap l w hE).mono ?_
  rintro e w' ⟨he, hown, hb⟩
  have hl := hE.1
  refine ⟨he, ⟨fun i hi => ?_, ?_, fun i hi => ?_⟩, hb⟩
  · rw [own_cell hown i (by simp; omega), getD_append_left l 77 i (by omega)]
  · rw [own_cell hown len (by simp; omega), ← hl, getD_append_last]
  · obtain ⟨_, h2⟩ := hown
    rcases h2 with ⟨h2, _⟩ | ⟨g', cap', cur, hv, _, hh, _⟩
    · cases h2
    · simp only [Value.slice.injEq, Option.some.injEq, Addr.mk.injEq, and_true, true_and] at hv
      obtain ⟨rfl, rfl⟩ := hv
      exact frozen_of_row _ _ _ _ _ hh
theorem left (g : Nat) (a : Option Addr) (len cap : Nat) (l : List Int) (w : World) (hE : Elems w a len l) (hc : Copy w g len l) :
    Calls Try.prog 12 #[.slice (some ⟨g, 0, none⟩) len (len + 1), .slice a len cap] w fun e w' => e = .returned (.bool true) ∧ Below w.heap.size w w' :=
  (w15 g a len cap l w hE hc.cells hc.mark).mono fun e w' ⟨h1, n, h2⟩ => ⟨h1, by rw [h2]; exact below_drewN (Below.refl _ _) n⟩
theorem one_size (n : Nat) (h : n ≤ 140737488351232) : ∀ x ∈ [(n : Int)], 0 ≤ x ∧ x ≤ 140737488355328 := by simp; omega
theorem one_cell (w : World) (n : Nat) : ∀ i, i < 1 → (w.alloc (.cells #[.int .i64 (n : Int)] 3)).cell? ⟨w.heap.size, 0 + i, none⟩ = some (.int .i64 ([(n : Int)].getD i 0)) := by
  intro i hi
  obtain rfl : i = 0 := by omega
  simp
end Go.Proofs.Ytcaappheoekijaa.Bits
