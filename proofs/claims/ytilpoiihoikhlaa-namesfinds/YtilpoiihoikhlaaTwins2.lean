/-
  The contracts of TwinExprs and TwinExpr.
-/
import Derived.Test.YtilpoiihoikhlaaTwin
namespace Go.Proofs.Ytilpoiihoikhlaa.Lex
open Go.ChangeShapes Go.WideShapes Go.ChangeAt Go.RowKit Go.Joins
theorem Mk.done {w W W' : World} {x : Ex} {ps : List (Ex × Value)} (h : Mk w x x.args.length ps W) (hop : x.op < 256) (hn : -9223372036854775808 ≤ x.n ∧ x.n ≤ 9223372036854775807) (hnm : x.name.size ≤ 140737488355328) (hlen : x.args.length ≤ 2513169434843)
    (hr : W'.ownsRow w.heap.size 48 4 (.slice (some ⟨w.heap.size, 0, none⟩) (x.args.length + 1) (x.args.length + 1)) (x.args.length + 1) (pairsV ps ++ [.int .u8 0, .int .i64 0, .string spare, .slice none 0 0])) (hg : W.grownBy W' (some w.heap.size)) :
    Tw W' w.heap.size x (.slice (some ⟨w.heap.size, 0, none⟩) x.args.length (x.args.length + 1)) := by
  have hl := h.len
  have hf : ps.map (·.1) = x.args := by rw [h.fst, List.take_length]
  have hfst : ∀ i (hi : i < ps.length), ps[i].1 = x.args[i]'(by omega) := fun i hi => by
    have : (ps.map (·.1))[i]'(by simpa using hi) = x.args[i]'(by omega) := by simp only [hf]
    simpa using this
  refine Tw.intro x w.heap.size (x.args.length + 1) (fun i => (ps[i]?.map (·.2)).getD (.slice none 0 0)) (Nat.le_refl _) hop hn hnm hlen (by omega) (fun i hi => ?_) ?_ (fun i hi => ?_)
  · obtain ⟨q0, q1, q2, q3⟩ := pairsV_at ps [.int .u8 0, .int .i64 0, .string spare, .slice none 0 0] i (by omega)
    rw [hfst i (by omega)] at q0 q1 q2
    refine ⟨?_, ?_, ?_, ?_⟩
    · rw [hr.cellAt _ (by omega)]; exact q0
    · rw [hr.cellAt _ (by omega)]; exact q1
    · rw [hr.cellAt _ (by omega)]; exact q2
    · rw [hr.cellAt _ (by omega), q3, List.getElem?_eq_getElem (by omega)]; rfl
  · have hs : ∀ j, j < 4 → (pairsV ps ++ [.int .u8 0, .int .i64 0, .string spare, .slice none 0 0])[x.args.length * 4 + j]? = ([.int .u8 0, .int .i64 0, .string spare, .slice none 0 0] : List Value)[j]? := fun j hj => by
      rw [List.getElem?_append_right (by rw [pairsV_len]; omega), pairsV_len, hl]
      congr 1
      omega
    refine ⟨?_, ?_, ?_, ?_⟩
    · rw [hr.cellAt _ (by omega), ← Nat.add_zero (x.args.length * 4), hs 0 (by omega)]; rfl
    · rw [hr.cellAt _ (by omega), hs 1 (by omega)]; rfl
    · rw [hr.cellAt _ (by omega), hs 2 (by omega)]; rfl
    · rw [hr.cellAt _ (by omega), hs 3 (by omega)]; rfl
  · have hip : i < ps.length := by omega
    have := (h.parts ps[i] (List.getElem_mem hip)).grown hg (by omega)
    rw [hfst i hip] at this
    rw [List.getElem?_eq_getElem hip]
    exact this.low (by omega)
theorem Mk.start {w w1 : World} (x : Ex) (hown : w1.ownsRow w.heap.size 48 4 (.slice (some ⟨w.heap.size, 0, none⟩) 0 (x.args.length + 1)) 0 []) (hg : w.grownBy w1 none) : Mk w x 0 [] w1 where
  below := (Below.refl _ _).grown hg (Nat.le_refl _) (fun k hk => by cases hk)
  row := hown
  len := rfl
  fst := rfl
  parts := fun p hp => by cases hp
  size := by
    rcases hown.2 with ⟨h, _⟩ | ⟨g, c, cur, e, _, hh, _⟩
    · cases h
    · injection e with e1 _ _
      injection e1 with e1
      injection e1 with e1 _ _
      subst e1
      exact (Array.getElem?_eq_some_iff.1 hh).1
set_option maxRecDepth 100000 in
set_option maxHeartbeats 2000000 in
theorem twins (x : Ex) (ih : ∀ i (h : i < x.args.length), TwinC x.args[i]) (w : World) (s : Value) (hS : St w x s) :
    Calls Try.prog 28 #[s] w fun e w' => ∃ s', e = .returned s' ∧ Tw w' w.heap.size x s' ∧ Below w.heap.size w w' := by
  obtain ⟨ao, cap, sl, rfl, hop, hn, hnm, hlen, _, hc, hs⟩ := hS.out
  have HS := hid hs
  have HC := hid hc
  have HI := hid ih
  have HN := hid hn
  obtain ⟨i0, hi, hi0, hi1, hi2⟩ := info_parts info25'
  clear hs hc ih hS hn
  go_enter Try.func28, Try.ntmps28
  go_wp2_with (at_make; refine wpList_make_own w rfl (.const (.int .i64 0)) (.tmp 7) 46 rfl w.heap.size 48 i0 _ 4 Try.underlying46 hi hi0 hi1 .i64 .i64 _ (x.args.length + 1) rfl rfl (by omega) (by rw [hi2]; omega) (by unfold maxLen; omega) (Nat.le_refl _) ?_; intro w1 hown1 hgrow1; have M1 := hid (Mk.start x hown1 hgrow1); clear hown1 hgrow1)
  go_loopw [3, 4] (fun v i wr => ∃ (k : Nat) (ps : List (Ex × Value)), k ≤ x.args.length ∧ v = .slice (some ⟨w.heap.size, 0, none⟩) k (x.args.length + 1) ∧ i = .int .i64 (k : Int) ∧ Hid (Mk w x k ps wr)) (fun _ i _ => x.args.length - (intOf i).toNat)
  case atStart => exact ⟨0, [], Nat.zero_le _, rfl, rfl, M1⟩
  case round =>
    obtain ⟨k, ps, hk, rfl, rfl, hM⟩ := hrel
    by_cases hlt : k < x.args.length
    · have hlt' : (k : Int) < (x.args.length : Int) := by omega
      have hk0 : (0 : Int) ≤ (k : Int) := by omega
      obtain ⟨bb, o, rfl, hcc⟩ := HC.out.resolve_left (by omega)
      obtain ⟨a0, a1, a2, a3⟩ := hcc k hlt
      have v0 := cell_kept a0 hM.out.below
      have v1 := cell_kept a1 hM.out.below
      have v2 := cell_kept a2 hM.out.below
      have v3 := cell_kept a3 hM.out.below
      have c := HI.out k hlt wr (sl k) ((HS.out k hlt).keep hM.out.below)
      obtain ⟨y, hy⟩ : ∃ y, x.args[k] = y := ⟨_, rfl⟩
      rw [hy] at v0 v1 v2 c
      have HY := hid hy
      clear a0 a1 a2 a3 hcc hy
      go_wp2_with (first
        | (go_at_call 25; refine c.mono ?_; rintro e w2 ⟨s2, rfl, ht2, hb2⟩; obtain ⟨b2, c2, _, rfl, _⟩ := ht2.st.out; have T2 := hid (ht2.keep ((Below.refl _ _).alloc (Nat.le_refl _) (.cells #[.int .u8 (y.op : Int), .int .i64 y.n, .string y.name, .slice b2 y.args.length c2] 48))); have M2 := hid ((hM.out.step hb2).step ((Below.refl _ _).alloc (Nat.le_refl _) (.cells #[.int .u8 (y.op : Int), .int .i64 y.n, .string y.name, .slice b2 y.args.length c2] 48))); have N2 := hid (four_next w2 (.int .u8 (y.op : Int)) (.int .i64 y.n) (.string y.name) (.slice b2 y.args.length c2)); have SZ := hid hM.out.size; clear c ht2 hb2)
        | (at_builtin; refine wpList_append_fits _ rfl (.tmp 15) (.tmp 21) 46 rfl w.heap.size 48 i0 4 Try.underlying46 hi hi1 w.heap.size k (x.args.length + 1) (pairsV ps) rfl M2.out.row ⟨w2.heap.size, 0, none⟩ 1 1 (pairV (y, .slice b2 y.args.length c2)) rfl rfl N2.out (by simp [pairV, Value.oneCell']) (by omega) ?_; intro w4 hown4 hgrow4; have M4 := hid (M2.out.grow hlt HY.out (T2.out.low (by have := SZ.out; omega)) hown4 hgrow4); clear hown4 hgrow4))
      go_roundw
      case rel => exact ⟨k + 1, _, by omega, rfl, by go_num, M4⟩
      case measure => simp [intOf]; omega
    · have hlt' : ¬ (k : Int) < (x.args.length : Int) := by omega
      obtain rfl : k = x.args.length := by omega
      have M2 := hid (hM.out.step ((Below.refl _ _).alloc (Nat.le_refl _) (.cells #[.int .u8 0, .int .i64 0, .string spare, .slice none 0 0] 48)))
      have N2 := hid (four_next wr (.int .u8 0) (.int .i64 0) (.string spare) (.slice none 0 0))
      go_wp2_with (at_builtin; refine wpList_append_fits _ rfl (.tmp 23) (.tmp 25) 46 rfl w.heap.size 48 i0 4 Try.underlying46 hi hi1 w.heap.size x.args.length (x.args.length + 1) (pairsV ps) rfl M2.out.row ⟨wr.heap.size, 0, none⟩ 1 1 [.int .u8 0, .int .i64 0, .string spare, .slice none 0 0] rfl rfl N2.out (by simp [Value.oneCell']) (by omega) ?_; intro w4 hown4 hgrow4; have T4 := hid (M2.out.done hop HN.out hnm hlen hown4 hgrow4); have B4 := hid (M2.out.below.grown hgrow4 M2.out.below.size (fun j hj => by cases hj; exact Nat.le_refl _)); clear hown4 hgrow4)
      go_ret
      exact ⟨_, rfl, T4.out, B4.out⟩
end Go.Proofs.Ytilpoiihoikhlaa.Lex
