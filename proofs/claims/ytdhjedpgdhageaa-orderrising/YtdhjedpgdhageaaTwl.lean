/-
  Twins of lists.
-/
import Derived.Test.YtdhjedpgdhageaaTwn
namespace Go.Proofs.Ytdhjedpgdhageaa.Ord
open Go.ChangeShapes Go.WideShapes Go.ChangeAt Go.RowKit Go.Joins
/-- Lists in memory of their own: the outer row, the rows, each in a block of its own. -/
structure TG (W wr : World) (v : Value) (ys : List Value) (l : List (List Int)) : Prop where
  own : wr.ownsRow W.heap.size 25 1 v l.length ys
  rows : ∀ i, i < l.length → ∃ y, ys[i]? = some y ∧ Row wr W.heap.size y (l.getD i [])
  ap : ∀ (i j : Nat) (y z : Value) (g : Nat), i ≠ j → ys[i]? = some y → ys[j]? = some z → y.ownBlock = some g → z.ownBlock ≠ some g
  below : Below W.heap.size W wr
theorem TG.start (W : World) : TG W W (.slice none 0 0) [] [] := ⟨⟨rfl, .inl ⟨rfl, rfl⟩⟩, fun i hi => by simp at hi, fun i j y z g _ e => by simp at e, Below.refl _ _⟩
/-- The outer row's block is no row's. -/
theorem TG.off {W wr : World} {v : Value} {ys : List Value} {l : List (List Int)} (h : TG W wr v ys l) {i : Nat} (hi : i < l.length) {y : Value} (hy : ys[i]? = some y) {g : Nat} (hv : v.ownBlock = some g) : y.ownBlock ≠ some g := fun e => by
  obtain ⟨y', h1, h2⟩ := h.rows i hi
  rw [hy] at h1
  injection h1 with h1
  subst h1
  obtain ⟨_, ⟨e1, _⟩ | ⟨g1, c1, cur1, e1, _, r1, _⟩⟩ := h.own
  · rw [e1] at hv; cases hv
  · obtain ⟨_, ⟨e2, _⟩ | ⟨g2, c2, cur2, e2, _, r2, _⟩⟩ := h2
    · rw [e2] at e; cases e
    · rw [e1] at hv
      rw [e2] at e
      have a1 : g1 = g := by simpa [Value.ownBlock] using hv
      have a2 : g2 = g := by simpa [Value.ownBlock] using e
      rw [a1] at r1
      rw [a2, r1] at r2
      simp at r2
theorem TG.len {W wr : World} {v : Value} {ys : List Value} {l : List (List Int)} (h : TG W wr v ys l) : ys.length = l.length := by have := h.own.1; omega
/-- One list more. -/
theorem TG.grow {W wr w1 w2 : World} {v y : Value} {ys : List Value} {l : List (List Int)} {r : List Int} {g cap : Nat} {o : Obj} (h : TG W wr v ys l) (hy : RG wr w1 y r)
    (hown : w2.ownsRow W.heap.size 25 1 (.slice (some ⟨g, 0, none⟩) (l.length + 1) cap) (l.length + 1) (ys ++ [y])) (hg : (w1.alloc o).grownBy w2 v.ownBlock) : TG W w2 (.slice (some ⟨g, 0, none⟩) (l.length + 1) cap) (ys ++ [y]) (l ++ [r]) := by
  have hlen : (l ++ [r]).length = l.length + 1 := by simp
  have hb1 : Below wr.heap.size wr (w1.alloc o) := hy.below.alloc hy.below.size o
  have hys := h.len
  have hvlt : ∀ j, v.ownBlock = some j → W.heap.size ≤ j ∧ j < wr.heap.size := fun j e => own_lo h.own j e
  have hyne : ∀ j, v.ownBlock = some j → y.ownBlock ≠ some j := fun j e e2 => by have h1 := (hy.row.lo j e2).1; have h2 := (hvlt j e).2; omega
  refine ⟨by rw [hlen]; exact hown, fun i hi => ?_, fun i j a b gg hij ha hb e => ?_, ((h.below.trans (hb1.mono h.below.size))).grown hg (Nat.le_trans h.below.size hb1.size) (fun j e => (hvlt j e).1)⟩
  · by_cases e : i < l.length
    · obtain ⟨a, h1, h2⟩ := h.rows i e
      refine ⟨a, by rw [List.getElem?_append_left (by omega)]; exact h1, ?_⟩
      have e3 : (l ++ [r]).getD i [] = l.getD i [] := by simp [List.getElem?_append_left e]
      rw [e3]
      exact (h2.below hb1).grown hg (fun b hb e4 => h.off e h1 e4 hb)
    · obtain rfl : i = l.length := by omega
      refine ⟨y, by rw [← hys]; simp, ?_⟩
      have e3 : (l ++ [r]).getD l.length [] = r := by simp
      rw [e3]
      exact (((hy.row.below ((Below.refl _ _).alloc (Nat.le_refl _) o)).grown hg (fun b hb e4 => hyne b e4 hb))).down h.below.size
  · have old : ∀ k a, k < l.length → (ys ++ [y])[k]? = some a → ys[k]? = some a := fun k a hk e => by rwa [List.getElem?_append_left (by omega)] at e
    have new : ∀ k a, ¬ k < l.length → (ys ++ [y])[k]? = some a → k = l.length ∧ a = y := fun k a hk e => by
      have hk2 : k < (ys ++ [y]).length := (List.getElem?_eq_some_iff.1 e).1
      rw [List.length_append, List.length_singleton] at hk2
      obtain rfl : k = ys.length := by omega
      rw [List.getElem?_append_right (Nat.le_refl _)] at e
      simp at e
      exact ⟨hys, e.symm⟩
    have lt_of : ∀ k a, k < l.length → ys[k]? = some a → ∀ gg, a.ownBlock = some gg → gg < wr.heap.size := fun k a hk e gg h1 => by
      obtain ⟨a', h2, h3⟩ := h.rows k hk
      rw [e] at h2
      injection h2 with h2
      subst h2
      exact (h3.lo gg h1).2
    by_cases hi : i < l.length
    · have ha' := old i a hi ha
      by_cases hj : j < l.length
      · exact h.ap i j a b gg hij ha' (old j b hj hb) e
      · obtain ⟨_, rfl⟩ := new j b hj hb
        intro e2
        have h1 := (hy.row.lo gg e2).1
        have h2 := lt_of i a hi ha' gg e
        omega
    · obtain ⟨hi2, rfl⟩ := new i a hi ha
      by_cases hj : j < l.length
      · intro e2
        have h1 := (hy.row.lo gg e).1
        have h2 := lt_of j b hj (old j b hj hb) gg e2
        omega
      · obtain ⟨hj2, _⟩ := new j b hj hb
        omega
theorem take_gd (l : List (List Int)) (k : Nat) (h : k < l.length) : l.take (k + 1) = l.take k ++ [l.getD k []] := by
  rw [List.take_add_one, List.getElem?_eq_getElem h]
  simp [h]
set_option maxRecDepth 100000 in
set_option maxHeartbeats 1000000 in
theorem twin_lists (W : World) (vl : Value) (l : List (List Int)) (h : LL W W.heap.size vl l) (hl : l.length ≤ 1048576) (hr : ∀ k, k < l.length → (l.getD k []).length ≤ 1048576) : Calls Try.prog 11 #[vl] W fun e w' => ∃ v ys, e = .returned v ∧ TG W w' v ys l := by
  obtain ⟨i0, hi, hz0, hz1, hz2⟩ := info_parts inf25
  have HL := hid h
  obtain ⟨ao, c, rfl, hle, hcc, _⟩ := h
  have HR := hid hr
  clear hr
  go_enter Try.func11, Try.ntmps11
  go_wp2_with (fail)
  go_loopw [3, 4] (fun s3 s4 wr => ∃ (k : Nat) (ys : List Value), k ≤ l.length ∧ s4 = .int .i64 (k : Int) ∧ Hid (TG W wr s3 ys (l.take k))) (fun _ s4 _ => l.length - (intOf s4).toNat)
  case atStart => exact ⟨0, [], by omega, rfl, hid (TG.start W)⟩
  case round =>
    obtain ⟨k, ys, hk, rfl, HK⟩ := hrel
    have htl : (l.take k).length = k := by rw [List.length_take]; omega
    obtain ⟨sa, sc, hs⟩ := own_form HK.out.own
    rw [htl] at hs
    subst hs
    have HRW : Hid (wr.ownsRow W.heap.size 25 1 (.slice sa k sc) k ys) := hid (by have := HK.out.own; rw [htl] at this; exact this)
    have hsz := HK.out.below.size
    have HTL := hid htl
    clear htl
    by_cases hlt : k < l.length
    · have hlt' : (k : Int) < (l.length : Int) := by omega
      obtain ⟨b, o, ao2, c2, rfl, hb, hc, hrd⟩ := HL.out.row hlt
      have hck := (HK.out.below.cell (p := ⟨b, o + k, none⟩) hb).trans hc
      have HTW := hid (twin_ints wr W.heap.size hsz _ _ (hrd.keep HK.out.below) (HR.out k hlt))
      have HTK := hid (take_gd l k hlt)
      clear hc hrd
      generalize l.getD k [] = r at *
      go_wp2_with (fail)
      refine HTW.out.mono ?_
      rintro e w1 ⟨y, rfl, hRG⟩
      obtain ⟨ya, yc, hyf, _⟩ := hRG.row.at
      subst hyf
      have HRG := hid hRG
      have hsz1 := hRG.below.size
      have HO1 : Hid (w1.ownsRow W.heap.size 25 1 (.slice sa k sc) k ys) := hid (own_carry HRW.out (fun i hi => hRG.below.block i (own_lo HRW.out i hi).2))
      clear hRG
      go_wp2_with (at_builtin; refine wpList_append_lies _ rfl (.tmp 11) (.tmp 17) 22 rfl W.heap.size 25 i0 _ 1 24 Try.underlying22 hi hz0 hz1 hz2 rfl (by decide) (.slice sa k sc) k ys rfl (World.ownsRow.alloc HO1.out _) ⟨w1.heap.size, 0, none⟩ 1 1 [.slice ya r.length yc] rfl rfl (cell_one_new _ _ _) (by simp [Value.oneCell']) (by omega) (by unfold maxLen; omega) (by omega) (by simp; omega) (w1.heap.size + 1) (by simp) ?_; intro g cap w2 hown2 hgr2 _ _; have HO2 := hid hown2; have HG2 := hid hgr2; clear hown2 hgr2)
      go_roundw
      case rel =>
        refine ⟨k + 1, ys ++ [.slice ya r.length yc], by omega, by go_num, hid ?_⟩
        rw [HTK.out]
        have := HK.out.grow HRG.out (g := g) (cap := cap) (by rw [HTL.out]; exact HO2.out) (by exact HG2.out)
        rw [HTL.out] at this
        exact this
      case measure => simp [intOf]; omega
    · have hlt' : ¬ (k : Int) < (l.length : Int) := by omega
      obtain rfl : k = l.length := by omega
      go_wp2_with (fail)
      go_ret
      refine ⟨_, rfl, ys, ?_⟩
      have := HK.out
      rw [List.take_length] at this
      exact this
end Go.Proofs.Ytdhjedpgdhageaa.Ord
