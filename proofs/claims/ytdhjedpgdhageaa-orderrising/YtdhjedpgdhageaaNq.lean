/-
  The queue is made, and each number is put.
-/
import Derived.Test.YtdhjedpgdhageaaNqr
namespace Go.Proofs.Ytdhjedpgdhageaa.Ord
open Go.ChangeShapes Go.WideShapes Go.ChangeAt Go.RowKit Go.Joins
theorem rowOf_nat (l : List (List Int)) (x : Nat) : rowOf l (x : Int) = l.getD x [] := by simp [rowOf]
theorem QI.put {l : List (List Int)} {t R P R' : List Int} {F F' : Int → List Int} {L : List (List Int)} {x : Nat} (h : QI l t R ((x : Int) :: P) F L)
    (hr : dropT t (L.getD x []) = [] → R'.Perm (R ++ [(x : Int)]) ∧ F' = F) (hw : ∀ y ys, dropT t (L.getD x []) = y :: ys → R' = R ∧ F' = upF F y (x : Int)) : QI l t R' P F' (L.set x (dropT t (L.getD x []))) := by
  rw [← rowOf_nat] at hr hw ⊢
  cases hd : dropT t (rowOf L (x : Int)) with
  | nil =>
    obtain ⟨h1, h2⟩ := hr hd
    have := h.ready hd h1
    rw [hd] at this
    rw [h2]
    simpa using this
  | cons y ys =>
    obtain ⟨h1, h2⟩ := hw y ys hd
    have := h.waits hd
    rw [hd] at this
    rw [h1, h2]
    simpa using this
theorem QI.hin {l : List (List Int)} {t R P : List Int} {F : Int → List Int} {L : List (List Int)} (h : QI l t R P F L) (ht : there l = true) {x : Nat} (hx : x < l.length) : ∀ y ∈ L.getD x [], 0 ≤ y ∧ y < (l.length : Int) := fun y hy => by
  obtain ⟨pre, h1, _⟩ := h.left (x : Int) (by omega) (by omega)
  refine there_row ht (z := (x : Int)) ?_
  rw [h1, List.mem_append, rowOf_nat L x]
  exact .inr hy
theorem QI.rlen {l : List (List Int)} {t R P : List Int} {F : Int → List Int} {L : List (List Int)} (h : QI l t R P F L) : R.length ≤ l.length := nodup_bound h.nr h.rb
theorem QI.flen {l : List (List Int)} {t R P : List Int} {F : Int → List Int} {L : List (List Int)} (h : QI l t R P F L) (z : Int) : (F z).length ≤ l.length := nodup_bound (h.nf z) (h.fb z)
theorem QI.tlen {l : List (List Int)} {t R P : List Int} {F : Int → List Int} {L : List (List Int)} (h : QI l t R P F L) : t.length ≤ l.length := nodup_bound h.nt h.tb
theorem TL_nil (n : Nat) : TL n [] = List.replicate n false := by
  unfold TL
  refine List.ext_getElem (by simp [nums_len]) (fun i h1 h2 => by simp)
/-- The queue as it is made. -/
theorem QS.start {W W3 : World} {n : Nat} {xs : List Value} {lv : Value} {tb mb : Nat} {l : List (List Int)} (h : Md W W3 n xs (some lv) (some tb) (some mb)) (hrd : ∀ i, i < n → ∃ x, xs[i]? = some x ∧ Rd W W.heap.size x (l.getD i [])) :
    QS (W3.alloc (.cells (qC lv (.slice (some ⟨tb, 0, none⟩) n n) (.map (some mb)) (.slice none 0 0)) 45)) W.heap.size (W3.heap.size + 1) W3.heap.size mb n 0 lv (.slice (some ⟨tb, 0, none⟩) n n) (.slice none 0 0) xs [] (fun _ => none) l (fun _ => []) [] := by
  obtain ⟨hl1, hl2⟩ := h.l lv rfl
  obtain ⟨ht1, ht2, ht3⟩ := h.t tb rfl
  obtain ⟨hm1, hm2⟩ := h.m mb rfl
  have hb : Below W3.heap.size W3 (W3.alloc (.cells (qC lv (.slice (some ⟨tb, 0, none⟩) n n) (.map (some mb)) (.slice none 0 0)) 45)) := (Below.refl _ _).alloc (Nat.le_refl _) _
  have hmlt := (Array.getElem?_eq_some_iff.1 hm2).1
  have htlt := (Ord.own_lo ht2 tb rfl).2
  refine ⟨heap_alloc_new W3 _, own_carry hl1 (fun i hi => hb.block i (Ord.own_lo hl1 i hi).2), ?_, VMap.new (keep_row hm2 hb), Row.none0 _ _, fun z => Row.none0 _ _, fun z z' g e => (by cases e), fun z g e => (by cases e), fun i hi => ?_, fun b e => ?_, fun b e => ?_, ⟨h.below.size, by omega⟩, ⟨hm1, by omega⟩, by omega, ⟨Nat.le_trans h.below.size (Nat.le_succ _), by simp⟩⟩
  · rw [TL_nil]
    exact own_carry ht2 (fun i hi => hb.block i (Ord.own_lo ht2 i hi).2)
  · obtain ⟨x, h1, h2⟩ := hrd i hi
    exact ⟨x, h1, h2.keep (h.below.trans (hb.mono h.below.size))⟩
  · have := (Ord.own_lo hl1 b e).2
    have h1 := hl2 b e
    refine ⟨by omega, by omega, fun e2 => h1.2 (by rw [e2]), fun e2 => h1.1 ?_⟩
    simpa [Value.ownBlock] using e2
  · have h1 : tb = b := by simpa [Value.ownBlock] using e
    subst h1
    exact ⟨by omega, by omega, fun e2 => ht3 (by rw [e2])⟩
/-- The queue behind some puts. -/
structure NQ (W wr : World) (l : List (List Int)) (base qb mb : Nat) (lv tv : Value) (i : Nat) : Prop where
  ex : ∃ v xs V L F R, QS wr W.heap.size base qb mb l.length i lv tv v xs [] V L F R ∧ QI l [] R ((nums l.length).drop i) F L ∧ Hp R.length R
  below : Below W.heap.size W wr
theorem drop_nums {n i : Nat} (h : i < n) : (nums n).drop i = (i : Int) :: (nums n).drop (i + 1) := by
  rw [List.drop_eq_getElem_cons (by rw [nums_len]; exact h), nums_get h]
set_option maxRecDepth 100000 in
set_option maxHeartbeats 1000000 in
theorem newq_at (W : World) (vl : Value) (l : List (List Int)) (h : LL W W.heap.size vl l) (hn : l.length ≤ 1048576) (ht : there l = true) :
    Calls Try.prog 15 #[vl] W fun e w' => ∃ base qb mb lv tv, e = .returned (.pointer (some ⟨qb, 0, none⟩)) ∧ NQ W w' l base qb mb lv tv l.length := by
  obtain ⟨ao, c, rfl, hle, hcc, sl, hcs, hrd⟩ := h
  have HXS : Hid (∃ xs : List Value, xs.length = l.length ∧ (∀ i, i < l.length → xs[i]? = some (sl i))) := hid ⟨(List.range l.length).map sl, by simp, fun i hi => by simp [hi]⟩
  obtain ⟨xs, hxl, hxs⟩ := HXS.out
  clear HXS
  have h1c : ∀ u ∈ xs, u.oneCell' = true := fun u hu => by
    obtain ⟨i, hi, rfl⟩ := List.getElem_of_mem hu
    have := hxs i (by omega)
    rw [List.getElem?_eq_getElem hi] at this
    injection this with this
    rw [this]
    obtain ⟨ao2, c2, e, _⟩ := hrd i (by omega)
    rw [e]
    rfl
  have HCL : Hid (∀ W1, Below W.heap.size W W1 → Calls Try.prog 18 #[.slice ao l.length c] W1 fun e w' => ∃ v, e = .returned v ∧ w'.ownsRow W1.heap.size 25 1 v l.length xs ∧ Below W1.heap.size W1 w') := hid (fun W1 hb => by
    cases ao with
    | none =>
      have h0 : l.length = 0 := hcs.elim id (fun ⟨_, _, e, _⟩ => by cases e)
      obtain rfl : xs = [] := List.length_eq_zero_iff.1 (by omega)
      rw [h0]
      exact clone_none c W1
    | some a =>
      refine clone_at W1 a l.length c xs hxl (by omega) (fun j u hj => ?_) h1c ?_
      · have hjl : j < l.length := by rw [← hxl]; exact (List.getElem?_eq_some_iff.1 hj).1
        obtain ⟨b, o, e, hlt, hc⟩ := hcs.resolve_left (by omega)
        injection e with e
        subst e
        rw [hxs j hjl] at hj
        injection hj with hj
        have hadd : (⟨b, o, none⟩ : Addr).add j = ⟨b, o + j, none⟩ := by unfold Addr.add; split <;> simp_all
        rw [hadd, ← hj]
        exact (hb.cell (p := ⟨b, o + j, none⟩) hlt).trans (hc j hjl)
      · rcases hcs with e | ⟨b, o, e, hlt, _⟩
        · exact .inl e
        · injection e with e
          subst e
          exact .inr (Nat.lt_of_lt_of_le hlt hb.size))
  have HRD : Hid (∀ i, i < l.length → ∃ x, xs[i]? = some x ∧ Rd W W.heap.size x (l.getD i [])) := hid (fun i hi => ⟨sl i, hxs i hi, hrd i hi⟩)
  have HTH := hid ht
  clear hcs hrd hxs h1c hxl ht
  go_enter Try.func15, Try.ntmps15
  go_wp2_with (fail)
  refine newq_reg W l.length hn _ ao c rfl xs HCL.out _ ?_
  rintro a w ⟨lv, tb, mb, W3, hmd, rfl, rfl⟩
  have N0 : Hid (NQ W (W3.alloc (.cells (qC lv (.slice (some ⟨tb, 0, none⟩) l.length l.length) (.map (some mb)) (.slice none 0 0)) 45)) l (W3.heap.size + 1) W3.heap.size mb lv (.slice (some ⟨tb, 0, none⟩) l.length l.length) 0) := hid ⟨⟨_, _, _, _, _, _, QS.start hmd HRD.out, QI.init l, Hp.nil⟩, bstep hmd.below ((Below.refl _ _).alloc (Nat.le_refl _) _)⟩
  clear hmd
  generalize (W3.alloc (.cells (qC lv (.slice (some ⟨tb, 0, none⟩) l.length l.length) (.map (some mb)) (.slice none 0 0)) 45)) = W4 at *
  generalize W3.heap.size = qb at *
  generalize (.slice (some ⟨tb, 0, none⟩) l.length l.length : Value) = tv at *
  go_wp2_with (fail)
  go_loopw [15] (fun s15 wr => ∃ i : Nat, i ≤ l.length ∧ s15 = .int .i64 (i : Int) ∧ Hid (NQ W wr l (qb + 1) qb mb lv tv i)) (fun s15 _ => l.length - (intOf s15).toNat)
  case atStart => exact ⟨0, by omega, rfl, N0⟩
  case round =>
    obtain ⟨i, hi, rfl, HI⟩ := hrel
    by_cases hlt : i < l.length
    · have hlt' : (i : Int) < (l.length : Int) := by omega
      obtain ⟨⟨v, ys, V, L, F, R, hQ, hqi, hH⟩, hb⟩ := HI.out
      rw [drop_nums hlt] at hqi
      have HP := hid (put_at wr _ _ qb mb l.length i lv tv v ys [] V L F R hQ hH hn hqi.len (by omega) (Nat.le_trans hqi.rlen hn) (fun z => Nat.le_trans (hqi.flen z) hn) i hlt (hqi.hin HTH.out hlt))
      have HQI := hid hqi
      have HB := hid hb
      have HQ := hid hQ
      clear hQ hqi hH hb
      go_wp2_with (fail)
      refine HP.out.mono ?_
      rintro e w2 ⟨rfl, v', xs', V', F', R', hE⟩
      have HE := hid hE
      clear hE
      go_wp2_with (fail)
      go_roundw
      case rel => exact ⟨i + 1, by omega, by go_num, hid ⟨⟨v', xs', V', _, F', R', HE.out.s, HQI.out.put HE.out.ready HE.out.wait, HE.out.hp⟩, HB.out.trans (HE.out.mv.toBelow HB.out.size HQ.out.own_lo)⟩⟩
      case measure => simp [intOf]; omega
    · have hlt' : ¬ (i : Int) < (l.length : Int) := by omega
      obtain rfl : i = l.length := by omega
      go_wp2_with (fail)
      go_ret
      exact ⟨qb + 1, qb, rfl, mb, lv, tv, HI.out⟩
end Go.Proofs.Ytdhjedpgdhageaa.Ord
