/-
  The list that least tells: it is one that may be, none is less, and each is as late as it must be: plain mathematics.
  How old what is asked for is: the contract of late.Age.
  All wishes in a row: the contract of slices.Collect over them, and of the function that goes through such a row.
  The function least: its contract.
  How late flows are: the contract of late.Of.
  How late flows of a program are: what the law asks of it, as plain mathematics.
  The greatest age of what is kept: oldest.
  How a station keeps what it has, or needs: place.
-/
import Derived.Test.YtgkbbdenmgienaaDoorG7
import Derived.Test.YtgkbbdenmgienaaDoorG6
import Derived.Scope
import Derived.Deep.OwnRows
namespace Go.Proofs.YtgkbbdenmgienaaDoor.Lex
theorem lateAt_set (l : List Int) (i : Nat) (z : Int) (j : Int) (hi : i < l.length) : lateAt (l.set i z) j = if j.toNat = i then z else lateAt l j := by
  unfold lateAt
  by_cases e : j.toNat = i
  · rw [if_pos e, e]; simp [hi]
  · rw [if_neg e, List.getElem?_set_ne (fun h => e h.symm)]
/-- Each is 0, or as late as one that it asks for wants. -/
def Tight (L : List Wi) (l : List Int) : Prop := ∀ i : Nat, i < l.length → lateAt l i = 0 ∨ ∃ x ∈ L, x.flow = i ∧ x.of ≠ i ∧ ageV l x ≤ 0
/-- None is less than in any other one. -/
def Leq (l m : List Int) : Prop := ∀ i : Nat, lateAt l i ≤ lateAt m i
/-- Wishes of so many flows, none of which is far from itself. -/
structure Sane (n : Nat) (L : List Wi) : Prop where
  ok : ∀ x ∈ L, WiOk n x
  self : ∀ x ∈ L, x.of = x.flow → x.way = 0
theorem age_set {n : Nat} {l : List Int} {x y : Wi} (hl : l.length = n) (hx : WiOk n x) (_hy : WiOk n y) (z : Int) (hz : lateAt l x.flow ≤ z) (hyf : y.flow ≠ x.flow) : ageV (l.set x.flow z) y ≤ ageV l y := by
  have hxl : x.flow < l.length := by rw [hl]; exact hx.flow
  unfold ageV
  rw [lateAt_set l _ z _ hxl, lateAt_set l _ z _ hxl, if_neg (by simpa using hyf)]
  split
  · split
    · rename_i h1 h2
      have : lateAt l y.of = lateAt l x.flow := by unfold lateAt; rw [h2]; simp
      omega
    · omega
  · omega
theorem age_own {n : Nat} {l : List Int} {x : Wi} (hl : l.length = n) (hx : WiOk n x) (hs : x.of = x.flow → x.way = 0) (ha : ageV l x < 0) : x.of ≠ x.flow ∧ ageV (l.set x.flow (lateAt l x.flow - ageV l x)) x = 0 := by
  have hxl : x.flow < l.length := by rw [hl]; exact hx.flow
  have hne : x.of ≠ x.flow := fun e => by
    have hw := hs e
    unfold ageV at ha
    rw [e, if_pos (by omega), hw] at ha
    omega
  refine ⟨hne, ?_⟩
  generalize hA : ageV l x = A at *
  unfold ageV at hA ⊢
  rw [lateAt_set l _ _ _ hxl, lateAt_set l _ _ _ hxl, if_pos (by simp)]
  split
  · rename_i h
    rw [if_pos h] at hA
    rw [if_neg (by have := hx.of; omega)]
    omega
  · rename_i h
    rw [if_neg h] at hA
    omega
theorem Tight.put {n : Nat} {L : List Wi} {l : List Int} {x : Wi} (hS : Sane n L) (hl : l.length = n) (hx : x ∈ L) (ha : ageV l x < 0) (h : Tight L l) : Tight L (l.set x.flow (lateAt l x.flow - ageV l x)) := by
  intro i hi
  rw [List.length_set] at hi
  have hxo := hS.ok x hx
  have hxl : x.flow < l.length := by rw [hl]; exact hxo.flow
  obtain ⟨hne, h0⟩ := age_own hl hxo (hS.self x hx) ha
  by_cases e : i = x.flow
  · refine .inr ⟨x, hx, e.symm, by rw [e]; exact hne, by omega⟩
  · rcases h i hi with h1 | ⟨y, hy, h1, h2, h3⟩
    · left; rw [lateAt_set l _ _ _ hxl, if_neg (by simpa using e)]; exact h1
    · refine .inr ⟨y, hy, h1, h2, ?_⟩
      have := age_set hl hxo (hS.ok y hy) (lateAt l x.flow - ageV l x) (by omega) (by omega)
      omega
/-- Flows may be so late, by these wishes. -/
def Sol (L : List Wi) (m : List Int) : Prop := (∀ a ∈ m, 0 ≤ a) ∧ ∀ x ∈ L, 0 ≤ ageV m x
theorem Leq.put {n : Nat} {L : List Wi} {l m : List Int} {x : Wi} (hS : Sane n L) (hl : l.length = n) (hx : x ∈ L) (_ha : ageV l x < 0) (hm : Sol L m) (h : Leq l m) : Leq (l.set x.flow (lateAt l x.flow - ageV l x)) m := by
  have hxo := hS.ok x hx
  have hxl : x.flow < l.length := by rw [hl]; exact hxo.flow
  intro i
  rw [lateAt_set l _ _ _ hxl]
  split
  · rename_i e
    have e : i = x.flow := by simpa using e
    have hmx := hm.2 x hx
    have h1 : ∀ j : Int, 0 ≤ j → lateAt l j ≤ lateAt m j := fun j hj => by have := h j.toNat; rwa [Int.toNat_of_nonneg hj] at this
    rw [e]
    unfold ageV at hmx ⊢
    split at hmx
    · rename_i h2
      have := h1 x.of h2
      rw [if_pos h2]
      omega
    · rename_i h2
      rw [if_neg h2]
      omega
  · exact h i
theorem turn_inv {n : Nat} {L0 : List Wi} (hS : Sane n L0) : ∀ (L : List Wi) (l l' : List Int) (s s' : Bool), (∀ x ∈ L, x ∈ L0) → turn L l s = some (l', s') → l.length = n → Tight L0 l →
    Tight L0 l' ∧ l'.length = n ∧ (s' = true → s = true ∧ l' = l ∧ ∀ x ∈ L, 0 ≤ ageV l x) ∧ ∀ m, Sol L0 m → Leq l m → Leq l' m
  | [], l, l', s, s', _, h, hl, ht => by
    simp only [turn, Option.some.injEq, Prod.mk.injEq] at h
    obtain ⟨rfl, rfl⟩ := h
    exact ⟨ht, hl, fun h => ⟨h, rfl, fun x hx => by cases hx⟩, fun m _ h => h⟩
  | x :: L, l, l', s, s', hin, h, hl, ht => by
    have hin' : ∀ y ∈ L, y ∈ L0 := fun y hy => hin y (List.mem_cons_of_mem _ hy)
    have hx := hin x (List.mem_cons_self ..)
    unfold turn at h
    split at h
    · rename_i ha
      obtain ⟨h1, h2, h3, h4⟩ := turn_inv hS L l l' s s' hin' h hl ht
      refine ⟨h1, h2, fun hs => ?_, h4⟩
      obtain ⟨q1, q2, q3⟩ := h3 hs
      refine ⟨q1, q2, fun y hy => ?_⟩
      rcases List.mem_cons.1 hy with rfl | hy
      · exact ha
      · exact q3 y hy
    · rename_i ha
      split at h
      · cases h
      · obtain ⟨h1, h2, h3, h4⟩ := turn_inv hS L _ l' false s' hin' h (by rw [List.length_set]; exact hl) (ht.put hS hl hx (by omega))
        exact ⟨h1, h2, fun hs => absurd (h3 hs).1 (by simp), fun m hm hle => h4 m hm (hle.put hS hl hx (by omega) hm)⟩
/-- What so many turns tell. -/
theorem leaF_inv {n : Nat} {L : List Wi} (hS : Sane n L) : ∀ (k : Nat) (l r : List Int), leaF L k l = some r → l.length = n → Tight L l → Tight L r ∧ r.length = n ∧ (∀ x ∈ L, 0 ≤ ageV r x) ∧ ∀ m, Sol L m → Leq l m → Leq r m
  | 0, l, r, h, _, _ => by cases h
  | k + 1, l, r, h, hl, ht => by
    unfold leaF at h
    split at h
    · cases h
    · rename_i l' s' e
      obtain ⟨h1, h2, h3, h4⟩ := turn_inv hS L l l' true s' (fun _ h => h) e hl ht
      split at h
      · rename_i hs
        obtain rfl := Option.some.inj h
        obtain ⟨_, rfl, q⟩ := h3 hs
        exact ⟨h1, h2, q, h4⟩
      · obtain ⟨q1, q2, q3, q4⟩ := leaF_inv hS k l' r h h2 h1
        exact ⟨q1, q2, q3, fun m hm hle => q4 m hm (h4 m hm hle)⟩
theorem lateAt_zeros (n : Nat) (i : Int) : lateAt (List.replicate n 0) i = 0 := by
  unfold lateAt
  rw [List.getElem?_replicate]
  split <;> rfl
theorem Tight.zeros (L : List Wi) (n : Nat) : Tight L (List.replicate n 0) := fun _ _ => .inl (lateAt_zeros n _)
theorem lateAt_nonneg {m : List Int} (h : ∀ a ∈ m, 0 ≤ a) (i : Int) : 0 ≤ lateAt m i := by
  unfold lateAt
  cases e : m[i.toNat]? with
  | none => exact Int.le_refl _
  | some a => exact h a (List.mem_of_getElem? e)
theorem Leq.zeros {m : List Int} (h : ∀ a ∈ m, 0 ≤ a) (n : Nat) : Leq (List.replicate n 0) m := fun i => by rw [lateAt_zeros]; exact lateAt_nonneg h _
end Go.Proofs.YtgkbbdenmgienaaDoor.Lex
namespace Go.Proofs.YtgkbbdenmgienaaDoor.Lex
open Go.ChangeShapes Go.WideShapes Go.ChangeAt Go.RowKit Go.Joins
attribute [local go_sem] Oper.semAt_some
/-- It is that one. -/
def isRf (nm : ByteArray) (ago : Int) (x : Wi) : Bool := (x.rf.1.toList == nm.toList) && ((x.rf.2 : Int) == ago)
/-- What is answered. -/
def ageO (l : List Int) (o : Option Wi) : Int × Int := match o with | some x => (ageV l x, 0) | none => (0, 1)
def ageF (p : Pg) (l : List Int) (flow : Int) (nm : ByteArray) (ago : Int) : Int × Int :=
  if lateOk p l = true ∧ 0 ≤ flow ∧ flow < p.flows.length then ageO l ((wishL p flow.toNat).find? (isRf nm ago)) else (0, 1)
/-- What stands while wishes are looked at. -/
structure AgS (w : World) (l : List Int) (v : Value) (nm : ByteArray) (ago a e : Int) (V : World) : Prop where
  row : V.heap[w.heap.size + 1]? = some (.cells #[v] 29 (0, 0))
  ref : V.heap[w.heap.size + 1 + 1]? = some (.cells #[.string nm, .int .i64 ago] 59 (0, 0))
  val : Boxed V (w.heap.size + 1 + 1 + 1) 3 (.int .i64 a)
  err : Boxed V (w.heap.size + 1 + 1 + 1 + 1) 30 (.int .i64 e)
  below : Below w.heap.size w V
theorem AgS.far {w A C : World} {l : List Int} {v : Value} {nm : ByteArray} {ago a e : Int} {B : Nat} {T : Bl} (h : AgS w l v nm ago a e A) (hf : Far B T A C) (hB : w.heap.size + 5 ≤ B) : AgS w l v nm ago a e C :=
  ⟨(hf.block _ (Array.getElem?_eq_some_iff.1 h.row).1 (.inl (by omega))).trans h.row, (hf.block _ (Array.getElem?_eq_some_iff.1 h.ref).1 (.inl (by omega))).trans h.ref, (hf.block _ h.val.lt (.inl (by omega))).trans h.val, (hf.block _ h.err.lt (.inl (by omega))).trans h.err, h.below.trans ⟨hf.os, hf.tape, hf.output, hf.size, fun b hb => hf.block b (by have := h.below.size; omega) (.inl (by omega))⟩⟩
theorem AgS.step {w A C : World} {l : List Int} {v : Value} {nm : ByteArray} {ago a e : Int} (h : AgS w l v nm ago a e A) (hb : Below A.heap.size A C) : AgS w l v nm ago a e C := h.far (Far.of_below (B := w.heap.size + 5) (T := fun _ => False) hb) (Nat.le_refl _)
theorem AgS.set {w A : World} {l : List Int} {v : Value} {nm : ByteArray} {ago a e : Int} (h : AgS w l v nm ago a e A) (a' e' : Int) : AgS w l v nm ago a' e' ((A.setCell ⟨w.heap.size + 1 + 1 + 1, 0, none⟩ (.int .i64 a')).setCell ⟨w.heap.size + 1 + 1 + 1 + 1, 0, none⟩ (.int .i64 e')) := by
  have k : ∀ (V : World) (b : Nat) (u : Value) (o : Obj) (b' : Nat), V.heap[b]? = some o → b ≠ b' → (V.setCell ⟨b', 0, none⟩ u).heap[b]? = some o := fun V b u o b' h hne => (Below.heap_setCell _ _ _ _ hne).trans h
  refine ⟨k _ _ _ _ _ (k _ _ _ _ _ h.row (by omega)) (by omega), k _ _ _ _ _ (k _ _ _ _ _ h.ref (by omega)) (by omega), (h.val.set _).other (by omega) _, (h.err.other (by omega) _).set _, ?_⟩
  exact (h.below.setCell (p := ⟨w.heap.size + 1 + 1 + 1, 0, none⟩) (by simp; omega) _).setCell (p := ⟨w.heap.size + 1 + 1 + 1 + 1, 0, none⟩) (by simp; omega) _
end Go.Proofs.YtgkbbdenmgienaaDoor.Lex
namespace Go.Proofs.YtgkbbdenmgienaaDoor.Lex
open Go.ChangeShapes Go.WideShapes Go.ChangeAt Go.RowKit Go.Joins
attribute [local go_sem] Oper.semAt_some
theorem collect (Bp : Nat) (p : Pg) (a b c : Value) (W0 w : World) (hb : Below W0.heap.size W0 w) (hP : PgAt W0 p a b c) (hE : nmErr p = 0) (hBp : w.heap[Bp]? = some (.cells (pgC p a b c) 26 (0, 0))) :
    CallsIn Fence.wide 18 Tryd.prog 16 #[.func (.func 38) #[] #[.pointer (some ⟨Bp, 0, none⟩)]] w fun e w' => ∃ v, e = .returned v ∧ w'.ownsRow (w.heap.size + 1) 61 5 v (allL p).length (wisV (allL p)) ∧ Below w.heap.size w w' := by
  have h61 : Fence.wide.fn 37 := trivial
  have cA := append_seq Bp p a b c W0 w hb hP hE hBp
  clear hP hE hBp hb
  generalize hn : (allL p).length = n at cA ⊢
  generalize wisV (allL p) = xs at cA ⊢
  clear hn
  refine callsIn_of_wp Tryd.func16 rfl trivial ?_ rfl
  simp only [Tryd.ntmps16, List.size_toArray, List.length_cons, List.length_nil, Nat.reduceAdd, Nat.reduceSub, Array.replicate_succ, Array.replicate_zero, List.push_toArray, List.append_toArray, List.nil_append, List.cons_append]
  gi_wp2_with (gi_at_call 37; refine cA.mono ?_; rintro e w2 ⟨v, rfl, hrow, hb2⟩; have HROW := hid hrow; have HB2 := hid hb2; clear hrow hb2 cA)
  go_ret
  exact ⟨v, rfl, HROW.out, HB2.out⟩
/-- Wishes in a row. -/
def WAt (w : World) (L : List Wi) (v : Value) : Prop :=
  ∃ a cap, v = .slice a L.length cap ∧ L.length ≤ 1000000 ∧ (L.length = 0 ∨ ∃ g, a = some ⟨g, 0, none⟩ ∧ ∀ i (h : i < L.length), w.cell? ⟨g, i * 5, none⟩ = some (.int .i64 (L[i].flow : Int)) ∧ w.cell? ⟨g, i * 5 + 1, none⟩ = some (.string L[i].rf.1) ∧ w.cell? ⟨g, i * 5 + 2, none⟩ = some (.int .i64 (L[i].rf.2 : Int)) ∧ w.cell? ⟨g, i * 5 + 3, none⟩ = some (.int .i64 L[i].of) ∧ w.cell? ⟨g, i * 5 + 4, none⟩ = some (.int .i64 (L[i].way : Int)))
theorem wisV_at (L : List Wi) (i j : Nat) (hi : i < L.length) (hj : j < 5) : (wisV L)[5 * i + j]? = (wiC L[i])[j]? := by
  induction L generalizing i with
  | nil => simp at hi
  | cons t ts ih =>
    have e : wisV (t :: ts) = wiC t ++ wisV ts := by simp [wisV]
    rw [e]
    have hl : (wiC t).length = 5 := rfl
    cases i with
    | zero => rw [List.getElem?_append_left (by omega)]; simp
    | succ i =>
      rw [List.getElem?_append_right (by omega), hl, show 5 * (i + 1) + j - 5 = 5 * i + j by omega]
      simpa using ih i (by simpa using hi)
theorem WAt.of_own {w : World} {B : Nat} {v : Value} {L : List Wi} (h : w.ownsRow B 61 5 v L.length (wisV L)) (hl : L.length ≤ 1000000) : WAt w L v := by
  rcases h.2 with ⟨rfl, h0⟩ | ⟨g, cap, cur, rfl, hg0, hg, rest⟩
  · exact ⟨none, 0, by rw [h0], hl, .inl h0⟩
  · refine ⟨_, cap, rfl, hl, .inr ⟨g, rfl, fun i hi => ?_⟩⟩
    have q : ∀ j, j < 5 → w.cell? ⟨g, i * 5 + j, none⟩ = (wiC L[i])[j]? := fun j hj => by rw [h.cellAt _ (by omega), ← wisV_at L i j hi hj, Nat.mul_comm]
    exact ⟨q 0 (by omega), q 1 (by omega), q 2 (by omega), q 3 (by omega), q 4 (by omega)⟩
theorem WAt.keep {w w' : World} {L : List Wi} {v : Value} (h : WAt w L v) (hb : Below w.heap.size w w') : WAt w' L v := by
  obtain ⟨a, cap, rfl, hl, h⟩ := h
  refine ⟨a, cap, rfl, hl, ?_⟩
  rcases h with h | ⟨g, e, h⟩
  · exact .inl h
  · exact .inr ⟨g, e, fun i hi => by obtain ⟨h1, h2, h3, h4, h5⟩ := h i hi; exact ⟨cell_kept h1 hb, cell_kept h2 hb, cell_kept h3 hb, cell_kept h4 hb, cell_kept h5 hb⟩⟩
theorem values_ (v : Value) (n : Nat) (w : World) (hv : ∃ a k c, v = .slice a k c) :
    CallsIn Fence.wide n Tryd.prog 19 #[v] w fun e w' => e = .returned (.func (.func 42) #[] #[.pointer (some ⟨w.heap.size, 0, none⟩)]) ∧ w' = w.alloc (.cells #[v] 56) := by
  obtain ⟨a, k, c, rfl⟩ := hv
  refine callsIn_of_wp Tryd.func19 rfl trivial ?_ rfl
  simp only [Tryd.ntmps19, List.size_toArray, List.length_cons, List.length_nil, Nat.reduceAdd, Nat.reduceSub, Array.replicate_succ, Array.replicate_zero, List.push_toArray, List.append_toArray, List.nil_append, List.cons_append]
  gi_wp2
  go_ret
  exact ⟨rfl, rfl⟩
/-- What holds between two rounds, but for what the caller says. -/
structure VS (n₀ B : Nat) (W0 : World) (T : Bl) (wr : World) : Prop where
  lo : n₀ ≤ B
  since : Since B T wr
  size : B ≤ wr.heap.size
  below : Below n₀ W0 wr
theorem VS.step {n₀ B : Nat} {W0 wr W' : World} {T : Bl} (h : VS n₀ B W0 T wr) (hb : Below wr.heap.size wr W') : VS n₀ B W0 T W' := by
  have hs := hb.size
  exact ⟨h.lo, fun x hx => by have := h.since x hx; omega, by have := h.size; omega, h.below.trans (hb.mono (Nat.le_trans h.lo h.size))⟩
theorem VS.round {n₀ B : Nat} {W0 wr W' : World} {T T' : Bl} (h : VS n₀ B W0 T wr) (hn : Newer T T' wr W') (hb : Buts (fun x => T x ∨ (x < B ∧ ¬ (x < n₀))) wr W') : VS n₀ B W0 T' W' := by
  have hs := hb.size
  have hsz := h.size
  have hlo := h.lo
  refine ⟨h.lo, fun x hx => ?_, by omega, h.below.trans (hb.low (fun x hx ho => ?_) (by omega))⟩
  · rcases hn x hx with e | e
    · have := h.since x e; omega
    · omega
  · rcases ho with ho | ho
    · have := (h.since x ho).1; omega
    · omega
set_option maxRecDepth 100000 in
set_option maxHeartbeats 2000000 in
theorem values1 (n : Nat) (hn : 3 ≤ n) (l Bs n₀ : Nat) (L : List Wi) (v : Value) (J Jx : List Wi → Bl → World → Prop) (W0 W : World) (hW0 : n₀ = W0.heap.size) (hW : Below n₀ W0 W) (hL : WAt W0 L v)
    (hJ : LowT W.heap.size J)
    (hY : ∀ pre x T W1, J pre T W1 → Since W.heap.size T W1 → W.heap.size ≤ W1.heap.size → pre.length < L.length → pre ++ [x] <+: L → YieldAt Fence.wide (n - 1) Tryd.prog l #[wiV x] W1 fun e W' =>
      (e = .returned (.bool true) ∧ ∃ T', Newer T T' W1 W' ∧ J (pre ++ [x]) T' W' ∧ Buts (fun x => T x ∨ (x < W.heap.size ∧ ¬ (x < n₀))) W1 W') ∨ (e = .returned (.bool false) ∧ Buts (fun x => T x ∨ (x < W.heap.size ∧ ¬ (x < n₀))) W1 W' ∧ ∃ T', Newer T T' W1 W' ∧ Jx (pre ++ [x]) T' W'))
    (hBs : W.heap[Bs]? = some (.cells #[v] 56 (0, 0))) (h0 : J [] (fun _ => False) W) :
    CallsIn Fence.wide n Tryd.prog 42 #[.func (.yield l) #[] #[], .pointer (some ⟨Bs, 0, none⟩)] W fun e W' => (∃ v, e = .returned v) ∧ ∃ T', Since W.heap.size T' W' ∧ W.heap.size ≤ W'.heap.size ∧
      ((∃ ys, ys = L ∧ J ys T' W') ∨ (∃ pre, pre <+: L ∧ Jx pre T' W')) := by
  have hn1 : 1 ≤ n := by omega
  subst hW0
  obtain ⟨a, cap, rfl, hlm, hc⟩ := hL
  have HC := hid hc
  have HJ := hid hJ
  have HY := hid hY
  have hsz0 := hW.size
  have x2 : W.cell? ⟨Bs, 0, none⟩ = some (.slice a L.length cap) := by rw [cell_of_row _ _ _ _ 56 (0, 0) hBs]; rfl
  have HW := hid hW
  have H0 := hid h0
  clear hc hJ hY hW h0 hBs
  refine callsIn_of_wp Tryd.func42 rfl trivial ?_ rfl
  simp only [Tryd.ntmps42, List.size_toArray, List.length_cons, List.length_nil, Nat.reduceAdd, Nat.reduceSub, Array.replicate_succ, Array.replicate_zero, List.push_toArray, List.append_toArray, List.nil_append, List.cons_append]
  gi_wp2
  gi_loopw [7] (fun i wr => ∃ (m : Nat) (T : Bl), m ≤ L.length ∧ i = .int .i64 (m : Int) ∧ Hid (J (L.take m) T wr) ∧ Hid (VS W0.heap.size W.heap.size W0 T wr)) (fun i wr => L.length - (intOf i).toNat)
  case atStart => exact ⟨0, fun _ => False, Nat.zero_le _, rfl, H0, hid ⟨hsz0, fun _ h => h.elim, Nat.le_refl _, HW.out⟩⟩
  case round =>
    obtain ⟨m, T, hm, rfl, hJ2, hS⟩ := hrel
    by_cases hml : m < L.length
    · have hml' : (m : Int) < (L.length : Int) := by omega
      have hm0 : (0 : Int) ≤ (m : Int) := by omega
      obtain ⟨g, rfl, hcc⟩ := HC.out.resolve_left (by omega)
      have HSM : Hid (L.take (m + 1) = L.take m ++ [L[m]]) := hid (List.take_succ_eq_append_getElem hml)
      have HPM : Hid (L.take m ++ [L[m]] <+: L) := hid (by rw [← HSM.out]; exact List.take_prefix _ _)
      obtain ⟨q0, q1, q2, q3, q4⟩ := hcc m hml
      have hbl := hS.out.below
      have u0 := cell_kept q0 hbl
      have u1 := cell_kept q1 hbl
      have u2 := cell_kept q2 hbl
      have u3 := cell_kept q3 hbl
      have u4 := cell_kept q4 hbl
      clear q0 q1 q2 q3 q4 hcc hbl
      generalize L[m] = z at *
      have hba := (Below.refl wr.heap.size wr).alloc (Nat.le_refl _) (.cells (wiC z).toArray 61)
      have hS1 := hS.out.step hba
      have hJ1 := HJ.out _ _ _ _ hJ2.out (Far.of_below hba)
      obtain ⟨fn, tmps, assign, body, hy, hR⟩ := HY.out _ z T _ hJ1 hS1.since hS1.size (by rw [List.length_take]; omega) HPM.out
      have HS1 := hid hS1
      have HR := hid hR
      clear hba hS1 hJ1 hR
      gi_wp2
      refine HR.out.mono ?_
      rintro e W3 (⟨rfl, T', hn', hJ3, hk3⟩ | ⟨rfl, hz, T', hn', hJx3⟩)
      · gi_wp2
        go_roundw
        case rel => exact ⟨m + 1, T', by omega, by go_num, hid (by rw [HSM.out]; exact hJ3), hid (HS1.out.round hn' hk3)⟩
        case measure => simp [intOf]; omega
      · gi_wp2
        refine bodyPost_ret (results_none rfl _ _ _) rfl ?_
        have h6 := HS1.out.size
        have hz' := hz.size
        exact ⟨⟨_, rfl⟩, T', fun b hb => (hn' b hb).elim (fun h => by have := HS1.out.since b h; omega) (fun h => by omega), by omega, .inr ⟨_, HPM.out, hJx3⟩⟩
    · have hml' : ¬ (m : Int) < (L.length : Int) := by omega
      gi_wp2
      go_end0
      refine ⟨⟨_, rfl⟩, T, hS.out.since, hS.out.size, .inl ?_⟩
      have := hJ2.out
      rw [List.take_of_length_le (by omega)] at this
      exact this
/-- It goes through the row. -/
theorem values_T (n : Nat) (hn : 3 ≤ n) (Bs : Nat) (L : List Wi) (v : Value) (W0 w : World) (hb : Below W0.heap.size W0 w) (hL : WAt W0 L v) (hBs : w.heap[Bs]? = some (.cells #[v] 56 (0, 0))) :
    SeqT Fence.wide n Tryd.prog 42 #[.pointer (some ⟨Bs, 0, none⟩)] (fun x : Wi => #[wiV x]) (fun b => b < W0.heap.size) (fun ys => ys = L) (fun pre => pre <+: L) L.length w := fun l J Jx W hW hJ _ hY h0 =>
  values1 n hn l Bs _ L v J Jx W0 W rfl (hb.trans (hW.mono hb.size)) hL hJ hY ((hW.block _ (Array.getElem?_eq_some_iff.1 hBs).1).trans hBs) h0
end Go.Proofs.YtgkbbdenmgienaaDoor.Lex
namespace Go.Proofs.YtgkbbdenmgienaaDoor.Lex
open Go.ChangeShapes Go.WideShapes Go.ChangeAt Go.RowKit Go.Joins
attribute [local go_sem] Oper.semAt_some
/-- A row of numbers that is a block of its own. -/
def Rowl (W : World) (b : Nat) (l : List Int) : Prop := W.heap[b]? = some (.cells (l.map (fun a => Value.int .i64 a)).toArray 3 (0, 0))
theorem Rowl.cell {W : World} {b : Nat} {l : List Int} (h : Rowl W b l) (i : Nat) (hi : i < l.length) : W.cell? ⟨b, i, none⟩ = some (.int .i64 l[i]) := by
  rw [cell_of_row _ _ _ _ 3 (0, 0) h]; simp [hi]
theorem Rowl.at {W : World} {b : Nat} {l : List Int} (h : Rowl W b l) (hl : l.length ≤ 1000000) : IAt W l (.slice (some ⟨b, 0, none⟩) l.length l.length) :=
  ⟨_, _, rfl, ⟨Nat.le_refl _, by omega⟩, by
    by_cases e : l.length = 0
    · exact .inl e
    · exact .inr ⟨b, 0, rfl, fun i hi => by rw [Nat.zero_add]; exact h.cell i hi⟩⟩
theorem Rowl.set {W : World} {b : Nat} {l : List Int} (h : Rowl W b l) (i : Nat) (z : Int) : Rowl (W.setCell ⟨b, i, none⟩ (.int .i64 z)) b (l.set i z) := by
  unfold Rowl
  rw [set_same' h i (.int .i64 z)]
  congr 2
  apply Array.ext'
  simp [List.map_set]
theorem Rowl.frozen {W : World} {b : Nat} {l : List Int} (h : Rowl W b l) (i : Nat) : W.frozen? ⟨b, i, none⟩ = false := by
  unfold World.frozen?
  rw [h]
  rfl
theorem infI : (Tryd.prog.info? 3).map (fun i => (i.zero, i.size, i.bytes)) = some (some (.int .i64 0), 1, 8) := by kernel_rfl
theorem mk_ints (n : Nat) (hn : n ≤ 1099511627776) (w : World) : (Instr.makeSlice 29 (.int .i64 (n : Int)) (.int .i64 (n : Int))).run Tryd.prog w = .ok (.slice (some ⟨w.heap.size, 0, none⟩) n n) (w.alloc (.cells (madeCells #[.int .i64 0] n) 3)) :=
  run_make_row' 29 3 (.int .i64 0) 8 Tryd.underlying29 infI rfl .i64 .i64 n (by omega) (by omega) w
theorem made_zeros (W : World) (n : Nat) : Rowl (W.alloc (.cells (madeCells #[.int .i64 0] n) 3)) W.heap.size (List.replicate n 0) := by
  unfold Rowl
  rw [heap_alloc_new W _, List.map_replicate]
  congr 2
  apply Array.ext'
  refine List.ext_getElem? (fun i => ?_)
  by_cases hi : i < n
  · simp [madeCells, hi, Nat.mod_one]
  · rw [List.getElem?_eq_none (by rw [Array.length_toList, size_madeCells]; omega), List.getElem?_eq_none (by simp; omega)]
/-- What stands, whatever the turn: the row, the variable that holds it. -/
structure LI (w : World) (n bl : Nat) (l : List Int) (V : World) : Prop where
  row : Rowl V bl l
  box : V.heap[bl + 1]? = some (.cells #[.slice (some ⟨bl, 0, none⟩) n n] 29 (0, 0))
  len : l.length = n
  fine : Fine l
  below : Below w.heap.size w V
theorem LI.far {w A C : World} {n bl : Nat} {l : List Int} {B : Nat} {T : Bl} (h : LI w n bl l A) (hf : Far B T A C) (hB : bl + 2 ≤ B) (hw : w.heap.size ≤ bl) : LI w n bl l C :=
  ⟨(hf.block _ (Array.getElem?_eq_some_iff.1 h.row).1 (.inl (by omega))).trans h.row, (hf.block _ (Array.getElem?_eq_some_iff.1 h.box).1 (.inl (by omega))).trans h.box, h.len, h.fine, h.below.trans ⟨hf.os, hf.tape, hf.output, hf.size, fun b hb => hf.block b (by have := h.below.size; omega) (.inl (by omega))⟩⟩
theorem LI.step {w A C : World} {n bl : Nat} {l : List Int} (h : LI w n bl l A) (hb : Below A.heap.size A C) : LI w n bl l C :=
  ⟨(hb.block _ (Array.getElem?_eq_some_iff.1 h.row).1).trans h.row, (hb.block _ (Array.getElem?_eq_some_iff.1 h.box).1).trans h.box, h.len, h.fine, h.below.trans (hb.mono h.below.size)⟩
theorem LI.other {w A : World} {n bl : Nat} {l : List Int} (h : LI w n bl l A) (hw : w.heap.size ≤ bl) {b o : Nat} (hb : bl + 2 ≤ b) (u : Value) : LI w n bl l (A.setCell ⟨b, o, none⟩ u) :=
  ⟨(Below.heap_setCell _ _ _ _ (by simp; omega)).trans h.row, (Below.heap_setCell _ _ _ _ (by simp; omega)).trans h.box, h.len, h.fine, h.below.setCell (p := ⟨b, o, none⟩) (by simp; omega) _⟩
theorem LI.put {w A : World} {n bl : Nat} {l : List Int} (h : LI w n bl l A) (hw : w.heap.size ≤ bl) (i : Nat) {z : Int} (hz : outB z = false) : LI w n bl (l.set i z) (A.setCell ⟨bl, i, none⟩ (.int .i64 z)) :=
  ⟨h.row.set i z, (Below.heap_setCell _ _ _ _ (by simp)).trans h.box, by rw [List.length_set]; exact h.len, h.fine.set i hz, h.below.setCell (p := ⟨bl, i, none⟩) hw _⟩
set_option maxRecDepth 100000 in
set_option maxHeartbeats 2000000 in
theorem least_ (n Bs : Nat) (L : List Wi) (v : Value) (w : World) (hn : n ≤ 1000000) (hL : WAt w L v) (hOk : ∀ x ∈ L, WiOk n x) (hBs : w.heap[Bs]? = some (.cells #[v] 56 (0, 0))) :
    CallsIn Fence.wide 20 Tryd.prog 18 #[.int .i64 (n : Int), .func (.func 42) #[] #[.pointer (some ⟨Bs, 0, none⟩)]] w fun e w' => Below w.heap.size w w' ∧
      ((leaF L (n + 1) (List.replicate n 0) = none ∧ e = .returned (.tuple #[.slice none 0 0, .bool false])) ∨
       ∃ l, leaF L (n + 1) (List.replicate n 0) = some l ∧ e = .returned (.tuple #[.slice (some ⟨w.heap.size, 0, none⟩) n n, .bool true]) ∧ Rowl w' w.heap.size l ∧ l.length = n ∧ Fine l) := by
  have h28 : Fence.wide.fn 40 := trivial
  have h32 : Fence.wide.fn 41 := trivial
  have hmk := mk_ints n (by omega)
  obtain ⟨bl, hbl⟩ : ∃ bl, bl = w.heap.size := ⟨_, rfl⟩
  obtain ⟨RES, hRES⟩ : ∃ R, R = leaF L (n + 1) (List.replicate n 0) := ⟨_, rfl⟩
  have hA := (Below.refl w.heap.size w).alloc (Nat.le_refl _) (.cells (madeCells #[.int .i64 0] n) 3)
  have hAs : (w.alloc (.cells (madeCells #[.int .i64 0] n) 3)).heap.size = w.heap.size + 1 := by simp
  have hB := hA.alloc hA.size (.cells #[.slice (some ⟨w.heap.size, 0, none⟩) n n] 29)
  have hI0 : LI w n bl (List.replicate n 0) ((w.alloc (.cells (madeCells #[.int .i64 0] n) 3)).alloc (.cells #[.slice (some ⟨w.heap.size, 0, none⟩) n n] 29)) := by
    refine ⟨?_, ?_, List.length_replicate, Fine.zeros n, hB⟩
    · unfold Rowl; rw [hbl, Below.heap_alloc _ _ _ (by simp)]; exact made_zeros w n
    · rw [hbl, ← hAs]; exact heap_alloc_new _ _
  have HI0 := hid hI0
  have HL := hid hL
  have HOK := hid hOk
  have HBs := hid hBs
  have HR0 := hid hRES
  have hbsl := (Array.getElem?_eq_some_iff.1 hBs).1
  have hbl' := hid hbl
  clear hA hB hAs hI0 hL hOk hBs hRES
  refine callsIn_of_wp_marks Tryd.func18 rfl trivial ?_ rfl
  simp only [Tryd.ntmps18, List.size_toArray, List.length_cons, List.length_nil, Nat.reduceAdd, Nat.reduceSub, Array.replicate_succ, Array.replicate_zero, List.push_toArray, List.append_toArray, List.nil_append, List.cons_append]
  gi_wp2
  refine (wpIn_wide (n := 20)).2 (wp_scope_straight ((wpIn_wide (n := 20)).1 ?_))
  gi_wp2
  refine wpIn_label ?_
  have hw1 : wrap64 ((n : Int) + 1) = (n : Int) + 1 := wrap_in (by omega) (by omega)
  gi_wp2
  rw [← hbl'.out]
  rw [← hbl'.out] at HI0
  obtain ⟨W1, hW1⟩ : ∃ W1, W1 = (w.alloc (.cells (madeCells #[.int .i64 0] n) 3)).alloc (.cells #[.slice (some ⟨bl, 0, none⟩) n n] 29) := ⟨_, rfl⟩
  rw [← hW1] at HI0 ⊢
  clear hW1 hbl
  refine wpIn_loop_ghost (fun q a' wr => ∃ (k : Nat) (l : List Int) (ds : List Deferred) (u7 u15 u16 u38 u39 u40 : Value), q = n + 1 - k ∧ k ≤ n + 1 ∧ Hid (RES = leaF L (n + 1 - k) l) ∧ Hid (LI w n bl l wr) ∧ Hid (Mrk (bl + 2) (fun _ => False) ds wr) ∧ a' = { tmps := #[.int .i64 (n : Int), .func (.func 42) #[] #[.pointer (some ⟨Bs, 0, none⟩)], undef, undef, .slice none 0 0, .bool false, .pointer (some ⟨bl + 1, 0, none⟩), u7, undef, undef, .int .i64 (n : Int), .slice (some ⟨bl, 0, none⟩) n n, .int .i64 (n : Int), .int .i64 ((n : Int) + 1), .int .i64 (k : Int), u15, u16, undef, undef, undef, undef, undef, undef, undef, undef, undef, undef, undef, undef, undef, undef, undef, undef, undef, undef, undef, undef, undef, u38, u39, u40], defers := ds }) (n + 1) ⟨0, List.replicate n 0, [], _, _, _, _, _, _, by omega, by omega, HR0, HI0, hid (Mrk.nil _ _ _), rfl⟩ ?_
  rintro q a' wr ⟨k, l, ds, u7, u15, u16, u38, u39, u40, rfl, hk, hR, hLI, hMk, rfl⟩
  have hlo : w.heap.size ≤ bl := by have := hbl'.out; omega
  by_cases hkl : k < n + 1
  · have hkl' : (k : Int) < (n : Int) + 1 := by omega
    gi_wp2
    obtain ⟨w1, hw1⟩ : ∃ w1, w1 = wr.alloc (.cells #[.bool true] 4) := ⟨_, rfl⟩
    rw [← hw1]
    have hb1 : Below wr.heap.size wr w1 := by rw [hw1]; exact (Below.refl _ wr).alloc (Nat.le_refl _) _
    have hs1 : w1.heap.size = wr.heap.size + 1 := by rw [hw1]; simp
    have hx1 : Boxed w1 wr.heap.size 4 (.bool true) := by rw [hw1]; exact Boxed.new wr 4 (.bool true)
    have hI1 := hLI.out.step hb1
    have hM1 := hMk.out.step hb1
    have HMW := hid hMk.out
    have hbl2 : bl + 2 ≤ wr.heap.size := by have := (Array.getElem?_eq_some_iff.1 hLI.out.box).1; omega
    have hrl := (Array.getElem?_eq_some_iff.1 hLI.out.box).1
    have hbs1 : w1.heap[Bs]? = some (.cells #[v] 56 (0, 0)) := (hI1.below.block _ hbsl).trans HBs.out
    have HI1 := hid hI1
    have HM1 := hid hM1
    have HX1 := hid hx1
    have HBS1 := hid hbs1
    have hwl : w.heap.size ≤ wr.heap.size := hLI.out.below.size
    clear hw1 hb1 hx1 hI1 hM1 hbs1 hLI hMk
    refine range_T rfl (by omega) (gf := 42) (lb := #[.pointer (some ⟨Bs, 0, none⟩)]) rfl trivial (enters_of Tryd.func42 (by kernel_rfl) rfl)
      (own := fun x => x = bl ∨ x = wr.heap.size) (values_T 19 (by omega) Bs L v w w1 HI1.out.below HL.out HBS1.out) (Below.refl _ _) (fun _ => rfl)
      (fun x hx => ⟨by omega, by omega⟩) (fun x hx => by omega)
      (fun pre _ V => ∃ l' s, turn pre l true = some (l', s) ∧ LI w n bl l' V ∧ Boxed V wr.heap.size 4 (.bool s) ∧ Mrk (bl + 2) (fun _ => False) ds V)
      (fun c' pre _ V => c' = .exit 0 ∧ turn pre l true = none ∧ Below w.heap.size w V ∧ Mrk (bl + 2) (fun _ => False) ds V)
      (fun pre T A C h hf => by
        obtain ⟨l', s, h1, h2, h3, h4⟩ := h
        exact ⟨l', s, h1, h2.far hf (by omega) hlo, (hf.block _ h3.lt (.inl (by omega))).trans h3, h4.far HM1.out hf (Nat.le_refl _)⟩)
      (fun c' pre T A C h hf => ⟨h.1, h.2.1, h.2.2.1.trans ⟨hf.os, hf.tape, hf.output, hf.size, fun b hb => hf.block b (by have := h.2.2.1.size; omega) (.inl (by omega))⟩, h.2.2.2.far HM1.out hf (Nat.le_refl _)⟩)
      ⟨l, true, rfl, HI1.out, HX1.out, HM1.out⟩
      (fun x a' V => ∃ Bx, w1.heap.size + 2 ≤ Bx ∧ V.heap[Bx]? = some (.cells (wiC x).toArray 61 (0, 0)) ∧ a' = { tmps := #[.int .i64 (n : Int), .func (.func 42) #[] #[.pointer (some ⟨Bs, 0, none⟩)], undef, undef, .slice none 0 0, .bool false, .pointer (some ⟨bl + 1, 0, none⟩), .pointer (some ⟨wr.heap.size, 0, none⟩), .pointer (some ⟨Bx, 0, none⟩), undef, .int .i64 (n : Int), .slice (some ⟨bl, 0, none⟩) n n, .int .i64 (n : Int), .int .i64 ((n : Int) + 1), .int .i64 (k : Int), .bool true, .func (.func 42) #[] #[.pointer (some ⟨Bs, 0, none⟩)], wiV x, undef, undef, undef, undef, undef, undef, undef, undef, undef, undef, undef, undef, undef, undef, undef, undef, undef, undef, undef, undef, u38, u39, u40], defers := [] })
      (fun x a' V o hs hx => by obtain ⟨Bx, h1, h2, h3⟩ := hx; exact ⟨Bx, h1, (World.putObj_heap_other (by omega)).trans h2, h3⟩)
      ?assign ?body ?done ?stop
    case assign =>
      rintro l2 pre x T' V K hsV hI hK
      gi_wp2
      exact hK _ _ ((Below.refl _ V).alloc (Nat.le_refl _) _) ⟨V.heap.size, hsV, heap_alloc_new V _, rfl⟩
    case body =>
      rintro l2 pre x T' a' V hsV hsn ⟨l', s, ht, hI, hbx, hM⟩ ⟨Bx, hBx, hRow, rfl⟩ hlen hpre
      have HI := hid hI
      have HT := hid ht
      have hlen' := hI.len
      have hxm : x ∈ L := hpre.subset (by simp)
      have hok : WiOk l'.length x := by rw [hlen']; exact HOK.out x hxm
      have hia : IAt V l' (.slice (some ⟨bl, 0, none⟩) n n) := by have := hI.row.at (by omega); rwa [hlen'] at this
      have cA := CallsIn.inRound l2 ((callsIn_wide (n := 17)).2 (age_ x l' _ V hia hok hI.fine.mild))
      have hab := hI.fine.age hok
      have hfb := hI.fine.at (x.flow : Int)
      have hfl : x.flow < n := by have := hok.flow; omega
      have f0 : V.cell? ⟨bl, x.flow, none⟩ = some (.int .i64 (lateAt l' x.flow)) := by rw [lateAt_nat l' _ hok.flow]; exact hI.row.cell _ hok.flow
      have z0 : V.cell? ⟨Bx, 0, none⟩ = some (.int .i64 (x.flow : Int)) := by rw [cell_of_row _ _ _ _ 61 (0, 0) hRow]; rfl
      have z1 : V.cell? ⟨Bx, 1, none⟩ = some (.string x.rf.1) := by rw [cell_of_row _ _ _ _ 61 (0, 0) hRow]; rfl
      have z2 : V.cell? ⟨Bx, 2, none⟩ = some (.int .i64 (x.rf.2 : Int)) := by rw [cell_of_row _ _ _ _ 61 (0, 0) hRow]; rfl
      have z3 : V.cell? ⟨Bx, 3, none⟩ = some (.int .i64 x.of) := by rw [cell_of_row _ _ _ _ 61 (0, 0) hRow]; rfl
      have z4 : V.cell? ⟨Bx, 4, none⟩ = some (.int .i64 (x.way : Int)) := by rw [cell_of_row _ _ _ _ 61 (0, 0) hRow]; rfl
      have z5 : V.cell? ⟨bl + 1, 0, none⟩ = some (.slice (some ⟨bl, 0, none⟩) n n) := by rw [cell_of_row _ _ _ _ 29 (0, 0) hI.box]; rfl
      have HK : Hid (∀ a, a = ageV l' x → 0 ≤ a → turn (pre ++ [x]) l true = some (l', s)) := hid (fun a e h => turn_snoc_keep ht (by omega))
      have HO : Hid (∀ a f, a = ageV l' x → f = lateAt l' x.flow → ¬ 0 ≤ a → outB (f - a) = true → turn (pre ++ [x]) l true = none) := hid (fun a f e e2 h h2 => turn_snoc_out ht (by omega) (by rw [← e, ← e2]; exact h2))
      have HM : Hid (∀ a f, a = ageV l' x → f = lateAt l' x.flow → ¬ 0 ≤ a → outB (f - a) = false → turn (pre ++ [x]) l true = some (l'.set x.flow (f - a), false)) := hid (fun a f e e2 h h2 => by rw [e, e2]; exact turn_snoc_more ht (by omega) (by rw [← e, ← e2]; exact h2))
      have HK2 := hid (HK.out _ rfl)
      have HO2 := hid (HO.out _ _ rfl rfl)
      have HM2 := hid (HM.out _ _ rfl rfl)
      have HBX := hid hbx
      have HMK := hid hM
      have HRW := hid hRow
      have hBxs := (Array.getElem?_eq_some_iff.1 hRow).1
      have hn3 : 1 ≤ 20 - 1 - 1 := by omega
      have hll : l'.length = n := hlen'
      clear HK HO HM hI ht hlen' hxm hok hia hM hbx hRow hsn hlen hpre
      generalize ageV l' x = A at *
      generalize lateAt l' x.flow = F at *
      have hg1 : wrap64 (-A) = -A := wrap_in (by omega) (by omega)
      by_cases hA0 : 0 ≤ A
      · have HT2 := hid (HK2.out hA0)
        have hd : decide (-A ≤ 0) = true := by simp; omega
        have hd2 : -A ≤ 0 := by omega
        clear HK2 HO2 HM2
        gi_wp2_with
          (gi_at_call 40
           refine cA.mono ?_
           rintro e V2 ⟨rfl, hb2⟩
           have HI2 := hid (HI.out.step hb2)
           have HB2 := hid hb2
           clear hb2 cA)
        exact ⟨T', fun b hb => .inl hb, Buts.below HB2.out, l', s, HT2.out, HI2.out, (HB2.out.block _ HBX.out.lt).trans HBX.out, HMK.out.step HB2.out⟩
      · have hd : decide (-A ≤ 0) = false := by simp; omega
        have hd2 : ¬ -A ≤ 0 := by omega
        have hg2 : wrap64 (F + -A) = F - A := by rw [wrap_in (by omega) (by omega)]; omega
        have hfi : (x.flow : Int) < (n : Int) := by omega
        have hf0 : (0 : Int) ≤ (x.flow : Int) := by omega
        cases ho : outB (F - A) with
        | true =>
          have HT2 := hid (HO2.out hA0 ho)
          clear HK2 HO2 HM2
          gi_wp2_with (first
            | (gi_at_call 40
               refine cA.mono ?_
               rintro e V2 ⟨rfl, hb2⟩
               have y0 := cell_kept z0 hb2
               have y5 := cell_kept z5 hb2
               have g0 := cell_kept f0 hb2
               have hI2 := HI.out.step hb2
               have gf := hI2.row.frozen x.flow
               have hbx2 : Boxed V2 wr.heap.size 4 (.bool s) := (hb2.block _ HBX.out.lt).trans HBX.out
               have hbx3 : Boxed (V2.setCell ⟨bl, x.flow, none⟩ (.int .i64 (F - A))) wr.heap.size 4 (.bool s) := (Below.heap_setCell _ _ _ _ (by simp; omega)).trans hbx2
               have s0 : (V2.setCell ⟨bl, x.flow, none⟩ (.int .i64 (F - A))).cell? ⟨Bx, 0, none⟩ = some (.int .i64 (x.flow : Int)) := cell_same (Below.heap_setCell _ _ _ _ (by simp; omega)) y0
               have s5 : (V2.setCell ⟨bl, x.flow, none⟩ (.int .i64 (F - A))).cell? ⟨bl + 1, 0, none⟩ = some (.slice (some ⟨bl, 0, none⟩) n n) := cell_same (Below.heap_setCell _ _ _ _ (by simp)) y5
               have s1 : (V2.setCell ⟨bl, x.flow, none⟩ (.int .i64 (F - A))).cell? ⟨bl, x.flow, none⟩ = some (.int .i64 (F - A)) := World.cell?_setCell_same' _ _ _ (by rw [g0]; rfl)
               have s6 := hbx3.cell
               have s7 := hbx3.frozen
               have cO := CallsIn.inRound l2 ((callsIn_wide (n := 17)).2 (outside (F - A) (V2.setCell ⟨bl, x.flow, none⟩ (.int .i64 (F - A)))))
               rw [ho] at cO
               have HI2 := hid hI2
               have HB2 := hid hb2
               have HX3 := hid hbx3
               clear hb2 hI2 hbx2 hbx3 cA)
            | (gi_at_call 41; refine cO.mono ?_; rintro e V3 ⟨rfl, hv3⟩; subst hv3; clear cO))
          have hm2 := (HMK.out.step HB2.out).cell (o := x.flow) HMW.out (b := bl) (.inl (by omega)) (.int .i64 (F - A))
          exact ⟨T', fun b hb => .inl hb, (Buts.below HB2.out).trans (Buts.set _ _ _ _ (.inr (.inl rfl))), rfl, HT2.out, HI2.out.below.setCell (p := ⟨bl, x.flow, none⟩) hlo _, hm2⟩
        | false =>
          have HT2 := hid (HM2.out hA0 ho)
          clear HK2 HO2 HM2
          gi_wp2_with (first
            | (gi_at_call 40
               refine cA.mono ?_
               rintro e V2 ⟨rfl, hb2⟩
               have y0 := cell_kept z0 hb2
               have y5 := cell_kept z5 hb2
               have g0 := cell_kept f0 hb2
               have hI2 := HI.out.step hb2
               have gf := hI2.row.frozen x.flow
               have hbx2 : Boxed V2 wr.heap.size 4 (.bool s) := (hb2.block _ HBX.out.lt).trans HBX.out
               have hbx3 : Boxed (V2.setCell ⟨bl, x.flow, none⟩ (.int .i64 (F - A))) wr.heap.size 4 (.bool s) := (Below.heap_setCell _ _ _ _ (by simp; omega)).trans hbx2
               have s0 : (V2.setCell ⟨bl, x.flow, none⟩ (.int .i64 (F - A))).cell? ⟨Bx, 0, none⟩ = some (.int .i64 (x.flow : Int)) := cell_same (Below.heap_setCell _ _ _ _ (by simp; omega)) y0
               have s5 : (V2.setCell ⟨bl, x.flow, none⟩ (.int .i64 (F - A))).cell? ⟨bl + 1, 0, none⟩ = some (.slice (some ⟨bl, 0, none⟩) n n) := cell_same (Below.heap_setCell _ _ _ _ (by simp)) y5
               have s1 : (V2.setCell ⟨bl, x.flow, none⟩ (.int .i64 (F - A))).cell? ⟨bl, x.flow, none⟩ = some (.int .i64 (F - A)) := World.cell?_setCell_same' _ _ _ (by rw [g0]; rfl)
               have s6 := hbx3.cell
               have s7 := hbx3.frozen
               have cO := CallsIn.inRound l2 ((callsIn_wide (n := 17)).2 (outside (F - A) (V2.setCell ⟨bl, x.flow, none⟩ (.int .i64 (F - A)))))
               rw [ho] at cO
               have HI2 := hid hI2
               have HB2 := hid hb2
               have HX3 := hid hbx3
               clear hb2 hI2 hbx2 hbx3 cA)
            | (gi_at_call 41; refine cO.mono ?_; rintro e V3 ⟨rfl, hv3⟩; subst hv3; clear cO))
          have hm2 := (HMK.out.step HB2.out).cell (o := x.flow) HMW.out (b := bl) (.inl (by omega)) (.int .i64 (F - A))
          exact ⟨T', fun b hb => .inl hb, ((Buts.below HB2.out).trans (Buts.set _ _ _ _ (.inr (.inl rfl)))).trans (Buts.set _ _ _ _ (.inr (.inr rfl))), _, _, HT2.out, (HI2.out.put hlo x.flow ho).other hlo hbl2 _, HX3.out.set _, hm2.cell HMW.out (.inr (Nat.le_refl _)) _⟩
    case done =>
      rintro D ys T' V hD hsV rfl hsn ⟨l', s, ht, hI, hbx, hM⟩ hDf
      have hv := hbx.cell
      have HI := hid hI
      have HC := hid (hM.cons (by omega) (fun h => h) hDf (HM1.out.fresh (by omega)))
      have z5 : V.cell? ⟨bl + 1, 0, none⟩ = some (.slice (some ⟨bl, 0, none⟩) n n) := by rw [cell_of_row _ _ _ _ 29 (0, 0) hI.box]; rfl
      have HRS : Hid (RES = if s then some l' else leaF ys (n - k) l') := hid (by
        rw [hR.out, show n + 1 - k = (n - k) + 1 by omega]
        show (match turn ys l true with | none => none | some (l', s) => if s then some l' else leaF ys (n - k) l') = _
        rw [ht])
      clear hI hM ht hbx hDf hsn
      cases s with
      | true =>
        have HRT : Hid (RES = some l') := hid (by rw [HRS.out]; rfl)
        gi_wp2
        refine Mrk.leaves _ _ HC.out (fun w' hw' => ⟨_, results_tmp2 rfl _ _ _, ?_⟩)
        have hI' := HI.out.far hw' (Nat.le_refl _) hlo
        exact ⟨hI'.below, .inr ⟨l', by rw [← HR0.out, HRT.out], by rw [← hbl'.out]; rfl, by rw [← hbl'.out]; exact hI'.row, hI'.len, hI'.fine⟩⟩
      | false =>
        have HRT : Hid (RES = leaF ys (n + 1 - (k + 1)) l') := hid (by rw [HRS.out, show n + 1 - (k + 1) = n - k by omega]; rfl)
        gi_wp2
        have hk1 : (k : Int) + 1 = ((k + 1 : Nat) : Int) := by omega
        rw [hk1]
        exact ⟨n + 1 - (k + 1), by omega, k + 1, l', _, _, _, _, _, _, _, rfl, by omega, HRT, HI, HC, rfl⟩
    case stop =>
      rintro D c' pre T' V hD hsV hSp hsn ⟨rfl, ht, hB, hM⟩ hDf
      have HC := hid (hM.cons (by omega) (fun h => h) hDf (HM1.out.fresh (by omega)))
      have HB := hid hB
      have HRT : Hid (RES = none) := hid (by
        rw [hR.out, show n + 1 - k = (n - k) + 1 by omega]
        show (match turn L l true with | none => none | some (l', s) => if s then some l' else leaF L (n - k) l') = _
        rw [turn_prefix_none ht hSp])
      clear hM ht hB hDf hsn hSp
      gi_wp2
      refine Mrk.leaves _ _ HC.out (fun w' hw' => ⟨_, results_tmp2 rfl _ _ _, ?_⟩)
      exact ⟨HB.out.trans ⟨hw'.os, hw'.tape, hw'.output, hw'.size, fun b hb => hw'.block b (by have := HB.out.size; omega) (.inl (by omega))⟩, .inl ⟨by rw [← HR0.out, HRT.out], rfl⟩⟩
  · have hkl' : ¬ (k : Int) < (n : Int) + 1 := by omega
    have hke : k = n + 1 := by omega
    have HN : Hid (RES = none) := hid (by rw [hR.out, hke, Nat.sub_self]; rfl)
    gi_wp2
    refine Mrk.leaves _ _ hMk.out (fun w' hw' => ⟨_, results_tmp2 rfl _ _ _, ?_⟩)
    exact ⟨(hLI.out.far hw' (Nat.le_refl _) hlo).below, .inl ⟨by rw [← HR0.out, HN.out], rfl⟩⟩
end Go.Proofs.YtgkbbdenmgienaaDoor.Lex
namespace Go.Proofs.YtgkbbdenmgienaaDoor.Lex
open Go.ChangeShapes Go.WideShapes Go.ChangeAt Go.RowKit Go.Joins
/-- How late they are told to be. -/
def ofL (p : Pg) : Option (List Int) := leaF (allL p) (p.flows.length + 1) (List.replicate p.flows.length 0)
/-- What is answered. -/
def OfP (w : World) (p : Pg) (e : Ending) (w' : World) : Prop :=
  (nmErr p ≠ 0 ∧ e = .returned (.tuple #[.slice none 0 0, .int .i64 (nmErr p)])) ∨ (nmErr p = 0 ∧ ofL p = none ∧ e = .returned (.tuple #[.slice none 0 0, .int .i64 10])) ∨
    ∃ l b, nmErr p = 0 ∧ ofL p = some l ∧ e = .returned (.tuple #[.slice (some ⟨b, 0, none⟩) p.flows.length p.flows.length, .int .i64 0]) ∧ w.heap.size ≤ b ∧ Rowl w' b l ∧ l.length = p.flows.length ∧ Fine l
theorem results_two {fn : Func} {t u : Tmp} (h : fn.results = #[.tmp t, .tmp u]) (tmps : Array Value) (P : Program) (w : World) : (results fn tmps).run P w = .ok (.tuple #[tmps.getD t undef, tmps.getD u undef]) w := by
  simp [results, h, go_sem]
set_option maxRecDepth 100000 in
set_option maxHeartbeats 4000000 in
theorem of_l (p : Pg) (w : World) (A B C : Value) (hP : PgAt w p A B C) (hR : TabR w) (hJ : TabJ w) : Calls Tryd.prog 7 #[pgV p A B C] w fun e w' => OfP w p e w' ∧ Below w.heap.size w w' := by
  obtain ⟨bo, cbp, _, rfl, _⟩ := hP.flows
  have X0 := hid (FV.new hP hR hJ)
  have HP := hid hP
  clear hP hR hJ
  have RT := @results_two Tryd.f7 2 3 rfl
  go_enter Tryd.func7, Tryd.ntmps7
  obtain ⟨r0, r1, r2, r3⟩ := row4 X0.out.row
  go_wp2_with (fail)
  refine ((callsIn_wide (n := 20)).1 (names_check p _ _ _ _ X0.out.P X0.out.R X0.out.J)).mono ?_
  rintro e w1 ⟨rfl, hb1⟩
  have X1 := hid (X0.out.keep hb1)
  clear hb1 X0 r0 r1 r2 r3
  by_cases hE : nmErr p = 0
  · have HE := hid hE
    obtain ⟨s0, s1, s2, s3⟩ := row4 X1.out.row
    rw [hE]
    clear hE
    go_wp2_with (fail)
    refine ((callsIn_wide (n := 20)).1 (all_ 20 p _ _ _ _)).mono ?_
    rintro e w2 ⟨rfl, hw2⟩
    have hb2 : Below w1.heap.size w1 w2 := by rw [hw2]; exact (Below.refl _ w1).alloc (Nat.le_refl _) _
    have hr2 : w2.heap[w1.heap.size]? = some (.cells (pgC p A (.slice bo p.flows.length cbp) C) 26 (0, 0)) := by rw [hw2]; exact heap_alloc_new w1 _
    have X2 := hid (X1.out.keep hb2)
    have HB2 := hid hb2
    have HR2 := hid hr2
    clear hw2 hb2 hr2 s0 s1 s2 s3
    go_wp2_with (fail)
    refine ((callsIn_wide (n := 18)).1 (collect w1.heap.size p _ _ _ w w2 X2.out.below HP.out HE.out HR2.out)).mono ?_
    rintro e w3 ⟨v, rfl, hrow, hb3⟩
    have X3 := hid (X2.out.keep hb3)
    have hlen : (allL p).length ≤ 25600 := by
      have h1 := allN_len (nm_chk HE.out) p.flows.length (Nat.le_refl _)
      have h2 := (pgOk_few HE.out).2
      unfold allL
      omega
    have hwa := WAt.of_own hrow (by omega)
    obtain ⟨va, vc, rfl, hw0⟩ := hwa
    have HWA := hid (show WAt w3 (allL p) _ from ⟨va, vc, rfl, hw0⟩)
    clear hrow hb3 hw0
    obtain ⟨s0, s1, s2, s3⟩ := row4 X3.out.row
    go_wp2_with (fail)
    refine wp_region_held_drew (S := fun W => W.cell? ⟨w.heap.size, 2, none⟩ = some (.slice bo p.flows.length cbp)) (by kernel_rfl) ?_ (fun hHeld => ?_)
    · exact s2
    refine wpAnyH_take (i := 0) (oi := { dst := some 17, op := Go.Op.fieldAddr 26 (Go.Operand.tmp 1) 2, type := 0, pos := _, after := #[], guard := none }) (v := ?_) rfl (by kernel_rfl) (by kernel_rfl) (by kernel_rfl) (fun _ _ _ h => h) (Or.inl ⟨by rfl, ?_⟩) (by assumption) ?_
    rotate_left
    · intro w hSw; (try dsimp only at hSw); go_simp <;> first | with_reducible rfl | (rw [if_neg (by first | omega | (simp only [ByteArray.size_append] at *; omega))])
    simp only [Act.put, List.setIfInBounds_toArray, List.set_cons_zero, List.set_cons_succ]
    refine wpAnyH_take (i := 1) (oi := { dst := some 18, op := Go.Op.load 23 (Go.Operand.tmp 17), type := 23, pos := _, after := #[{ on := 0, ground := Go.Ground.data }], guard := none }) (v := ?_) rfl (by kernel_rfl) (by kernel_rfl) (by kernel_rfl) (fun _ _ _ h => h) (Or.inl ⟨by rfl, ?_⟩) (by assumption) ?_
    rotate_left
    · intro w hSw; (try dsimp only at hSw); go_simp <;> first | with_reducible rfl | (rw [if_neg (by first | omega | (simp only [ByteArray.size_append] at *; omega))])
    simp only [Act.put, List.setIfInBounds_toArray, List.set_cons_zero, List.set_cons_succ]
    refine wpAnyH_take (i := 2) (oi := { dst := some 19, op := Go.Op.call { callee := Go.Callee.builtin Go.Builtin.len, args := #[Go.Operand.tmp 18], argTypes := #[23] }, type := 3, pos := _, after := #[{ on := 1, ground := Go.Ground.data }], guard := none }) (v := ?_) rfl (by kernel_rfl) (by kernel_rfl) (by kernel_rfl) (fun _ _ _ h => h) (Or.inl ⟨by rfl, ?_⟩) (by assumption) ?_
    rotate_left
    · intro w hSw; (try dsimp only at hSw); go_simp <;> first | with_reducible rfl | (rw [if_neg (by first | omega | (simp only [ByteArray.size_append] at *; omega))])
    simp only [Act.put, List.setIfInBounds_toArray, List.set_cons_zero, List.set_cons_succ]
    refine wpAnyH_take (i := 3) (oi := { dst := some 20, op := Go.Op.move (Go.Operand.tmp 5), type := 56, pos := _, after := #[], guard := none }) (v := ?_) rfl (by kernel_rfl) (by kernel_rfl) (by kernel_rfl) (fun _ _ _ h => h) (Or.inl ⟨by rfl, ?_⟩) (by assumption) ?_
    rotate_left
    · intro w hSw; (try dsimp only at hSw); go_simp <;> first | with_reducible rfl | (rw [if_neg (by first | omega | (simp only [ByteArray.size_append] at *; omega))])
    simp only [Act.put, List.setIfInBounds_toArray, List.set_cons_zero, List.set_cons_succ]
    refine wpAnyH_ready (rs := [4]) (by kernel_rfl) (by simp) ?_
    refine AllReadyH.cons (o := { dst := some 21, op := Go.Op.call { callee := Go.Callee.value (Go.Operand.func 19), args := #[Go.Operand.tmp 20], argTypes := #[56] }, type := 63, pos := _, after := #[{ on := 3, ground := Go.Ground.data }], guard := none }) rfl (fun K hK => ?_) AllReadyH.nil
    go_simp
    refine ((callsIn_wide (n := 20)).1 (values_ _ 20 _ ⟨_, _, _, rfl⟩)).mono ?_
    rintro e w4 ⟨rfl, hw4⟩
    have hb4 : Below w3.heap.size w3 w4 := by rw [hw4]; exact (Below.refl w3.heap.size w3).drew.alloc (Nat.le_refl _) _
    have hr4 : w4.heap[w3.heap.size]? = some (.cells #[.slice va (allL p).length vc] 56 (0, 0)) := by rw [hw4]; exact heap_alloc_new _ _
    have X4 := hid (X3.out.keep hb4)
    have WA4 := hid (HWA.out.keep hb4)
    have u2 := (row4 X4.out.row).2.2.1
    have HR4 := hid hr4
    clear hw4 hb4 hr4 s0 s1 s2 s3
    go_wp2_with fail
    refine hK.out _ _ ?_ (fun hHeld1 => ?_)
    · exact u2
    clear hK K
    refine wpAnyH_ready (rs := [5]) (by kernel_rfl) (by simp) ?_
    refine AllReadyH.cons (o := { dst := some 22, op := Go.Op.call { callee := Go.Callee.value (Go.Operand.func 18), args := #[Go.Operand.tmp 19, Go.Operand.tmp 21], argTypes := #[3, 63] }, type := 65, pos := _, after := #[{ on := 2, ground := Go.Ground.data }, { on := 4, ground := Go.Ground.data }, { on := 4, ground := Go.Ground.chain }], guard := none }) rfl (fun K hK => ?_) AllReadyH.nil
    go_simp
    refine ((callsIn_wide (n := 20)).1 (least_ p.flows.length w3.heap.size (allL p) _ _ (by have := (pgOk_few HE.out).2; omega) WA4.out (allL_ok (nm_chk HE.out)) HR4.out)).mono ?_
    rintro e w5 ⟨hb5, he5⟩
    have hb5' : Below w4.heap.size w4 w5 := hb5
    have X5 := hid (X4.out.keep hb5')
    have n2 := (row4 X5.out.row).2.2.1
    obtain ⟨v5, ok, rfl, he6⟩ : ∃ v5 ok, e = .returned (.tuple #[v5, .bool ok]) ∧ ((leaF (allL p) (p.flows.length + 1) (List.replicate p.flows.length 0) = none ∧ v5 = .slice none 0 0 ∧ ok = false) ∨ (∃ l, leaF (allL p) (p.flows.length + 1) (List.replicate p.flows.length 0) = some l ∧ v5 = .slice (some ⟨w4.heap.size, 0, none⟩) p.flows.length p.flows.length ∧ ok = true ∧ Rowl w5 w4.heap.size l ∧ l.length = p.flows.length ∧ Fine l)) := he5.elim (fun h => ⟨_, _, h.2, .inl ⟨h.1, rfl, rfl⟩⟩) (fun ⟨l, h1, h2, h3⟩ => ⟨_, _, h2, .inr ⟨l, h1, rfl, rfl, h3⟩⟩)
    have HE5 := hid he6
    have HSZ4 := hid (X4.out.below.size)
    clear hb5 hb5' he5 he6 u2
    go_wp2_with fail
    refine hK.out _ _ ?_ (fun hHeld2 => ?_)
    · exact n2
    clear hK K
    refine wpAnyH_take (i := 6) (oi := { dst := some 16, op := Go.Op.move (Go.Operand.tmp 22), type := 65, pos := _, after := #[{ on := 5, ground := Go.Ground.data }], guard := none }) (v := ?_) rfl (by kernel_rfl) (by kernel_rfl) (by kernel_rfl) (fun _ _ _ h => h) (Or.inl ⟨by rfl, ?_⟩) (by assumption) ?_
    rotate_left
    · intro w hSw; (try dsimp only at hSw); go_simp <;> first | with_reducible rfl | (rw [if_neg (by first | omega | (simp only [ByteArray.size_append] at *; omega))])
    simp only [Act.put, List.setIfInBounds_toArray, List.set_cons_zero, List.set_cons_succ]
    refine wpAnyH_take (i := 7) (oi := { dst := some 23, op := Go.Op.extract (Go.Operand.tmp 16) 0, type := 29, pos := _, after := #[{ on := 6, ground := Go.Ground.data }], guard := none }) (v := ?_) rfl (by kernel_rfl) (by kernel_rfl) (by kernel_rfl) (fun _ _ _ h => h) (Or.inl ⟨by rfl, ?_⟩) (by assumption) ?_
    rotate_left
    · intro w hSw; (try dsimp only at hSw); go_simp <;> first | with_reducible rfl | (rw [if_neg (by first | omega | (simp only [ByteArray.size_append] at *; omega))])
    simp only [Act.put, List.setIfInBounds_toArray, List.set_cons_zero, List.set_cons_succ]
    refine wpAnyH_take (i := 8) (oi := { dst := some 24, op := Go.Op.extract (Go.Operand.tmp 16) 1, type := 4, pos := _, after := #[{ on := 6, ground := Go.Ground.data }, { on := 9, ground := Go.Ground.gcOnly Go.Departure.lateStores }], guard := none }) (v := ?_) rfl (by kernel_rfl) (by kernel_rfl) (by kernel_rfl) (fun _ _ _ h => h) (Or.inl ⟨by rfl, ?_⟩) (by assumption) ?_
    rotate_left
    · intro w hSw; (try dsimp only at hSw); go_simp <;> first | with_reducible rfl | (rw [if_neg (by first | omega | (simp only [ByteArray.size_append] at *; omega))])
    simp only [Act.put, List.setIfInBounds_toArray, List.set_cons_zero, List.set_cons_succ]
    refine wpAnyH_take (i := 9) (oi := { dst := some 6, op := Go.Op.assign (Go.Operand.tmp 23), type := 29, pos := _, after := #[{ on := 7, ground := Go.Ground.data }, { on := 5, ground := Go.Ground.chain }, { on := 0, ground := Go.Ground.phase }, { on := 1, ground := Go.Ground.phase }, { on := 2, ground := Go.Ground.phase }, { on := 3, ground := Go.Ground.phase }, { on := 4, ground := Go.Ground.phase }, { on := 5, ground := Go.Ground.phase }, { on := 6, ground := Go.Ground.phase }, { on := 7, ground := Go.Ground.phase }, { on := 8, ground := Go.Ground.textOnly Go.Departure.lateStores }], guard := none }) (v := ?_) rfl (by kernel_rfl) (by kernel_rfl) (by kernel_rfl) (fun _ _ _ h => h) (Or.inl ⟨by rfl, ?_⟩) (by assumption) ?_
    rotate_left
    · intro w hSw; (try dsimp only at hSw); go_simp <;> first | with_reducible rfl | (rw [if_neg (by first | omega | (simp only [ByteArray.size_append] at *; omega))])
    simp only [Act.put, List.setIfInBounds_toArray, List.set_cons_zero, List.set_cons_succ]
    refine wpAnyH_take (i := 10) (oi := { dst := some 7, op := Go.Op.assign (Go.Operand.tmp 24), type := 4, pos := _, after := #[{ on := 8, ground := Go.Ground.data }, { on := 9, ground := Go.Ground.chain }, { on := 0, ground := Go.Ground.phase }, { on := 1, ground := Go.Ground.phase }, { on := 2, ground := Go.Ground.phase }, { on := 3, ground := Go.Ground.phase }, { on := 4, ground := Go.Ground.phase }, { on := 5, ground := Go.Ground.phase }, { on := 6, ground := Go.Ground.phase }, { on := 7, ground := Go.Ground.phase }, { on := 8, ground := Go.Ground.phase }, { on := 9, ground := Go.Ground.phase }], guard := none }) (v := ?_) rfl (by kernel_rfl) (by kernel_rfl) (by kernel_rfl) (fun _ _ _ h => h) (Or.inl ⟨by rfl, ?_⟩) (by assumption) ?_
    rotate_left
    · intro w hSw; (try dsimp only at hSw); go_simp <;> first | with_reducible rfl | (rw [if_neg (by first | omega | (simp only [ByteArray.size_append] at *; omega))])
    simp only [Act.put, List.setIfInBounds_toArray, List.set_cons_zero, List.set_cons_succ]
    refine wpAnyH_done (by kernel_rfl) ?_ _
    clear n2
    rcases HE5.out with ⟨h1, rfl, rfl⟩ | ⟨l, h1, rfl, rfl, h2, h3, h4⟩
    · have HV : Hid (OfP w p (.returned (.tuple #[.slice none 0 0, .int .i64 10])) w5) := hid (.inr (.inl ⟨HE.out, h1, rfl⟩))
      clear h1 HE5
      go_wp2_with (fail)
      (try simp only [Exit.inBlock, Exit.then])
      refine bodyPost_ret (RT _ _ _) rfl ⟨HV.out, X5.out.below⟩
    · have HV : Hid (OfP w p (.returned (.tuple #[.slice (some ⟨w4.heap.size, 0, none⟩) p.flows.length p.flows.length, .int .i64 0])) w5) := hid (.inr (.inr ⟨l, w4.heap.size, HE.out, h1, rfl, HSZ4.out, h2, h3, h4⟩))
      clear h1 h2 h3 h4 HE5
      go_wp2_with (fail)
      (try simp only [Exit.inBlock, Exit.then])
      refine bodyPost_ret (RT _ _ _) rfl ⟨HV.out, X5.out.below⟩
  · have HE := hid hE
    have hne : (nmErr p != 0) = true := by simpa using hE
    have HNE := hid hne
    have HV : Hid (∀ E, E = nmErr p → OfP w p (.returned (.tuple #[.slice none 0 0, .int .i64 E])) w1) := hid (fun E h => .inl ⟨HE.out, by rw [h]⟩)
    have HV2 := hid (HV.out _ rfl)
    clear HV hE
    generalize nmErr p = E at *
    go_wp2_with (fail)
    (try simp only [Exit.inBlock, Exit.then])
    refine bodyPost_ret (RT _ _ _) rfl ⟨HV2.out, X1.out.below⟩
end Go.Proofs.YtgkbbdenmgienaaDoor.Lex
namespace Go.Proofs.YtgkbbdenmgienaaDoor.Lex
theorem find_of_asked {p : Pg} (h : nmOk p = true) {s : ByteArray} (hs : s ∈ askedL p) : ∃ x, findT (thingsL p) s = some x := by
  unfold nmOk at h
  simp only [Bool.and_eq_true, List.all_eq_true] at h
  have h1 := h.2.1 s hs
  unfold none_ at h1
  exact find_some (by simpa using h1)
theorem sane {p : Pg} (hE : nmErr p = 0) : Sane p.flows.length (allL p) := by
  obtain ⟨_, hn⟩ := nmErr_zero hE
  refine ⟨allL_ok (nm_chk hE), fun x hx hof => ?_⟩
  obtain ⟨k, hk, hx⟩ := List.mem_flatMap.1 hx
  have hkl := List.mem_range.1 hk
  rw [wishL_at hkl] at hx
  obtain ⟨r, hr, rfl⟩ := List.mem_map.1 hx
  have hask : r.1 ∈ askedL p := List.mem_flatMap.2 ⟨p.flows[k], List.getElem_mem hkl, List.mem_map.2 ⟨r, hr, rfl⟩⟩
  obtain ⟨y, hy⟩ := find_of_asked hn hask
  have hof : plO (findT (thingsL p) r.1) = k := hof
  show (if stO (findT (thingsL p) r.1) = p.flows[k].st then 0 else 1) = 0
  rw [hy] at hof ⊢
  have h1 : y.1 = (k : Int) := hof
  have hm := List.mem_of_find?_eq_some hy
  have h2 : y.2 = p.flows[k].hd := by
    rcases List.mem_append.1 hm with hm | hm
    · obtain ⟨z, _, rfl⟩ := List.mem_map.1 hm
      have : (-1 : Int) = (k : Int) := h1
      omega
    · obtain ⟨i, hi, rfl⟩ := List.mem_map.1 hm
      have : i = k := by have : (i : Int) = (k : Int) := h1; omega
      subst this
      show (p.flows[i]?.map Fl.hd).getD _ = _
      rw [List.getElem?_eq_getElem hkl]; rfl
  rw [if_pos (show stO (some y) = p.flows[k].st by show y.2.st = _; rw [h2])]
/-- What is told may be. -/
theorem of_late {p : Pg} {l : List Int} (hE : nmErr p = 0) (h : ofL p = some l) (hf : Fine l) : lateOk p l = true ∧ l.length = p.flows.length ∧ Tight (allL p) l ∧ (∀ m, m.length = p.flows.length → Sol (allL p) m → Leq l m) := by
  obtain ⟨h1, h2, h3, h4⟩ := leaF_inv (sane hE) _ _ _ h List.length_replicate (Tight.zeros _ _)
  refine ⟨?_, h2, h1, fun m _ hm => h4 m hm (Leq.zeros hm.1 _)⟩
  unfold lateOk agesOk
  rw [hE, h2, hf.out]
  simp only [decide_true, Bool.true_and, Bool.not_false, List.all_eq_true, decide_eq_true_eq]
  exact h3
/-- Each Age of what is asked for is there, and at least 0. -/
theorem age_there {p : Pg} {l : List Int} (hl : lateOk p l = true) {i : Nat} (hi : i < p.flows.length) {r : Rf} (hr : r ∈ gat 32 p.flows[i].body 0 []) : ∃ a : Int, ageF p l i r.1 r.2 = (a, 0) ∧ 0 ≤ a := by
  have hx : mkW p i p.flows[i].st r ∈ wishL p i := by rw [wishL_at hi]; exact List.mem_map.2 ⟨r, hr, rfl⟩
  have hlo := hl
  unfold lateOk agesOk at hlo
  simp only [Bool.and_eq_true, List.all_eq_true, decide_eq_true_eq] at hlo
  unfold ageF
  rw [if_pos ⟨hl, by omega, by omega⟩]
  show ∃ a : Int, ageO l ((wishL p (i : Int).toNat).find? _) = (a, 0) ∧ 0 ≤ a
  rw [Int.toNat_natCast]
  cases e : (wishL p i).find? (isRf r.1 r.2) with
  | none =>
    have := (List.find?_eq_none.1 e) _ hx
    exact (this (by unfold isRf mkW; simp)).elim
  | some x => exact ⟨ageV l x, rfl, hlo.2.2.2 x (List.mem_flatMap.2 ⟨i, List.mem_range.2 hi, List.mem_of_find?_eq_some e⟩)⟩
/-- With one less late, and others as they are, or later, flows may not be. -/
theorem less_not {p : Pg} {l o : List Int} (hE : nmErr p = 0) (ht : Tight (allL p) l) (hlen : l.length = p.flows.length) {i : Nat} (hi : i < l.length) (hlo : o.length = l.length) (h1 : lateAt o i = lateAt l i - 1) (h2 : ∀ j : Nat, j ≠ i → lateAt l j ≤ lateAt o j) : lateOk p o = false := by
  rcases ht i hi with h0 | ⟨x, hx, hxf, hxo, ha⟩
  · have ho : anyOut o = true := by
      unfold anyOut
      rw [List.any_eq_true]
      refine ⟨o[i], List.getElem_mem _, ?_⟩
      have := lateAt_nat o i (by omega)
      unfold outB
      rw [← this, h1, h0]
      rfl
    unfold lateOk
    rw [ho]
    simp
  · have hs := (sane hE).ok x hx
    have hag : agesOk p o = false := by
      unfold agesOk
      rw [List.all_eq_false]
      refine ⟨x, hx, ?_⟩
      have : ageV o x < 0 := by
        unfold ageV at ha ⊢
        rw [hxf] at ha ⊢
        rw [h1]
        split at ha
        · rename_i h3
          rw [if_pos h3]
          have h4 := h2 x.of.toNat (fun e => hxo (by omega))
          rw [Int.toNat_of_nonneg h3] at h4
          omega
        · rename_i h3
          rw [if_neg h3]
          omega
      simp
      omega
    unfold lateOk
    rw [hag]
    simp
end Go.Proofs.YtgkbbdenmgienaaDoor.Lex
namespace Go.Proofs.YtgkbbdenmgienaaDoor.Lex
open Go.ChangeShapes Go.WideShapes Go.ChangeAt Go.RowKit Go.Joins
/-- One more age. -/
def oldS (l : List Int) (since m : Int) (y : Ak) : Int := max m (lateAt l (y.fl : Int) + (y.ago : Int) - since)
/-- The greatest age at which a station asks for it, or 0. -/
def oldF (l : List Int) (s since : Int) (ks : List Ak) : Int := (ks.filter (hereB s)).foldl (oldS l since) 0
theorem oldF_succ (l : List Int) (s since : Int) (ks : List Ak) {k : Nat} (h : k < ks.length) : oldF l s since (ks.take (k + 1)) = if hereB s ks[k] then oldS l since (oldF l s since (ks.take k)) ks[k] else oldF l s since (ks.take k) := by
  unfold oldF
  rw [List.take_succ_eq_append_getElem h, List.filter_append, List.foldl_append, List.filter_cons]
  split <;> rfl
theorem IAt.row_some {w : World} {l : List Int} {ao : Option Addr} {cap : Nat} (h : IAt w l (.slice ao l.length cap)) (hl : 0 < l.length) : ∃ b o, ao = some ⟨b, o, none⟩ ∧ ∀ i (h : i < l.length), w.cell? ⟨b, o + i, none⟩ = some (.int .i64 l[i]) := by
  obtain ⟨ao', cap', e, _, h⟩ := h
  injection e with e _ _
  subst e
  exact h.resolve_left (by omega)
set_option maxRecDepth 100000 in
set_option maxHeartbeats 4000000 in
theorem oldest_ (p : Pg) (A B C : Value) (s since : Int) (mb : Nat) (L : List (ByteArray × Ak)) (hL : L.length ≤ 1000000) (nm : ByteArray) (hN : NmK nm) (l : List Int) (lv : Value) (w : World) (hM : AMr w mb L) (hI : IAt w l lv) (hF : Mild l) (hs : -1000000 ≤ since ∧ since ≤ 1000000) (hY : ∀ y ∈ akOf L nm, y.fl < l.length ∧ y.ago ≤ 1000000) :
    Calls Tryd.prog 52 #[cutV p A B C s mb, .string nm, .int .i64 since, lv] w fun e w' => e = .returned (.int .i64 (oldF l s since (akOf L nm))) ∧ Below w.heap.size w w' := by
  have hal := (Below.refl w.heap.size w).alloc (Nat.le_refl _) (.cells (cutC p A B C s mb) 70)
  have XC : Hid (CutAt (w.alloc (.cells (cutC p A B C s mb) 70)) w.heap.size (cutC p A B C s mb)) := hid (heap_alloc_new _ _)
  have XM := hid (hM.keep hal)
  have XB := hid hal
  have HI := hid hI
  have HF := hid hF
  have HY := hid hY
  have hlen := akOf_len L nm
  obtain ⟨la, lc, rfl, hlc, _⟩ := hI
  clear hal hM hF hY
  go_enter Tryd.func52, Tryd.ntmps52
  go_wp2_with (fail)
  refine wp_region_held_drew (S := fun W => W.cell? ⟨w.heap.size, 5, none⟩ = some (.map (some mb))) (by kernel_rfl) ?_ (fun hHeld => ?_)
  · exact XC.out.cells.2.2.2.2.2
  refine wpAnyH_take (i := 0) (oi := { dst := some 12, op := Go.Op.fieldAddr 70 (Go.Operand.tmp 4) 2, type := 0, pos := _, after := #[], guard := none }) (v := ?_) rfl (by kernel_rfl) (by kernel_rfl) (by kernel_rfl) (fun _ _ _ h => h) (Or.inl ⟨by rfl, ?_⟩) (by assumption) ?_
  rotate_left
  · intro w hSw; (try dsimp only at hSw); go_simp <;> first | with_reducible rfl | (rw [if_neg (by first | omega | (simp only [ByteArray.size_append] at *; omega))])
  simp only [Act.put, List.setIfInBounds_toArray, List.set_cons_zero, List.set_cons_succ]
  refine wpAnyH_take (i := 1) (oi := { dst := some 13, op := Go.Op.load 68 (Go.Operand.tmp 12), type := 68, pos := _, after := #[{ on := 0, ground := Go.Ground.data }], guard := none }) (v := ?_) rfl (by kernel_rfl) (by kernel_rfl) (by kernel_rfl) (fun _ _ _ h => h) (Or.inl ⟨by rfl, ?_⟩) (by assumption) ?_
  rotate_left
  · intro w hSw; (try dsimp only at hSw); go_simp <;> first | with_reducible rfl | (rw [if_neg (by first | omega | (simp only [ByteArray.size_append] at *; omega))])
  simp only [Act.put, List.setIfInBounds_toArray, List.set_cons_zero, List.set_cons_succ]
  refine wpAnyH_take (i := 2) (oi := { dst := some 14, op := Go.Op.move (Go.Operand.tmp 1), type := 9, pos := _, after := #[], guard := none }) (v := ?_) rfl (by kernel_rfl) (by kernel_rfl) (by kernel_rfl) (fun _ _ _ h => h) (Or.inl ⟨by rfl, ?_⟩) (by assumption) ?_
  rotate_left
  · intro w hSw; (try dsimp only at hSw); go_simp <;> first | with_reducible rfl | (rw [if_neg (by first | omega | (simp only [ByteArray.size_append] at *; omega))])
  simp only [Act.put, List.setIfInBounds_toArray, List.set_cons_zero, List.set_cons_succ]
  refine wpAnyH_take (i := 6) (oi := { dst := some 18, op := Go.Op.move (Go.Operand.const (Go.Value.int Go.IntKind.i64 0)), type := 3, pos := _, after := #[], guard := none }) (v := ?_) rfl (by kernel_rfl) (by kernel_rfl) (by kernel_rfl) (fun _ _ _ h => h) (Or.inl ⟨by rfl, ?_⟩) (by assumption) ?_
  rotate_left
  · intro w hSw; (try dsimp only at hSw); go_simp <;> first | with_reducible rfl | (rw [if_neg (by first | omega | (simp only [ByteArray.size_append] at *; omega))])
  simp only [Act.put, List.setIfInBounds_toArray, List.set_cons_zero, List.set_cons_succ]
  refine wpAnyH_ready (rs := [3]) (by kernel_rfl) (by simp) ?_
  refine AllReadyH.cons (o := { dst := some 15, op := Go.Op.call { callee := Go.Callee.value (Go.Operand.func 46), args := #[Go.Operand.tmp 14], argTypes := #[9] }, type := 107, pos := _, after := #[{ on := 2, ground := Go.Ground.data }], guard := none }) rfl (fun K hK => ?_) AllReadyH.nil
  go_simp
  refine (key_of nm _ hN.1).mono ?_
  rintro e w2 ⟨rfl, hb2⟩
  have hb2' := (Below.refl _ _).drew.trans hb2
  have C2 := hid (XC.out.keep hb2')
  have M2 := hid (XM.out.keep hb2')
  have B2 := hid (XB.out.trans (hb2'.mono XB.out.size))
  clear hb2 hb2'
  go_wp2_with fail
  refine hK.out _ _ ?_ (fun hHeld1 => ?_)
  · exact C2.out.cells.2.2.2.2.2
  clear hK K
  obtain ⟨v, hv, hlk⟩ := M2.out.look hN
  obtain ⟨va, vc, hve, hvr⟩ := hv
  subst hve
  have HVR := hid hvr
  clear hvr
  refine wpAnyH_ready (rs := [4]) (by kernel_rfl) (by simp) ?_
  refine AllReadyH.cons (o := { dst := some 16, op := Go.Op.lookup 68 (Go.Operand.tmp 13) (Go.Operand.tmp 15) false, type := 103, pos := _, after := #[{ on := 1, ground := Go.Ground.data }, { on := 3, ground := Go.Ground.data }], guard := none }) rfl (fun K hK => ?_) AllReadyH.nil
  refine if_take (by rfl) ?_
  refine wp_look (.tmp 13) (.tmp 15) 68 rfl rfl rfl (hlk _ rfl) ?_
  refine hK.out _ _ ?_ (fun hHeldL4 => ?_)
  · exact C2.out.cells.2.2.2.2.2
  clear hK K
  clear hlk
  refine wpAnyH_take (i := 5) (oi := { dst := some 17, op := Go.Op.call { callee := Go.Callee.builtin Go.Builtin.len, args := #[Go.Operand.tmp 16], argTypes := #[103] }, type := 3, pos := _, after := #[{ on := 4, ground := Go.Ground.data }], guard := none }) (v := ?_) rfl (by kernel_rfl) (by kernel_rfl) (by kernel_rfl) (fun _ _ _ h => h) (Or.inl ⟨by rfl, ?_⟩) (by assumption) ?_
  rotate_left
  · intro w hSw; (try dsimp only at hSw); go_simp <;> first | with_reducible rfl | (rw [if_neg (by first | omega | (simp only [ByteArray.size_append] at *; omega))])
  simp only [Act.put, List.setIfInBounds_toArray, List.set_cons_zero, List.set_cons_succ]
  refine wpAnyH_done (by kernel_rfl) ?_ _
  generalize hks : akOf L nm = ks at *
  have HKS := hid hks
  clear hks
  go_wp2_with (fail)
  go_loopw [9, 18] (fun m i wr => ∃ k : Nat, k ≤ ks.length ∧ m = .int .i64 (oldF l s since (ks.take k)) ∧ i = .int .i64 (k : Int) ∧ Hid (Below w2.heap.size w2 wr)) (fun _ i _ => ks.length - (intOf i).toNat)
  case atStart => exact ⟨0, Nat.zero_le _, rfl, rfl, hid (Below.refl _ _)⟩
  case round =>
    obtain ⟨k, hk, rfl, rfl, HB⟩ := hrel
    by_cases hlt : k < ks.length
    · have hlt' : (k : Int) < (ks.length : Int) := by omega
      have hk0 : (0 : Int) ≤ (k : Int) := by omega
      obtain ⟨g, rfl, _, hcc⟩ := HVR.out.resolve_left (by omega)
      obtain ⟨z0, z1, z2⟩ := hcc k hlt
      have x0 := cell_kept z0 HB.out
      have x1 := cell_kept z1 HB.out
      have x2 := cell_kept z2 HB.out
      clear hcc z0 z1 z2
      have HS := hid (oldF_succ l s since ks hlt)
      have hY := HY.out _ (List.getElem_mem hlt)
      obtain ⟨q0, q1, q2, q3, q4, q5⟩ := (C2.out.keep HB.out).cells
      have BW := hid (B2.out.trans (HB.out.mono B2.out.size))
      obtain ⟨lb, lo, rfl, hlcell⟩ := (HI.out.keep BW.out).row_some (by omega)
      have hl3 := hlcell ks[k].fl hY.1
      have hLA := lateAt_nat l ks[k].fl hY.1
      have hLM := HF.out _ (List.getElem_mem hY.1)
      generalize ks[k] = y at *
      generalize l[y.fl] = lf at *
      generalize oldF l s since (ks.take k) = m at *
      have hal := (Below.refl wr.heap.size wr).alloc (Nat.le_refl _) (.cells #[.int .i64 (y.fl : Int), .int .i64 y.st, .int .i64 (y.ago : Int)] 105)
      have hr : (wr.alloc (.cells #[.int .i64 (y.fl : Int), .int .i64 y.st, .int .i64 (y.ago : Int)] 105)).heap[wr.heap.size]? = some (.cells #[.int .i64 (y.fl : Int), .int .i64 y.st, .int .i64 (y.ago : Int)] 105 (0, 0)) := heap_alloc_new wr _
      have HR := hid hr
      have HAL := hid hal
      have ch := is_here p A B C s mb y (wr.alloc (.cells #[.int .i64 (y.fl : Int), .int .i64 y.st, .int .i64 (y.ago : Int)] 105))
      have t0 := cell_kept q0 hal
      have t1 := cell_kept q1 hal
      have t2 := cell_kept q2 hal
      have t3 := cell_kept q3 hal
      have t4 := cell_kept q4 hal
      have t5 := cell_kept q5 hal
      have HL3 := hid hl3
      have hy0 : (0 : Int) ≤ (y.fl : Int) := by omega
      have hy1 : (y.fl : Int) < (l.length : Int) := by omega
      have HLA := hid hLA
      obtain ⟨zz, hzz⟩ : ∃ zz, zz = lf + (y.ago : Int) := ⟨_, rfl⟩
      obtain ⟨yy, hyy⟩ : ∃ yy, yy = zz - since := ⟨_, rfl⟩
      have hw1 : IntKind.i64.wrap (lf + (y.ago : Int)) = zz := by rw [hzz, IntKind.wrap_i64]; omega
      have hw2 : IntKind.i64.wrap (zz - since) = yy := by rw [hyy, IntKind.wrap_i64]; omega
      have HYY : Hid (yy = lateAt l (y.fl : Int) + (y.ago : Int) - since) := hid (by rw [hyy, hzz, HLA.out])
      clear hzz hyy hal hr hLA hl3 q0 q1 q2 q3 q4 q5 hlcell
      cases hh : hereB s y with
      | true =>
        have HS2 : Hid (oldF l s since (ks.take (k + 1)) = max m yy) := hid (by rw [HS.out, hh, if_pos rfl]; unfold oldS; rw [← HYY.out])
        rw [hh] at ch
        clear hh HS
        go_wp2_with (fail)
        refine ch.mono ?_
        rintro e w3 ⟨rfl, hb3⟩
        have hr3 := keep_row HR.out hb3
        have n0 : w3.cell? ⟨wr.heap.size, 0, none⟩ = some (.int .i64 (y.fl : Int)) := (cell_of_row _ _ _ _ 105 (0, 0) hr3).trans rfl
        have n2 : w3.cell? ⟨wr.heap.size, 2, none⟩ = some (.int .i64 (y.ago : Int)) := (cell_of_row _ _ _ _ 105 (0, 0) hr3).trans rfl
        have n3 := cell_kept HL3.out (HAL.out.trans (hb3.mono HAL.out.size))
        have B3 := hid (HB.out.trans ((HAL.out.trans (hb3.mono HAL.out.size)).mono HB.out.size))
        clear ch hb3 hr3 t0 t1 t2 t3 t4 t5
        go_wp2_with (fail)
        refine wp_region_held_drew (S := fun V => V.cell? ⟨wr.heap.size, 0, none⟩ = some (.int .i64 (y.fl : Int)) ∧ V.cell? ⟨wr.heap.size, 2, none⟩ = some (.int .i64 (y.ago : Int)) ∧ V.cell? ⟨lb, lo + y.fl, none⟩ = some (.int .i64 lf)) (by kernel_rfl) ?_ (fun hHeld => ?_)
        · exact ⟨n0, n2, n3⟩
        refine wpAnyH_take (i := 0) (oi := { dst := some 25, op := Go.Op.move (Go.Operand.tmp 9), type := 3, pos := _, after := #[], guard := none }) (v := ?_) rfl (by kernel_rfl) (by kernel_rfl) (by kernel_rfl) (fun _ _ _ h => h) (Or.inl ⟨by rfl, ?_⟩) (by assumption) ?_
        rotate_left
        · intro w hSw; (try dsimp only at hSw); go_simp <;> first | with_reducible rfl | (rw [if_neg (by first | omega | (simp only [ByteArray.size_append] at *; omega))])
        simp only [Act.put, List.setIfInBounds_toArray, List.set_cons_zero, List.set_cons_succ]
        refine wpAnyH_take (i := 1) (oi := { dst := some 26, op := Go.Op.move (Go.Operand.tmp 3), type := 29, pos := _, after := #[], guard := none }) (v := ?_) rfl (by kernel_rfl) (by kernel_rfl) (by kernel_rfl) (fun _ _ _ h => h) (Or.inl ⟨by rfl, ?_⟩) (by assumption) ?_
        rotate_left
        · intro w hSw; (try dsimp only at hSw); go_simp <;> first | with_reducible rfl | (rw [if_neg (by first | omega | (simp only [ByteArray.size_append] at *; omega))])
        simp only [Act.put, List.setIfInBounds_toArray, List.set_cons_zero, List.set_cons_succ]
        refine wpAnyH_take (i := 2) (oi := { dst := some 27, op := Go.Op.fieldAddr 105 (Go.Operand.tmp 11) 0, type := 0, pos := _, after := #[], guard := none }) (v := ?_) rfl (by kernel_rfl) (by kernel_rfl) (by kernel_rfl) (fun _ _ _ h => h) (Or.inl ⟨by rfl, ?_⟩) (by assumption) ?_
        rotate_left
        · intro w hSw; (try dsimp only at hSw); go_simp <;> first | with_reducible rfl | (rw [if_neg (by first | omega | (simp only [ByteArray.size_append] at *; omega))])
        simp only [Act.put, List.setIfInBounds_toArray, List.set_cons_zero, List.set_cons_succ]
        refine wpAnyH_take (i := 3) (oi := { dst := some 28, op := Go.Op.load 3 (Go.Operand.tmp 27), type := 3, pos := _, after := #[{ on := 2, ground := Go.Ground.data }], guard := none }) (v := ?_) rfl (by kernel_rfl) (by kernel_rfl) (by kernel_rfl) (fun _ _ _ h => h) (Or.inl ⟨by rfl, ?_⟩) (by assumption) ?_
        rotate_left
        · intro w hSw; (try dsimp only at hSw); go_simp <;> first | with_reducible rfl | (rw [if_neg (by first | omega | (simp only [ByteArray.size_append] at *; omega))])
        simp only [Act.put, List.setIfInBounds_toArray, List.set_cons_zero, List.set_cons_succ]
        refine wpAnyH_take (i := 4) (oi := { dst := some 29, op := Go.Op.indexAddr 29 (Go.Operand.tmp 26) (Go.Operand.tmp 28), type := 0, pos := _, after := #[{ on := 1, ground := Go.Ground.data }, { on := 3, ground := Go.Ground.data }], guard := none }) (v := ?_) rfl (by kernel_rfl) (by kernel_rfl) (by kernel_rfl) (fun _ _ _ h => h) (Or.inl ⟨by rfl, ?_⟩) (by assumption) ?_
        rotate_left
        · intro w hSw; (try dsimp only at hSw); go_simp <;> first | with_reducible rfl | (rw [if_neg (by first | omega | (simp only [ByteArray.size_append] at *; omega))])
        simp only [Act.put, List.setIfInBounds_toArray, List.set_cons_zero, List.set_cons_succ]
        refine wpAnyH_take (i := 5) (oi := { dst := some 30, op := Go.Op.load 3 (Go.Operand.tmp 29), type := 3, pos := _, after := #[{ on := 4, ground := Go.Ground.data }], guard := none }) (v := ?_) rfl (by kernel_rfl) (by kernel_rfl) (by kernel_rfl) (fun _ _ _ h => h) (Or.inl ⟨by rfl, ?_⟩) (by assumption) ?_
        rotate_left
        · intro w hSw; (try dsimp only at hSw); go_simp <;> first | with_reducible rfl | (rw [if_neg (by first | omega | (simp only [ByteArray.size_append] at *; omega))])
        simp only [Act.put, List.setIfInBounds_toArray, List.set_cons_zero, List.set_cons_succ]
        refine wpAnyH_take (i := 6) (oi := { dst := some 31, op := Go.Op.fieldAddr 105 (Go.Operand.tmp 11) 2, type := 0, pos := _, after := #[], guard := none }) (v := ?_) rfl (by kernel_rfl) (by kernel_rfl) (by kernel_rfl) (fun _ _ _ h => h) (Or.inl ⟨by rfl, ?_⟩) (by assumption) ?_
        rotate_left
        · intro w hSw; (try dsimp only at hSw); go_simp <;> first | with_reducible rfl | (rw [if_neg (by first | omega | (simp only [ByteArray.size_append] at *; omega))])
        simp only [Act.put, List.setIfInBounds_toArray, List.set_cons_zero, List.set_cons_succ]
        refine wpAnyH_take (i := 7) (oi := { dst := some 32, op := Go.Op.load 3 (Go.Operand.tmp 31), type := 3, pos := _, after := #[{ on := 6, ground := Go.Ground.data }], guard := none }) (v := ?_) rfl (by kernel_rfl) (by kernel_rfl) (by kernel_rfl) (fun _ _ _ h => h) (Or.inl ⟨by rfl, ?_⟩) (by assumption) ?_
        rotate_left
        · intro w hSw; (try dsimp only at hSw); go_simp <;> first | with_reducible rfl | (rw [if_neg (by first | omega | (simp only [ByteArray.size_append] at *; omega))])
        simp only [Act.put, List.setIfInBounds_toArray, List.set_cons_zero, List.set_cons_succ]
        refine wpAnyH_take (i := 8) (oi := { dst := some 33, op := Go.Op.binOp Go.BinOp.add 3 (Go.Operand.tmp 30) (Go.Operand.tmp 32) 3, type := 3, pos := _, after := #[{ on := 5, ground := Go.Ground.data }, { on := 7, ground := Go.Ground.data }], guard := none }) (v := ?_) rfl (by kernel_rfl) (by kernel_rfl) (by kernel_rfl) (fun _ _ _ h => h) (Or.inl ⟨by rfl, ?_⟩) (by assumption) ?_
        rotate_left
        · intro w hSw; (try dsimp only at hSw); go_simp <;> first | with_reducible rfl | (rw [if_neg (by first | omega | (simp only [ByteArray.size_append] at *; omega))])
        simp only [Act.put, List.setIfInBounds_toArray, List.set_cons_zero, List.set_cons_succ]
        refine wpAnyH_take (i := 9) (oi := { dst := some 34, op := Go.Op.move (Go.Operand.tmp 2), type := 3, pos := _, after := #[], guard := none }) (v := ?_) rfl (by kernel_rfl) (by kernel_rfl) (by kernel_rfl) (fun _ _ _ h => h) (Or.inl ⟨by rfl, ?_⟩) (by assumption) ?_
        rotate_left
        · intro w hSw; (try dsimp only at hSw); go_simp <;> first | with_reducible rfl | (rw [if_neg (by first | omega | (simp only [ByteArray.size_append] at *; omega))])
        simp only [Act.put, List.setIfInBounds_toArray, List.set_cons_zero, List.set_cons_succ]
        refine wpAnyH_take (i := 10) (oi := { dst := some 35, op := Go.Op.binOp Go.BinOp.sub 3 (Go.Operand.tmp 33) (Go.Operand.tmp 34) 3, type := 3, pos := _, after := #[{ on := 8, ground := Go.Ground.data }, { on := 9, ground := Go.Ground.data }], guard := none }) (v := ?_) rfl (by kernel_rfl) (by kernel_rfl) (by kernel_rfl) (fun _ _ _ h => h) (Or.inl ⟨by rfl, ?_⟩) (by assumption) ?_
        rotate_left
        · intro w hSw; (try dsimp only at hSw); go_simp <;> first | with_reducible rfl | (rw [if_neg (by first | omega | (simp only [ByteArray.size_append] at *; omega))])
        simp only [Act.put, List.setIfInBounds_toArray, List.set_cons_zero, List.set_cons_succ]
        refine wpAnyH_take (i := 11) (oi := { dst := some 36, op := Go.Op.call { callee := Go.Callee.builtin Go.Builtin.max, args := #[Go.Operand.tmp 25, Go.Operand.tmp 35], argTypes := #[3, 3] }, type := 3, pos := _, after := #[{ on := 0, ground := Go.Ground.data }, { on := 10, ground := Go.Ground.data }], guard := none }) (v := ?_) rfl (by kernel_rfl) (by kernel_rfl) (by kernel_rfl) (fun _ _ _ h => h) (Or.inl ⟨by rfl, ?_⟩) (by assumption) ?_
        rotate_left
        · intro w hSw; (try dsimp only at hSw); go_simp <;> first | with_reducible rfl | (rw [if_neg (by first | omega | (simp only [ByteArray.size_append] at *; omega))])
        simp only [Act.put, List.setIfInBounds_toArray, List.set_cons_zero, List.set_cons_succ]
        refine wpAnyH_take (i := 12) (oi := { dst := some 9, op := Go.Op.assign (Go.Operand.tmp 36), type := 3, pos := _, after := #[{ on := 11, ground := Go.Ground.data }, { on := 0, ground := Go.Ground.phase }, { on := 1, ground := Go.Ground.phase }, { on := 2, ground := Go.Ground.phase }, { on := 3, ground := Go.Ground.phase }, { on := 4, ground := Go.Ground.phase }, { on := 5, ground := Go.Ground.phase }, { on := 6, ground := Go.Ground.phase }, { on := 7, ground := Go.Ground.phase }, { on := 8, ground := Go.Ground.phase }, { on := 9, ground := Go.Ground.phase }, { on := 10, ground := Go.Ground.phase }, { on := 11, ground := Go.Ground.phase }], guard := none }) (v := ?_) rfl (by kernel_rfl) (by kernel_rfl) (by kernel_rfl) (fun _ _ _ h => h) (Or.inl ⟨by rfl, ?_⟩) (by assumption) ?_
        rotate_left
        · intro w hSw; (try dsimp only at hSw); go_simp <;> first | with_reducible rfl | (rw [if_neg (by first | omega | (simp only [ByteArray.size_append] at *; omega))])
        simp only [Act.put, List.setIfInBounds_toArray, List.set_cons_zero, List.set_cons_succ]
        refine wpAnyH_done (by kernel_rfl) ?_ _
        go_wp2_with (fail)
        go_roundw
        case rel => exact ⟨k + 1, by omega, by rw [HS2.out], by go_num, hid (B3.out.trans ((Below.refl _ _).drew))⟩
        case measure => simp [intOf]; omega
      | false =>
        have HS2 : Hid (oldF l s since (ks.take (k + 1)) = m) := hid (by rw [HS.out, hh]; rfl)
        rw [hh] at ch
        clear hh HS
        go_wp2_with (fail)
        refine ch.mono ?_
        rintro e w3 ⟨rfl, hb3⟩
        have B3 := hid (HB.out.trans ((HAL.out.trans (hb3.mono HAL.out.size)).mono HB.out.size))
        clear ch hb3 t0 t1 t2 t3 t4 t5
        go_wp2_with (fail)
        go_roundw
        case rel => exact ⟨k + 1, by omega, by rw [HS2.out], by go_num, B3⟩
        case measure => simp [intOf]; omega
    · have hlt' : ¬ (k : Int) < (ks.length : Int) := by omega
      have HE : Hid (ks.take k = ks) := hid (List.take_of_length_le (by omega))
      rw [HE.out]
      clear HE
      go_wp2
      go_ret
      exact ⟨by rw [HKS.out]; rfl, B2.out.trans (HB.out.mono B2.out.size)⟩
end Go.Proofs.YtgkbbdenmgienaaDoor.Lex
namespace Go.Proofs.YtgkbbdenmgienaaDoor.Lex
open Go.ChangeShapes Go.WideShapes Go.ChangeAt Go.RowKit Go.Joins
/-- What is kept. -/
structure Plc where
  name : ByteArray
  ty : Nat
  keep : Int
  far : Bool
  frm : Int
  df : Int
abbrev plcC (x : Plc) : List Value := [.string x.name, .int .u8 (x.ty : Int), .int .i64 x.keep, .bool x.far, .int .i64 x.frm, .int .i64 x.df]
abbrev plcV (x : Plc) : Value := .agg #[.string x.name, .int .u8 (x.ty : Int), .int .i64 x.keep, .bool x.far, .int .i64 x.frm, .int .i64 x.df]
/-- The rounds until its value is here. -/
def sinF (l : List Int) (o : Option (Int × Hd)) (s : Int) : Int := (if 0 ≤ plO o then lateAt l (plO o) else 0) + (if stO o = s then 0 else 1)
/-- What stands for it. -/
def insF (p : Pg) (o : Option (Int × Hd)) : Int := if 0 ≤ plO o then ((p.flows[(plO o).toNat]?).map (·.df)).getD 0 else 0
/-- How a station keeps it. -/
def plcF (p : Pg) (l : List Int) (s : Int) (nm : ByteArray) : Plc :=
  let o := findT (thingsL p) nm
  ⟨nm, tyO o, oldF l s (sinF l o s) (akOf (akAll p) nm), !(stO o == s), if stO o = s then 0 else stO o, if stO o = s then 0 else insF p o⟩
abbrev plc0 : Array Value := #[.string ⟨#[]⟩, .int .u8 0, .int .i64 0, .bool false, .int .i64 0, .int .i64 0]
theorem info42 : (Tryd.prog.info? 42).map (·.size) = some 6 := by kernel_rfl
theorem findT_pl {p : Pg} {nm : ByteArray} {x : Int × Hd} (h : findT (thingsL p) nm = some x) : x.1 < (p.flows.length : Int) := by
  obtain ⟨hm, _⟩ := findT_mem h
  rcases List.mem_append.1 hm with hm | hm
  · obtain ⟨y, _, rfl⟩ := List.mem_map.1 hm
    show (-1 : Int) < _
    omega
  · obtain ⟨i, hi, rfl⟩ := List.mem_map.1 hm
    have := List.mem_range.1 hi
    show (i : Int) < _
    omega
theorem ak_fl {p : Pg} (nm : ByteArray) : ∀ y ∈ akOf (akAll p) nm, y.fl < p.flows.length ∧ y.ago ≤ 1000000 := by
  intro y hy
  obtain ⟨x, hx, rfl⟩ := List.mem_map.1 hy
  have hx := (List.mem_filter.1 hx).1
  obtain ⟨k, hk, hx⟩ := List.mem_flatMap.1 hx
  have hk := List.mem_range.1 hk
  rw [akL_at hk] at hx
  obtain ⟨r, hr, rfl⟩ := List.mem_map.1 hx
  refine ⟨hk, ?_⟩
  have := gat_ago 32 p.flows[k].body 0 [] 32 (by omega) (by simp) r hr
  show r.2 ≤ 1000000
  omega
/-- While a place is made: the cut in its variable, the result's, the place's. -/
structure PlI (w : World) (cs : Array Value) (pb : Nat) (pl : Array Value) (W : World) : Prop where
  cut : CutAt W w.heap.size cs
  res : W.heap[w.heap.size + 1]? = some (.cells plc0 42 (0, 0))
  row : W.heap[pb]? = some (.cells pl 42 (0, 0))
  ne : w.heap.size + 1 < pb
  below : Below w.heap.size w W
theorem PlI.keep {w W W' : World} {cs pl : Array Value} {pb : Nat} (h : PlI w cs pb pl W) (hb : Below W.heap.size W W') : PlI w cs pb pl W' := ⟨h.cut.keep hb, keep_row h.res hb, keep_row h.row hb, h.ne, h.below.trans (hb.mono h.below.size)⟩
theorem PlI.set {w W : World} {cs pl : Array Value} {pb : Nat} (h : PlI w cs pb pl W) (i : Nat) (v : Value) : PlI w cs pb (pl.setIfInBounds i v) (W.setCell ⟨pb, i, none⟩ v) := by
  have hne := h.ne
  refine ⟨(Below.heap_setCell _ _ _ _ (by simp; omega)).trans h.cut, (Below.heap_setCell _ _ _ _ (by simp; omega)).trans h.res, ?_, hne, h.below.setCell (p := ⟨pb, i, none⟩) (by simp; omega) _⟩
  rw [setCell_eq_setRow W pb i pl 42 (0, 0) v h.row]
  exact setRow_heap _ _ _ _ _ _ h.row
set_option maxRecDepth 100000 in
set_option maxHeartbeats 4000000 in
theorem place_ (p : Pg) (s : Int) (mb : Nat) (nm : ByteArray) (hN : NmK nm) (l : List Int) (lv : Value) (w : World) (A B C : Value) (x : Int × Hd) (hx : findT (thingsL p) nm = some x) (hP : PgAt w p A B C) (hE : nmErr p = 0) (hA : AMr w mb (akAll p)) (hI : IAt w l lv) (hF : Fine l) (hl : l.length = p.flows.length) :
    Calls Tryd.prog 27 #[cutV p A B C s mb, .string nm, lv] w fun e w' => e = .returned (plcV (plcF p l s nm)) ∧ Below w.heap.size w w' := by
  have HP := hid hP
  have HA := hid hA
  have HE := hid hE
  have HI := hid hI
  have HF := hid hF.mild
  have HFI := hid hF
  have HNK := hid hN
  have HL := hid hl
  have HAK : Hid (∀ y ∈ akOf (akAll p) nm, y.fl < l.length ∧ y.ago ≤ 1000000) := hid (by rw [hl]; exact ak_fl nm)
  obtain ⟨A0, A1, rfl, _⟩ := hP.ins
  obtain ⟨B0, B1, sl, rfl, _, _, _, hfc, _⟩ := hP.flows
  obtain ⟨C0, C1, rfl, _⟩ := hP.outs
  have HFC := hid hfc
  obtain ⟨la, lc, rfl, _⟩ := hI
  have HML : Hid ((akAll p).length ≤ 1000000) := hid (by have h1 := akN_len (nm_chk hE) p.flows.length (Nat.le_refl _); have h2 := pgOk_few hE; unfold akAll; omega)
  have X0 : Hid (CutAt ((w.alloc (.cells (cutC p (.slice A0 p.ins.length A1) (.slice B0 p.flows.length B1) (.slice C0 p.outs.length C1) s mb) 70)).alloc (.cells plc0 42)) w.heap.size (cutC p (.slice A0 p.ins.length A1) (.slice B0 p.flows.length B1) (.slice C0 p.outs.length C1) s mb)) := hid (push_old (heap_alloc_new _ _))
  have Y0 : Hid (((w.alloc (.cells (cutC p (.slice A0 p.ins.length A1) (.slice B0 p.flows.length B1) (.slice C0 p.outs.length C1) s mb) 70)).alloc (.cells plc0 42)).heap[w.heap.size + 1]? = some (.cells plc0 42 (0, 0))) := hid (by
    have h := heap_alloc_new (w.alloc (.cells (cutC p (.slice A0 p.ins.length A1) (.slice B0 p.flows.length B1) (.slice C0 p.outs.length C1) s mb) 70)) (.cells plc0 42)
    rwa [World.size_alloc] at h)
  have hb0 : Below w.heap.size w ((w.alloc (.cells (cutC p (.slice A0 p.ins.length A1) (.slice B0 p.flows.length B1) (.slice C0 p.outs.length C1) s mb) 70)).alloc (.cells plc0 42)) := ((Below.refl _ w).alloc (Nat.le_refl _) _).alloc (by simp) _
  have HB0 := hid hb0
  obtain ⟨r0, r1, r2, r3, _, _⟩ := X0.out.cells
  have cF := (callsIn_wide (n := 20)).1 (find_in Fence.wide 20 trivial trivial trivial rfl (by omega) p nm _ _ _ _ (HP.out.keep hb0))
  rw [hx, foV_eq (some x)] at cF
  have HPL := hid (findT_pl hx)
  have HPV : Hid (plcF p l s nm = ⟨nm, x.2.ty, oldF l s (sinF l (some x) s) (akOf (akAll p) nm), !(x.2.st == s), if x.2.st = s then 0 else x.2.st, if x.2.st = s then 0 else insF p (some x)⟩) := hid (by unfold plcF; rw [hx]; rfl)
  obtain ⟨R, hR⟩ : ∃ R, R = plcF p l s nm := ⟨_, rfl⟩
  rw [← hR]
  have HSB : Hid (-1000000 ≤ sinF l (some x) s ∧ sinF l (some x) s ≤ 1000000) := hid (by
    have := hF.at x.1
    unfold sinF plO
    dsimp only
    split <;> split <;> omega)
  have hsin : sinF l (some x) s = (if 0 ≤ x.1 then lateAt l x.1 else 0) + (if x.2.st = s then 0 else 1) := rfl
  have hins : insF p (some x) = if 0 ≤ x.1 then ((p.flows[x.1.toNat]?).map (·.df)).getD 0 else 0 := rfl
  clear hP hA hE hF hN hl hfc hb0 hx
  have HPR := hid (hR.trans HPV.out)
  clear hR HPV
  obtain ⟨fl, hd⟩ := x
  obtain ⟨xn, T, st⟩ := hd
  dsimp only [stO, tyO, plO, Option.isSome] at cF hsin hins HPL HPR ⊢
  generalize sinF l (some (fl, ⟨xn, T, st⟩)) s = SIN at *
  generalize insF p (some (fl, ⟨xn, T, st⟩)) = INS at *
  go_enter Tryd.func27, Tryd.ntmps27
  go_wp2_with (fail)
  refine cF.mono ?_
  rintro e w2 ⟨rfl, hb2⟩
  have X2 := hid (X0.out.keep hb2)
  have Y2 := hid (keep_row Y0.out hb2)
  have B2 := hid (HB0.out.trans (hb2.mono HB0.out.size))
  clear hb2 cF r0 r1 r2 r3
  go_wp2_with (fail)
  refine (clone_ nm _ (by have := HNK.out.1; omega)).mono ?_
  rintro e w3 ⟨rfl, hb3⟩
  have hal := (Below.refl w3.heap.size w3).alloc (Nat.le_refl _) (.cells #[.string nm, .int .u8 (T : Int), .int .i64 0, .bool false, .int .i64 0, .int .i64 0] 42)
  have hb4 := hb3.trans (hal.mono hb3.size)
  have P4 : Hid (PlI w (cutC p (.slice A0 p.ins.length A1) (.slice B0 p.flows.length B1) (.slice C0 p.outs.length C1) s mb) w3.heap.size #[.string nm, .int .u8 (T : Int), .int .i64 0, .bool false, .int .i64 0, .int .i64 0] (w3.alloc (.cells #[.string nm, .int .u8 (T : Int), .int .i64 0, .bool false, .int .i64 0, .int .i64 0] 42))) := hid ⟨X2.out.keep hb4, keep_row Y2.out hb4, heap_alloc_new w3 _, by have := (Array.getElem?_eq_some_iff.1 Y2.out).1; have := hb3.size; omega, B2.out.trans (hb4.mono B2.out.size)⟩
  have hP4 := P4.out
  obtain ⟨W4, hW4⟩ : ∃ W4, w3.alloc (.cells #[.string nm, .int .u8 (T : Int), .int .i64 0, .bool false, .int .i64 0, .int .i64 0] 42) = W4 := ⟨_, rfl⟩
  rw [hW4] at hP4
  have HW4 := hid hW4
  clear P4
  have P4 := hid hP4
  obtain ⟨pb, hpb⟩ : ∃ pb, pb = w3.heap.size := ⟨_, rfl⟩
  rw [← hpb] at P4
  have HPB := hid hpb
  clear hb3 hal hb4 X2 Y2 B2 hP4 hW4 hpb
  by_cases hfl : 0 ≤ fl
  · obtain ⟨f, hf⟩ : ∃ f : Nat, fl = (f : Int) := ⟨fl.toNat, by omega⟩
    have hfl' : decide (fl ≥ 0) = true := by simpa using hfl
    have hfn : f < p.flows.length := by have := HPL.out; omega
    obtain ⟨fb, fo, rfl, hcc⟩ := HFC.out.resolve_left (by omega)
    obtain ⟨_, _, _, v3, _⟩ := (hcc f hfn).keep P4.out.below
    obtain ⟨lb, lo, rfl, hlcell⟩ := (HI.out.keep P4.out.below).row_some (by have := HL.out; omega)
    have hl3 := hlcell f (by rw [HL.out]; exact hfn)
    have hLA := lateAt_nat l f (by rw [HL.out]; exact hfn)
    have hin2 : INS = p.flows[f].df := by rw [hins, if_pos hfl, hf]; simp [hfn]
    rw [if_pos hfl, hf, hLA] at hsin
    have HLF := hid (HFI.out _ (List.getElem_mem (show f < l.length by rw [HL.out]; exact hfn)))
    clear hins hcc hlcell hLA hfl
    subst hf
    have hf0 : (0 : Int) ≤ (f : Int) := by omega
    have hf1 : (f : Int) < (p.flows.length : Int) := by omega
    have hf2 : (f : Int) < (l.length : Int) := by have := HL.out; omega
    rw [← hin2] at v3
    clear hin2
    generalize l[f] = lf at *
    go_wp2_with (rw [HW4.out])
    rw [← HPB.out]
    obtain ⟨q0, q1, q2, q3, q4, q5⟩ := P4.out.cut.cells
    have m2 := q2
    have m3 := hl3
    have m4 := v3
    clear q0 q1 q2 q3 q4 q5
    refine wp_region_held_drew (S := fun V => V.cell? ⟨w.heap.size, 2, none⟩ = some (.slice (some ⟨fb, fo, none⟩) p.flows.length B1) ∧ V.cell? ⟨lb, lo + f, none⟩ = some (.int .i64 lf) ∧ V.cell? ⟨fb, fo + f * 8 + 3, none⟩ = some (.int .i64 INS)) (by kernel_rfl) ?_ (fun hHeld => ?_)
    · exact ⟨m2, m3, m4⟩
    refine wpAnyH_take (i := 0) (oi := { dst := some 29, op := Go.Op.move (Go.Operand.tmp 2), type := 29, pos := _, after := #[], guard := none }) (v := ?_) rfl (by kernel_rfl) (by kernel_rfl) (by kernel_rfl) (fun _ _ _ h => h) (Or.inl ⟨by rfl, ?_⟩) (by assumption) ?_
    rotate_left
    · intro w hSw; (try dsimp only at hSw); go_simp <;> first | with_reducible rfl | (rw [if_neg (by first | omega | (simp only [ByteArray.size_append] at *; omega))])
    simp only [Act.put, List.setIfInBounds_toArray, List.set_cons_zero, List.set_cons_succ]
    refine wpAnyH_take (i := 1) (oi := { dst := some 30, op := Go.Op.move (Go.Operand.tmp 9), type := 3, pos := _, after := #[], guard := none }) (v := ?_) rfl (by kernel_rfl) (by kernel_rfl) (by kernel_rfl) (fun _ _ _ h => h) (Or.inl ⟨by rfl, ?_⟩) (by assumption) ?_
    rotate_left
    · intro w hSw; (try dsimp only at hSw); go_simp <;> first | with_reducible rfl | (rw [if_neg (by first | omega | (simp only [ByteArray.size_append] at *; omega))])
    simp only [Act.put, List.setIfInBounds_toArray, List.set_cons_zero, List.set_cons_succ]
    refine wpAnyH_take (i := 2) (oi := { dst := some 31, op := Go.Op.indexAddr 29 (Go.Operand.tmp 29) (Go.Operand.tmp 30), type := 0, pos := _, after := #[{ on := 0, ground := Go.Ground.data }, { on := 1, ground := Go.Ground.data }], guard := none }) (v := ?_) rfl (by kernel_rfl) (by kernel_rfl) (by kernel_rfl) (fun _ _ _ h => h) (Or.inl ⟨by rfl, ?_⟩) (by assumption) ?_
    rotate_left
    · intro w hSw; (try dsimp only at hSw); go_simp <;> first | with_reducible rfl | (rw [if_neg (by first | omega | (simp only [ByteArray.size_append] at *; omega))])
    simp only [Act.put, List.setIfInBounds_toArray, List.set_cons_zero, List.set_cons_succ]
    refine wpAnyH_take (i := 3) (oi := { dst := some 32, op := Go.Op.load 3 (Go.Operand.tmp 31), type := 3, pos := _, after := #[{ on := 2, ground := Go.Ground.data }], guard := none }) (v := ?_) rfl (by kernel_rfl) (by kernel_rfl) (by kernel_rfl) (fun _ _ _ h => h) (Or.inl ⟨by rfl, ?_⟩) (by assumption) ?_
    rotate_left
    · intro w hSw; (try dsimp only at hSw); go_simp <;> first | with_reducible rfl | (rw [if_neg (by first | omega | (simp only [ByteArray.size_append] at *; omega))])
    simp only [Act.put, List.setIfInBounds_toArray, List.set_cons_zero, List.set_cons_succ]
    refine wpAnyH_take (i := 4) (oi := { dst := some 33, op := Go.Op.fieldAddr 70 (Go.Operand.tmp 3) 0, type := 0, pos := _, after := #[{ on := 11, ground := Go.Ground.gcOnly Go.Departure.lateStores }], guard := none }) (v := ?_) rfl (by kernel_rfl) (by kernel_rfl) (by kernel_rfl) (fun _ _ _ h => h) (Or.inl ⟨by rfl, ?_⟩) (by assumption) ?_
    rotate_left
    · intro w hSw; (try dsimp only at hSw); go_simp <;> first | with_reducible rfl | (rw [if_neg (by first | omega | (simp only [ByteArray.size_append] at *; omega))])
    simp only [Act.put, List.setIfInBounds_toArray, List.set_cons_zero, List.set_cons_succ]
    refine wpAnyH_take (i := 5) (oi := { dst := some 34, op := Go.Op.fieldAddr 26 (Go.Operand.tmp 33) 2, type := 0, pos := _, after := #[{ on := 4, ground := Go.Ground.data }, { on := 11, ground := Go.Ground.gcOnly Go.Departure.lateStores }], guard := none }) (v := ?_) rfl (by kernel_rfl) (by kernel_rfl) (by kernel_rfl) (fun _ _ _ h => h) (Or.inl ⟨by rfl, ?_⟩) (by assumption) ?_
    rotate_left
    · intro w hSw; (try dsimp only at hSw); go_simp <;> first | with_reducible rfl | (rw [if_neg (by first | omega | (simp only [ByteArray.size_append] at *; omega))])
    simp only [Act.put, List.setIfInBounds_toArray, List.set_cons_zero, List.set_cons_succ]
    refine wpAnyH_take (i := 6) (oi := { dst := some 35, op := Go.Op.load 23 (Go.Operand.tmp 34), type := 23, pos := _, after := #[{ on := 5, ground := Go.Ground.data }, { on := 11, ground := Go.Ground.gcOnly Go.Departure.lateStores }], guard := none }) (v := ?_) rfl (by kernel_rfl) (by kernel_rfl) (by kernel_rfl) (fun _ _ _ h => h) (Or.inl ⟨by rfl, ?_⟩) (by assumption) ?_
    rotate_left
    · intro w hSw; (try dsimp only at hSw); go_simp <;> first | with_reducible rfl | (rw [if_neg (by first | omega | (simp only [ByteArray.size_append] at *; omega))])
    simp only [Act.put, List.setIfInBounds_toArray, List.set_cons_zero, List.set_cons_succ]
    refine wpAnyH_take (i := 7) (oi := { dst := some 36, op := Go.Op.move (Go.Operand.tmp 9), type := 3, pos := _, after := #[{ on := 11, ground := Go.Ground.gcOnly Go.Departure.lateStores }], guard := none }) (v := ?_) rfl (by kernel_rfl) (by kernel_rfl) (by kernel_rfl) (fun _ _ _ h => h) (Or.inl ⟨by rfl, ?_⟩) (by assumption) ?_
    rotate_left
    · intro w hSw; (try dsimp only at hSw); go_simp <;> first | with_reducible rfl | (rw [if_neg (by first | omega | (simp only [ByteArray.size_append] at *; omega))])
    simp only [Act.put, List.setIfInBounds_toArray, List.set_cons_zero, List.set_cons_succ]
    refine wpAnyH_take (i := 8) (oi := { dst := some 37, op := Go.Op.indexAddr 23 (Go.Operand.tmp 35) (Go.Operand.tmp 36), type := 0, pos := _, after := #[{ on := 6, ground := Go.Ground.data }, { on := 7, ground := Go.Ground.data }, { on := 11, ground := Go.Ground.gcOnly Go.Departure.lateStores }], guard := none }) (v := ?_) rfl (by kernel_rfl) (by kernel_rfl) (by kernel_rfl) (fun _ _ _ h => h) (Or.inl ⟨by rfl, ?_⟩) (by assumption) ?_
    rotate_left
    · intro w hSw; (try dsimp only at hSw); go_simp <;> first | with_reducible rfl | (rw [if_neg (by first | omega | (simp only [ByteArray.size_append] at *; omega))])
    simp only [Act.put, List.setIfInBounds_toArray, List.set_cons_zero, List.set_cons_succ]
    refine wpAnyH_take (i := 9) (oi := { dst := some 38, op := Go.Op.fieldAddr 51 (Go.Operand.tmp 37) 3, type := 0, pos := _, after := #[{ on := 8, ground := Go.Ground.data }, { on := 11, ground := Go.Ground.gcOnly Go.Departure.lateStores }], guard := none }) (v := ?_) rfl (by kernel_rfl) (by kernel_rfl) (by kernel_rfl) (fun _ _ _ h => h) (Or.inl ⟨by rfl, ?_⟩) (by assumption) ?_
    rotate_left
    · intro w hSw; (try dsimp only at hSw); go_simp <;> first | with_reducible rfl | (rw [if_neg (by first | omega | (simp only [ByteArray.size_append] at *; omega))])
    simp only [Act.put, List.setIfInBounds_toArray, List.set_cons_zero, List.set_cons_succ]
    refine wpAnyH_take (i := 10) (oi := { dst := some 39, op := Go.Op.load 2 (Go.Operand.tmp 38), type := 2, pos := _, after := #[{ on := 9, ground := Go.Ground.data }, { on := 11, ground := Go.Ground.gcOnly Go.Departure.lateStores }], guard := none }) (v := ?_) rfl (by kernel_rfl) (by kernel_rfl) (by kernel_rfl) (fun _ _ _ h => h) (Or.inl ⟨by rfl, ?_⟩) (by assumption) ?_
    rotate_left
    · intro w hSw; (try dsimp only at hSw); go_simp <;> first | with_reducible rfl | (rw [if_neg (by first | omega | (simp only [ByteArray.size_append] at *; omega))])
    simp only [Act.put, List.setIfInBounds_toArray, List.set_cons_zero, List.set_cons_succ]
    refine wpAnyH_take (i := 11) (oi := { dst := some 12, op := Go.Op.assign (Go.Operand.tmp 32), type := 3, pos := _, after := #[{ on := 3, ground := Go.Ground.data }, { on := 0, ground := Go.Ground.phase }, { on := 1, ground := Go.Ground.phase }, { on := 2, ground := Go.Ground.phase }, { on := 3, ground := Go.Ground.phase }, { on := 4, ground := Go.Ground.textOnly Go.Departure.lateStores }, { on := 5, ground := Go.Ground.textOnly Go.Departure.lateStores }, { on := 6, ground := Go.Ground.textOnly Go.Departure.lateStores }, { on := 7, ground := Go.Ground.textOnly Go.Departure.lateStores }, { on := 8, ground := Go.Ground.textOnly Go.Departure.lateStores }, { on := 9, ground := Go.Ground.textOnly Go.Departure.lateStores }, { on := 10, ground := Go.Ground.textOnly Go.Departure.lateStores }], guard := none }) (v := ?_) rfl (by kernel_rfl) (by kernel_rfl) (by kernel_rfl) (fun _ _ _ h => h) (Or.inl ⟨by rfl, ?_⟩) (by assumption) ?_
    rotate_left
    · intro w hSw; (try dsimp only at hSw); go_simp <;> first | with_reducible rfl | (rw [if_neg (by first | omega | (simp only [ByteArray.size_append] at *; omega))])
    simp only [Act.put, List.setIfInBounds_toArray, List.set_cons_zero, List.set_cons_succ]
    refine wpAnyH_take (i := 12) (oi := { dst := some 13, op := Go.Op.assign (Go.Operand.tmp 39), type := 2, pos := _, after := #[{ on := 10, ground := Go.Ground.data }, { on := 11, ground := Go.Ground.chain }, { on := 0, ground := Go.Ground.phase }, { on := 1, ground := Go.Ground.phase }, { on := 2, ground := Go.Ground.phase }, { on := 3, ground := Go.Ground.phase }, { on := 4, ground := Go.Ground.phase }, { on := 5, ground := Go.Ground.phase }, { on := 6, ground := Go.Ground.phase }, { on := 7, ground := Go.Ground.phase }, { on := 8, ground := Go.Ground.phase }, { on := 9, ground := Go.Ground.phase }, { on := 10, ground := Go.Ground.phase }, { on := 11, ground := Go.Ground.phase }], guard := none }) (v := ?_) rfl (by kernel_rfl) (by kernel_rfl) (by kernel_rfl) (fun _ _ _ h => h) (Or.inl ⟨by rfl, ?_⟩) (by assumption) ?_
    rotate_left
    · intro w hSw; (try dsimp only at hSw); go_simp <;> first | with_reducible rfl | (rw [if_neg (by first | omega | (simp only [ByteArray.size_append] at *; omega))])
    simp only [Act.put, List.setIfInBounds_toArray, List.set_cons_zero, List.set_cons_succ]
    refine wpAnyH_done (by kernel_rfl) ?_ _
    clear m2 m3 m4 hl3 v3
    have P4d := hid (P4.out.keep (Below.refl _ _).drew)
    clear P4
    generalize W4.drew = WD at *
    have P4 := P4d
    clear P4d
    by_cases hst : st = s
    · rw [if_pos hst, Int.add_zero] at hsin
      subst hsin
      have HR : Hid (R = ⟨nm, T, oldF l s SIN (akOf (akAll p) nm), false, 0, 0⟩) := hid (by rw [HPR.out, if_pos hst, if_pos hst, show (st == s) = true by simpa using hst]; rfl)
      have hd : (st != s) = false := by simpa using hst
      obtain ⟨q0, q1, q2, q3, q4, q5⟩ := P4.out.cut.cells
      have P5 := P4
      clear hst
      have c52 := oldest_ p (.slice A0 p.ins.length A1) (.slice (some ⟨fb, fo, none⟩) p.flows.length B1) (.slice C0 p.outs.length C1) s SIN mb (akAll p) HML.out nm HNK.out l _ WD (HA.out.keep P5.out.below) (HI.out.keep P5.out.below) HF.out (by have := HSB.out; omega) HAK.out
      go_wp2_with (fail)
      refine c52.mono ?_
      rintro e w6 ⟨rfl, hb6⟩
      have P6 := hid (P5.out.keep hb6)
      generalize oldF l s SIN (akOf (akAll p) nm) = KP at *
      have g2 : w6.cell? ⟨pb, 2, none⟩ = some (.int .i64 0) := (cell_of_row _ _ _ _ 42 (0, 0) P6.out.row).trans rfl
      have h2 : w6.frozen? ⟨pb, 2, none⟩ = false := frozen_of_row _ _ _ _ _ P6.out.row
      have P7a := P6.out.set 2 (.int .i64 KP)
      simp only [List.setIfInBounds_toArray, List.set_cons_zero, List.set_cons_succ] at P7a
      have P7 := hid P7a
      clear P7a hb6 c52 P5 P6
      go_wp2_with (first
        | (refine wpList_load_row rfl 42 _ rfl pb rfl 42 #[.string nm, .int .u8 (T : Int), .int .i64 KP, .bool false, .int .i64 0, .int .i64 0] (0, 0) _ P7.out.row Tryd.underlying42 rfl info42 ?_)
        | (refine wpList_store_row rfl 42 _ _ rfl (w.heap.size + 1) #[.string nm, .int .u8 (T : Int), .int .i64 KP, .bool false, .int .i64 0, .int .i64 0] rfl rfl 42 _ P7.out.res info42 rfl (by simp [Value.oneCell']) ?_))
      refine bodyPost_ret (results_cell_row rfl _ _ (w.heap.size + 1) 42 #[.string nm, .int .u8 (T : Int), .int .i64 KP, .bool false, .int .i64 0, .int .i64 0] (0, 0) _ rfl (setRow_heap _ _ _ _ _ _ P7.out.res) Tryd.underlying42 rfl info42) rfl ⟨?_, below_row P7.out.below P7.out.below.size (by omega) _⟩
      rw [HR.out]
    · rw [if_neg hst] at hsin
      have hlf := HLF.out
      have hw : IntKind.i64.wrap (lf + 1) = SIN := by rw [hsin, IntKind.wrap_i64]; omega
      have hw6 : wrap64 (lf + 1) = SIN := by rw [hsin]; unfold wrap64; omega
      have HSIN := hid hsin
      clear hsin
      have HR : Hid (R = ⟨nm, T, oldF l s SIN (akOf (akAll p) nm), true, st, INS⟩) := hid (by rw [HPR.out, if_neg hst, if_neg hst, show (st == s) = false by simpa using hst]; rfl)
      have hd : (st != s) = true := by simpa using hst
      obtain ⟨q0, q1, q2, q3, q4, q5⟩ := P4.out.cut.cells
      have e3 : WD.cell? ⟨pb, 3, none⟩ = some (.bool false) := (cell_of_row _ _ _ _ 42 (0, 0) P4.out.row).trans rfl
      have e4 : WD.cell? ⟨pb, 4, none⟩ = some (.int .i64 0) := (cell_of_row _ _ _ _ 42 (0, 0) P4.out.row).trans rfl
      have e5 : WD.cell? ⟨pb, 5, none⟩ = some (.int .i64 0) := (cell_of_row _ _ _ _ 42 (0, 0) P4.out.row).trans rfl
      have f3 : WD.frozen? ⟨pb, 3, none⟩ = false := frozen_of_row _ _ _ _ _ P4.out.row
      have f4 : WD.frozen? ⟨pb, 4, none⟩ = false := frozen_of_row _ _ _ _ _ P4.out.row
      have f5 : WD.frozen? ⟨pb, 5, none⟩ = false := frozen_of_row _ _ _ _ _ P4.out.row
      have P5a := (((P4.out.set 3 (.bool true)).set 4 (.int .i64 st)).set 5 (.int .i64 INS))
      simp only [List.setIfInBounds_toArray, List.set_cons_zero, List.set_cons_succ] at P5a
      obtain ⟨W5, hW5⟩ : ∃ W5, (((WD.setCell ⟨pb, 3, none⟩ (.bool true)).setCell ⟨pb, 4, none⟩ (.int .i64 st)).setCell ⟨pb, 5, none⟩ (.int .i64 INS)) = W5 := ⟨_, rfl⟩
      rw [hW5] at P5a
      have P5 := hid P5a
      have HW5 := hid hW5
      clear P5a hW5 P4 hst
      obtain ⟨y0, y1, y2, y3, y4, y5⟩ := P5.out.cut.cells
      have c52 := oldest_ p (.slice A0 p.ins.length A1) (.slice (some ⟨fb, fo, none⟩) p.flows.length B1) (.slice C0 p.outs.length C1) s SIN mb (akAll p) HML.out nm HNK.out l _ W5 (HA.out.keep P5.out.below) (HI.out.keep P5.out.below) HF.out (by have := HSB.out; omega) HAK.out
      go_wp2_with (rw [HW5.out])
      refine c52.mono ?_
      rintro e w6 ⟨rfl, hb6⟩
      have P6 := hid (P5.out.keep hb6)
      generalize oldF l s SIN (akOf (akAll p) nm) = KP at *
      have g2 : w6.cell? ⟨pb, 2, none⟩ = some (.int .i64 0) := (cell_of_row _ _ _ _ 42 (0, 0) P6.out.row).trans rfl
      have h2 : w6.frozen? ⟨pb, 2, none⟩ = false := frozen_of_row _ _ _ _ _ P6.out.row
      have P7a := P6.out.set 2 (.int .i64 KP)
      simp only [List.setIfInBounds_toArray, List.set_cons_zero, List.set_cons_succ] at P7a
      have P7 := hid P7a
      clear P7a hb6 c52 P5 P6
      go_wp2_with (first
        | (refine wpList_load_row rfl 42 _ rfl pb rfl 42 #[.string nm, .int .u8 (T : Int), .int .i64 KP, .bool true, .int .i64 st, .int .i64 INS] (0, 0) _ P7.out.row Tryd.underlying42 rfl info42 ?_)
        | (refine wpList_store_row rfl 42 _ _ rfl (w.heap.size + 1) #[.string nm, .int .u8 (T : Int), .int .i64 KP, .bool true, .int .i64 st, .int .i64 INS] rfl rfl 42 _ P7.out.res info42 rfl (by simp [Value.oneCell']) ?_))
      refine bodyPost_ret (results_cell_row rfl _ _ (w.heap.size + 1) 42 #[.string nm, .int .u8 (T : Int), .int .i64 KP, .bool true, .int .i64 st, .int .i64 INS] (0, 0) _ rfl (setRow_heap _ _ _ _ _ _ P7.out.res) Tryd.underlying42 rfl info42) rfl ⟨?_, below_row P7.out.below P7.out.below.size (by omega) _⟩
      rw [HR.out]
  · have hfl' : decide (fl ≥ 0) = false := by simpa using hfl
    rw [if_neg hfl] at hsin hins
    clear hfl
    subst hins
    by_cases hst : st = s
    · rw [if_pos hst, Int.add_zero] at hsin
      subst hsin
      have HR : Hid (R = ⟨nm, T, oldF l s 0 (akOf (akAll p) nm), false, 0, 0⟩) := hid (by rw [HPR.out, if_pos hst, if_pos hst, show (st == s) = true by simpa using hst]; rfl)
      have hd : (st != s) = false := by simpa using hst
      obtain ⟨q0, q1, q2, q3, q4, q5⟩ := P4.out.cut.cells
      have P5 := P4
      clear hst
      have c52 := oldest_ p (.slice A0 p.ins.length A1) (.slice B0 p.flows.length B1) (.slice C0 p.outs.length C1) s 0 mb (akAll p) HML.out nm HNK.out l _ W4 (HA.out.keep P5.out.below) (HI.out.keep P5.out.below) HF.out (by have := HSB.out; omega) HAK.out
      go_wp2_with (rw [HW4.out, ← HPB.out])
      refine c52.mono ?_
      rintro e w6 ⟨rfl, hb6⟩
      have P6 := hid (P5.out.keep hb6)
      generalize oldF l s 0 (akOf (akAll p) nm) = KP at *
      have g2 : w6.cell? ⟨pb, 2, none⟩ = some (.int .i64 0) := (cell_of_row _ _ _ _ 42 (0, 0) P6.out.row).trans rfl
      have h2 : w6.frozen? ⟨pb, 2, none⟩ = false := frozen_of_row _ _ _ _ _ P6.out.row
      have P7a := P6.out.set 2 (.int .i64 KP)
      simp only [List.setIfInBounds_toArray, List.set_cons_zero, List.set_cons_succ] at P7a
      have P7 := hid P7a
      clear P7a hb6 c52 P5 P6
      go_wp2_with (first
        | (refine wpList_load_row rfl 42 _ rfl pb rfl 42 #[.string nm, .int .u8 (T : Int), .int .i64 KP, .bool false, .int .i64 0, .int .i64 0] (0, 0) _ P7.out.row Tryd.underlying42 rfl info42 ?_)
        | (refine wpList_store_row rfl 42 _ _ rfl (w.heap.size + 1) #[.string nm, .int .u8 (T : Int), .int .i64 KP, .bool false, .int .i64 0, .int .i64 0] rfl rfl 42 _ P7.out.res info42 rfl (by simp [Value.oneCell']) ?_))
      refine bodyPost_ret (results_cell_row rfl _ _ (w.heap.size + 1) 42 #[.string nm, .int .u8 (T : Int), .int .i64 KP, .bool false, .int .i64 0, .int .i64 0] (0, 0) _ rfl (setRow_heap _ _ _ _ _ _ P7.out.res) Tryd.underlying42 rfl info42) rfl ⟨?_, below_row P7.out.below P7.out.below.size (by omega) _⟩
      rw [HR.out]
    · rw [if_neg hst] at hsin
      subst hsin
      have HR : Hid (R = ⟨nm, T, oldF l s 1 (akOf (akAll p) nm), true, st, 0⟩) := hid (by rw [HPR.out, if_neg hst, if_neg hst, show (st == s) = false by simpa using hst]; rfl)
      have hd : (st != s) = true := by simpa using hst
      obtain ⟨q0, q1, q2, q3, q4, q5⟩ := P4.out.cut.cells
      have e3 : W4.cell? ⟨pb, 3, none⟩ = some (.bool false) := (cell_of_row _ _ _ _ 42 (0, 0) P4.out.row).trans rfl
      have e4 : W4.cell? ⟨pb, 4, none⟩ = some (.int .i64 0) := (cell_of_row _ _ _ _ 42 (0, 0) P4.out.row).trans rfl
      have e5 : W4.cell? ⟨pb, 5, none⟩ = some (.int .i64 0) := (cell_of_row _ _ _ _ 42 (0, 0) P4.out.row).trans rfl
      have f3 : W4.frozen? ⟨pb, 3, none⟩ = false := frozen_of_row _ _ _ _ _ P4.out.row
      have f4 : W4.frozen? ⟨pb, 4, none⟩ = false := frozen_of_row _ _ _ _ _ P4.out.row
      have f5 : W4.frozen? ⟨pb, 5, none⟩ = false := frozen_of_row _ _ _ _ _ P4.out.row
      have P5a := (((P4.out.set 3 (.bool true)).set 4 (.int .i64 st)).set 5 (.int .i64 0))
      simp only [List.setIfInBounds_toArray, List.set_cons_zero, List.set_cons_succ] at P5a
      obtain ⟨W5, hW5⟩ : ∃ W5, (((W4.setCell ⟨pb, 3, none⟩ (.bool true)).setCell ⟨pb, 4, none⟩ (.int .i64 st)).setCell ⟨pb, 5, none⟩ (.int .i64 0)) = W5 := ⟨_, rfl⟩
      rw [hW5] at P5a
      have P5 := hid P5a
      have HW5 := hid hW5
      clear P5a hW5 P4 hst
      obtain ⟨y0, y1, y2, y3, y4, y5⟩ := P5.out.cut.cells
      have c52 := oldest_ p (.slice A0 p.ins.length A1) (.slice B0 p.flows.length B1) (.slice C0 p.outs.length C1) s 1 mb (akAll p) HML.out nm HNK.out l _ W5 (HA.out.keep P5.out.below) (HI.out.keep P5.out.below) HF.out (by have := HSB.out; omega) HAK.out
      go_wp2_with (first | rw [HW4.out, ← HPB.out] | rw [HW5.out])
      refine c52.mono ?_
      rintro e w6 ⟨rfl, hb6⟩
      have P6 := hid (P5.out.keep hb6)
      generalize oldF l s 1 (akOf (akAll p) nm) = KP at *
      have g2 : w6.cell? ⟨pb, 2, none⟩ = some (.int .i64 0) := (cell_of_row _ _ _ _ 42 (0, 0) P6.out.row).trans rfl
      have h2 : w6.frozen? ⟨pb, 2, none⟩ = false := frozen_of_row _ _ _ _ _ P6.out.row
      have P7a := P6.out.set 2 (.int .i64 KP)
      simp only [List.setIfInBounds_toArray, List.set_cons_zero, List.set_cons_succ] at P7a
      have P7 := hid P7a
      clear P7a hb6 c52 P5 P6
      go_wp2_with (first
        | (refine wpList_load_row rfl 42 _ rfl pb rfl 42 #[.string nm, .int .u8 (T : Int), .int .i64 KP, .bool true, .int .i64 st, .int .i64 0] (0, 0) _ P7.out.row Tryd.underlying42 rfl info42 ?_)
        | (refine wpList_store_row rfl 42 _ _ rfl (w.heap.size + 1) #[.string nm, .int .u8 (T : Int), .int .i64 KP, .bool true, .int .i64 st, .int .i64 0] rfl rfl 42 _ P7.out.res info42 rfl (by simp [Value.oneCell']) ?_))
      refine bodyPost_ret (results_cell_row rfl _ _ (w.heap.size + 1) 42 #[.string nm, .int .u8 (T : Int), .int .i64 KP, .bool true, .int .i64 st, .int .i64 0] (0, 0) _ rfl (setRow_heap _ _ _ _ _ _ P7.out.res) Tryd.underlying42 rfl info42) rfl ⟨?_, below_row P7.out.below P7.out.below.size (by omega) _⟩
      rw [HR.out]
end Go.Proofs.YtgkbbdenmgienaaDoor.Lex
