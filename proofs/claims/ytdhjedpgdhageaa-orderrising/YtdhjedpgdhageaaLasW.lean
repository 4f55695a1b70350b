/-
  Lists of one's own whose rows grow, beside a row that grows.
-/
import Derived.Test.YtdhjedpgdhageaaLesWalk
import Derived.Test.YtdhjedpgdhageaaLasM
namespace Go.Proofs.Ytdhjedpgdhageaa.Ord
open Go.ChangeShapes Go.WideShapes Go.ChangeAt Go.RowKit Go.Joins
structure LAS (W wr : World) (m : List (List Int)) (fv al : Value) (ys : List Value) (a : List Int) : Prop where
  T : TG W wr fv ys m
  A : Row wr W.heap.size al a
  ap : ∀ (j : Nat) (y : Value) (g : Nat), j < m.length → ys[j]? = some y → y.ownBlock = some g → al.ownBlock ≠ some g
theorem TG.blk {W wr : World} {v : Value} {ys : List Value} {l : List (List Int)} (h : TG W wr v ys l) {j : Nat} (hj : j < l.length) {y : Value} (hy : ys[j]? = some y) : Row wr W.heap.size y (l.getD j []) := by
  obtain ⟨y', h1, h2⟩ := h.rows j hj
  rw [hy] at h1
  injection h1 with h1
  subst h1
  exact h2
/-- Something else turns. -/
theorem TG.apart {W wr w2 : World} {v : Value} {ys : List Value} {l : List (List Int)} {r : Option Nat} (h : TG W wr v ys l) (hg : wr.grownBy w2 r) (h1 : ∀ g, v.ownBlock = some g → r ≠ some g) (h2 : ∀ (j : Nat) (y : Value) (g : Nat), j < l.length → ys[j]? = some y → y.ownBlock = some g → r ≠ some g) (h3 : ∀ g, r = some g → W.heap.size ≤ g) : TG W w2 v ys l :=
  ⟨own_carry h.own (fun i e => hg.block i (own_lo h.own i e).2 (fun e2 => h1 i e e2.symm)), fun i hi => by obtain ⟨y, e1, e2⟩ := h.rows i hi; exact ⟨y, e1, e2.grown hg (fun b hb => h2 i y b hi e1 hb)⟩, h.ap, h.below.grown hg h.below.size h3⟩
theorem ints_snoc (a : List Int) (z : Int) : ints (a ++ [z]) = ints a ++ [.int .i64 z] := by simp [ints]
/-- The row beside grows. -/
theorem LAS.all {W wr w2 : World} {m : List (List Int)} {fv al : Value} {ys : List Value} {a : List Int} {z : Int} {g cap : Nat} {o : Obj} (h : LAS W wr m fv al ys a) (hg : (wr.alloc o).grownBy w2 al.ownBlock)
    (hown : w2.ownsRow W.heap.size 3 1 (.slice (some ⟨g, 0, none⟩) (a.length + 1) cap) (a.length + 1) (ints a ++ [.int .i64 z])) (hat : al.ownBlock = some g ∨ g = wr.heap.size + 1) : LAS W w2 m fv (.slice (some ⟨g, 0, none⟩) (a.length + 1) cap) ys (a ++ [z]) := by
  have hall : wr.grownBy w2 al.ownBlock := (World.grownBy_alloc wr o _).trans hg
  refine ⟨h.T.apart hall (fun b hb e => h.T.off2 h.A hb e) (fun j y b hj hy hb => h.ap j y b hj hy hb) (fun b e => (h.A.lo b e).1), ?_, fun j y b hj hy hb e => ?_⟩
  · unfold Row
    rw [List.length_append, ints_snoc]
    exact hown
  · have e1 : g = b := by simpa [Value.ownBlock] using e
    subst e1
    rcases hat with e2 | e2
    · exact h.ap j y g hj hy hb e2
    · have := ((h.T.blk hj hy).lo g hb).2; omega
/-- One of the rows grows, and is put in its place. -/
theorem LAS.row {W wr w2 : World} {m : List (List Int)} {fv al y : Value} {ys : List Value} {a : List Int} {z : Int} {g gf cf cap k : Nat} {o : Obj} (h : LAS W wr m fv al ys a) (hf : fv = .slice (some ⟨gf, 0, none⟩) m.length cf) (hk : k < m.length) (hy : ys[k]? = some y) (hg : (wr.alloc o).grownBy w2 y.ownBlock)
    (hown : w2.ownsRow W.heap.size 3 1 (.slice (some ⟨g, 0, none⟩) ((m.getD k []).length + 1) cap) ((m.getD k []).length + 1) (ints (m.getD k []) ++ [.int .i64 z])) (hat : y.ownBlock = some g ∨ g = wr.heap.size + 1) :
    LAS W (w2.setCell ⟨gf, k, none⟩ (.slice (some ⟨g, 0, none⟩) ((m.getD k []).length + 1) cap)) (m.set k (m.getD k [] ++ [z])) fv al (ys.set k (.slice (some ⟨g, 0, none⟩) ((m.getD k []).length + 1) cap)) a ∧ (∃ u, w2.cell? ⟨gf, k, none⟩ = some u) ∧ w2.frozen? ⟨gf, k, none⟩ = false := by
  have hall : wr.grownBy w2 y.ownBlock := (World.grownBy_alloc wr o _).trans hg
  have hgf : fv.ownBlock = some gf := by rw [hf]; rfl
  have hyr := h.T.blk hk hy
  have hnew : Row w2 W.heap.size (.slice (some ⟨g, 0, none⟩) ((m.getD k []).length + 1) cap) (m.getD k [] ++ [z]) := by
    unfold Row
    rw [List.length_append, ints_snoc]
    exact hown
  have how2 : w2.ownsRow W.heap.size 25 1 fv m.length ys := own_carry h.T.own (fun i e => hall.block i (own_lo h.T.own i e).2 (fun e2 => h.T.off hk hy e e2.symm))
  have hlt : ∀ (j : Nat) (u : Value) (b : Nat), j < m.length → ys[j]? = some u → u.ownBlock = some b → b < wr.heap.size := fun j u b hj hu hb => ((h.T.blk hj hu).lo b hb).2
  have hgne : g ≠ gf := fun e => by
    rcases hat with e2 | e2
    · exact h.T.off hk hy hgf (by rw [e2, e])
    · have := (own_lo h.T.own gf hgf).2; omega
  have hkeep : ∀ (u : Value) (r : List Int), Row w2 W.heap.size u r → u.ownBlock ≠ some gf → Row (w2.setCell ⟨gf, k, none⟩ (.slice (some ⟨g, 0, none⟩) ((m.getD k []).length + 1) cap)) W.heap.size u r := fun u r hu hne => hu.carry (fun b hb => Below.heap_setCell _ _ _ _ (fun e => hne (by rw [hb]; exact congrArg some e)))
  have hb2 : Below W.heap.size W w2 := h.T.below.grown hall h.T.below.size (fun b e => (hyr.lo b e).1)
  refine ⟨⟨⟨?_, fun i hi => ?_, fun i j u v b hij hu hv e => ?_, hb2.trans ((mv_cell w2 ⟨gf, k, none⟩ _).toBelow hb2.size (fun i e => by rw [e]; exact (own_lo h.T.own gf hgf).1))⟩, ?_, fun j u b hj hu hb e => ?_⟩, ?_⟩
  · rw [List.length_set]
    exact own_set how2 hf _
  · rw [List.length_set] at hi
    by_cases e : i = k
    · subst e
      refine ⟨.slice (some ⟨g, 0, none⟩) ((m.getD i []).length + 1) cap, by rw [List.getElem?_set, if_pos rfl, if_pos (by rw [h.T.len]; exact hi)], ?_⟩
      rw [set_row hi, if_pos rfl]
      exact hkeep _ _ hnew (by intro e; have : g = gf := by simpa [Value.ownBlock] using e
                               exact hgne this)
    · obtain ⟨u, hu1, hu2⟩ := h.T.rows i hi
      refine ⟨u, by simp [Ne.symm e, hu1], ?_⟩
      rw [set_row hk, if_neg e]
      exact hkeep u _ (hu2.grown hall (fun b hb e2 => h.T.ap k i y u b (Ne.symm e) hy hu1 e2 hb)) (h.T.off hi hu1 hgf)
  · have hys : ∀ (i : Nat) (u : Value), (ys.set k (.slice (some ⟨g, 0, none⟩) ((m.getD k []).length + 1) cap))[i]? = some u → (i = k ∧ u.ownBlock = some g) ∨ (i ≠ k ∧ i < m.length ∧ ys[i]? = some u) := fun i u hu => by
      by_cases e : i = k
      · subst e
        simp [h.T.len, hk] at hu
        exact .inl ⟨rfl, by rw [← hu]; rfl⟩
      · have : ys[i]? = some u := by simpa [Ne.symm e] using hu
        exact .inr ⟨e, by rw [← h.T.len]; exact (List.getElem?_eq_some_iff.1 this).1, this⟩
    rcases hys i u hu with ⟨e1, e2⟩ | ⟨e1, hi, e2⟩
    · rcases hys j v hv with ⟨e3, _⟩ | ⟨e3, hj, e4⟩
      · exact (hij (by rw [e1, e3])).elim
      · intro e5
        rw [e2] at e
        injection e with e
        subst e
        rcases hat with e6 | e6
        · exact h.T.ap k j y v g (Ne.symm e3) hy e4 e6 e5
        · have := hlt j v g hj e4 e5; omega
    · rcases hys j v hv with ⟨e3, e4⟩ | ⟨e3, hj, e4⟩
      · intro e5
        rw [e4] at e5
        injection e5 with e5
        subst e5
        rcases hat with e6 | e6
        · exact h.T.ap i k u y g e1 e2 hy e e6
        · have := hlt i u g hi e2 e; omega
      · exact h.T.ap i j u v b hij e2 e4 e
  · exact hkeep al a (h.A.grown hall (fun b hb e => h.ap k y b hk hy e hb)) (h.T.off2 h.A hgf)
  · rw [List.length_set] at hj
    by_cases ej : j = k
    · subst ej
      simp [h.T.len, hj] at hu
      rw [← hu] at hb
      have hgb : g = b := by simpa [Value.ownBlock] using hb
      subst hgb
      rcases hat with e6 | e6
      · exact h.ap j y g hj hy e6 e
      · have := (h.A.lo g e).2; omega
    · have hu' : ys[j]? = some u := by simpa [Ne.symm ej] using hu
      exact h.ap j u b hj hu' hb e
  · obtain ⟨b, c, e, _, h1, h2⟩ := own_cell how2 hk hy
    rw [hf] at e
    injection e with e
    injection e with e
    injection e with e
    subst e
    exact ⟨⟨y, h1⟩, h2⟩
/-- The lists, the first of them with one more number. -/
def upL (l : List (List Int)) : Nat → List (List Int)
  | 0 => l
  | k + 1 => (upL l k).set k ((upL l k).getD k [] ++ [(l.length : Int)])
theorem upL_len (l : List (List Int)) : ∀ k, (upL l k).length = l.length
  | 0 => rfl
  | k + 1 => by unfold upL; rw [List.length_set]; exact upL_len l k
theorem upL_row (l : List (List Int)) : ∀ k, k ≤ l.length → ∀ i, i < l.length → (upL l k).getD i [] = if i < k then l.getD i [] ++ [(l.length : Int)] else l.getD i []
  | 0, _, i, _ => by rw [if_neg (by omega)]; rfl
  | k + 1, hk, i, hi => by
    unfold upL
    rw [set_row (by rw [upL_len]; omega)]
    by_cases e : i = k
    · rw [if_pos e, if_pos (by omega), upL_row l k (by omega) k (by omega), if_neg (by omega), e]
    · rw [if_neg e, upL_row l k (by omega) i hi]
      by_cases e2 : i < k
      · rw [if_pos e2, if_pos (by omega)]
      · rw [if_neg e2, if_neg (by omega)]
theorem upL_all (l : List (List Int)) : upL l l.length ++ [[]] = fst l := by
  unfold fst
  congr 1
  refine List.ext_getElem (by rw [upL_len]; simp) (fun i h1 h2 => ?_)
  rw [upL_len] at h1
  have := upL_row l l.length (Nat.le_refl _) i h1
  rw [if_pos h1, List.getD_eq_getElem?_getD, List.getElem?_eq_getElem (by rw [upL_len]; exact h1), List.getD_eq_getElem?_getD, List.getElem?_eq_getElem h1] at this
  simpa using this
theorem nums_snoc (n : Nat) : nums (n + 1) = nums n ++ [(n : Int)] := by simp [nums, List.range_succ]
theorem las_mid {w3 wr w7 w8 : World} {l m : List (List Int)} {fv al v7 : Value} {ysf ys7 : List Value} {a : List Int} {o1 : Obj} (hS : LAS w3 wr m fv al ysf a) (hT : TG wr w7 v7 ys7 l) (hg8 : (w7.alloc o1).grownBy w8 v7.ownBlock) : Below wr.heap.size wr w8 ∧ LAS w3 w8 m fv al ysf a := by
  have hb : Below wr.heap.size wr w8 := (hT.below.alloc hT.below.size o1).grown hg8 (Nat.le_trans hT.below.size (by simp)) (fun j e => (own_lo hT.own j e).1)
  exact ⟨hb, ⟨hS.T.keep hb, hS.A.below hb, hS.ap⟩⟩
theorem las_tail {w3 wr w7 w8 w9 : World} {l : List (List Int)} {fv al v7 : Value} {ysf ys7 : List Value} {o1 o2 : Obj} {g8 c8 g9 c9 : Nat} (hl : l.length ≤ 1048576) (hr : ∀ k, k < l.length → (l.getD k []).length ≤ 1048576) (hS : LAS w3 wr (upL l l.length) fv al ysf (nums l.length)) (hT : TG wr w7 v7 ys7 l) (hg8 : (w7.alloc o1).grownBy w8 v7.ownBlock)
    (ho8 : w8.ownsRow wr.heap.size 25 1 (.slice (some ⟨g8, 0, none⟩) (l.length + 1) c8) (l.length + 1) (ys7 ++ [al])) (hg9 : (w8.alloc o2).grownBy w9 fv.ownBlock) (ho9 : w9.ownsRow w3.heap.size 25 1 (.slice (some ⟨g9, 0, none⟩) (l.length + 1) c9) (l.length + 1) (ysf ++ [.slice none 0 0])) :
    LL w9 w9.heap.size (.slice (some ⟨g8, 0, none⟩) (l.length + 1) c8) (l ++ [nums l.length]) ∧ LL w9 w9.heap.size (.slice (some ⟨g9, 0, none⟩) (l.length + 1) c9) (fst l) ∧ Below w3.heap.size w3 w9 := by
  obtain ⟨hb8, hS8⟩ := las_mid hS hT hg8
  have h9 : w8.grownBy w9 fv.ownBlock := (World.grownBy_alloc w8 o2 _).trans hg9
  have hlu := upL_len l l.length
  have hfl : ∀ g, fv.ownBlock = some g → g < wr.heap.size := fun g e => (own_lo hS.T.own g e).2
  have hl8 : (l ++ [nums l.length]).length = l.length + 1 := by simp
  have hl9 : (fst l).length = l.length + 1 := by simp [fst]
  refine ⟨?_, ?_, hS8.T.below.grown h9 hS8.T.below.size (fun g e => (own_lo hS.T.own g e).1)⟩
  · rw [← hl8]
    refine LL.own (lo := wr.heap.size) (ys := ys7 ++ [al]) ?_ (by omega) (fun i hi => ?_)
    · rw [hl8]
      exact own_carry ho8 (fun i e => h9.block i (own_lo ho8 i e).2 (fun e2 => by have h1 := (own_lo ho8 i e).1; have h2 := hfl i e2.symm; omega))
    · by_cases e : i < l.length
      · obtain ⟨y, h1, h2⟩ := hT.rows i e
        refine ⟨y, by rw [List.getElem?_append_left (by rw [hT.len]; exact e)]; exact h1, ?_⟩
        have e3 : (l ++ [nums l.length]).getD i [] = l.getD i [] := by simp [List.getElem?_append_left e]
        rw [e3]
        have h3 : Row w8 wr.heap.size y (l.getD i []) := (h2.below ((Below.refl _ _).alloc (Nat.le_refl _) o1)).grown hg8 (fun b hb e4 => hT.off e h1 e4 hb)
        exact (h3.grown h9 (fun b hb e4 => by have h4 := (h3.lo b hb).1; have h5 := hfl b e4; omega)).rd (by have := hr i e; omega)
      · obtain rfl : i = l.length := by omega
        refine ⟨al, by rw [← hT.len]; simp, ?_⟩
        have e3 : (l ++ [nums l.length]).getD l.length [] = nums l.length := by simp
        rw [e3]
        exact (hS8.A.grown h9 (fun b hb e4 => hS8.T.off2 hS8.A e4 hb)).rd (by rw [nums_len]; omega)
  · rw [← hl9]
    refine LL.own (lo := w3.heap.size) (ys := ysf ++ [.slice none 0 0]) (by rw [hl9]; exact ho9) (by omega) (fun i hi => ?_)
    have hys := hS.T.len
    rw [← upL_all]
    by_cases e : i < l.length
    · have hiu : i < (upL l l.length).length := by rw [hlu]; exact e
      obtain ⟨y, h1, h2⟩ := hS8.T.rows i hiu
      refine ⟨y, by rw [List.getElem?_append_left (by rw [hys]; exact hiu)]; exact h1, ?_⟩
      have e3 : (upL l l.length ++ [[]]).getD i [] = (upL l l.length).getD i [] := by simp [List.getElem?_append_left hiu]
      rw [e3]
      refine (h2.grown h9 (fun b hb e4 => hS8.T.off hiu h1 e4 hb)).rd ?_
      rw [upL_row l l.length (Nat.le_refl _) i e, if_pos e, List.length_append]
      have := hr i e
      simp only [List.length_singleton]
      omega
    · obtain rfl : i = l.length := by omega
      refine ⟨.slice none 0 0, by rw [← hlu, ← hys]; simp, ?_⟩
      have e3 : (upL l l.length ++ [[]]).getD l.length [] = [] := by
        rw [List.getD_eq_getElem?_getD, List.getElem?_append_right (by omega)]
        simp [hlu]
      rw [e3]
      exact ⟨none, 0, rfl, Nat.le_refl _, ⟨by omega, by simp⟩, .inl rfl⟩
end Go.Proofs.Ytdhjedpgdhageaa.Ord
