/-
  A book of lists of many kinds: what it holds, kind by kind (no function of the program is named here).
-/
import Derived.Test.YtobmnndimlhfpaaGreatDoorKit
import Derived.ArgAppend
namespace Go.Proofs.YtobmnndimlhfpaaGreatDoor.Slo
open Go.ChangeShapes Go.WideShapes Go.ChangeAt Go.RowKit Go.Joins
/-- So many times the same cells. -/
def rep (n : Nat) (l : List Value) : List Value := (List.replicate n l).flatten
theorem rep_zero (l : List Value) : rep 0 l = [] := rfl
theorem rep_succ (n : Nat) (l : List Value) : rep (n + 1) l = rep n l ++ l := by simp [rep, List.replicate_succ']
theorem rep_len (n : Nat) (l : List Value) : (rep n l).length = n * l.length := by simp [rep]
theorem rep_at (l : List Value) {j : Nat} (hj : j < l.length) : ∀ (n i : Nat), i < n → (rep n l)[i * l.length + j]? = l[j]?
  | 0, i, h => by omega
  | n + 1, i, h => by
    rw [rep_succ]
    by_cases e : i < n
    · have h1 : i * l.length + j < n * l.length := by
        have := Nat.mul_le_mul_right l.length (show i + 1 ≤ n by omega)
        rw [Nat.add_mul] at this
        omega
      rw [List.getElem?_append_left (by rw [rep_len]; exact h1), rep_at l hj n i e]
    · obtain rfl : i = n := by omega
      rw [List.getElem?_append_right (by rw [rep_len]; omega), rep_len]
      congr 1
      omega
theorem rep_take (l : List Value) (n k : Nat) : (rep (n + k) l).take (n * l.length) = rep n l := by
  have e : rep (n + k) l = rep n l ++ rep k l := by rw [rep, rep, rep, ← List.flatten_append, List.replicate_append_replicate]
  rw [e, ← rep_len]
  exact List.take_left
/-- A list that is held: it, its length, its longer copy, its number. -/
structure En where
  v : Value
  m : Nat
  x : Value
  k : Nat
def enC (e : En) : List Value := [e.v, e.x, .int .i64 (e.k : Int)]
def heldC (E : List En) : List Value := (E.map enC).flatten
theorem heldC_app (E : List En) (e : En) : heldC (E ++ [e]) = heldC E ++ enC e := by simp [heldC]
theorem heldC_len : ∀ E : List En, (heldC E).length = E.length * 3
  | [] => rfl
  | e :: E => by
    show (enC e ++ heldC E).length = _
    rw [List.length_append, heldC_len E]
    simp [enC]
    omega
theorem heldC_get : ∀ (E : List En) (i : Nat) (e : En), E[i]? = some e → (heldC E)[i * 3]? = some e.v ∧ (heldC E)[i * 3 + 1]? = some e.x ∧ (heldC E)[i * 3 + 2]? = some (.int .i64 (e.k : Int))
  | [], i, e, h => by simp at h
  | a :: E, 0, e, h => by
    obtain rfl : a = e := by simpa using h
    exact ⟨rfl, rfl, rfl⟩
  | a :: E, i + 1, e, h => by
    obtain ⟨h1, h2, h3⟩ := heldC_get E i e (by simpa using h)
    show (enC a ++ heldC E)[_]? = _ ∧ (enC a ++ heldC E)[_]? = _ ∧ (enC a ++ heldC E)[_]? = _
    have hl : (enC a).length = 3 := rfl
    refine ⟨?_, ?_, ?_⟩
    · rw [List.getElem?_append_right (by omega), hl, show (i + 1) * 3 - 3 = i * 3 by omega]; exact h1
    · rw [List.getElem?_append_right (by omega), hl, show (i + 1) * 3 + 1 - 3 = i * 3 + 1 by omega]; exact h2
    · rw [List.getElem?_append_right (by omega), hl, show (i + 1) * 3 + 2 - 3 = i * 3 + 2 by omega]; exact h3
theorem heldC_set (u : Value) : ∀ (E : List En) (i : Nat) (e : En), E[i]? = some e → (heldC E).set (i * 3 + 1) u = heldC (E.set i ⟨e.v, e.m, u, e.k⟩)
  | [], i, e, h => by simp at h
  | a :: E, 0, e, h => by
    obtain rfl : a = e := by simpa using h
    rfl
  | a :: E, i + 1, e, h => by
    have ih := heldC_set u E i e (by simpa using h)
    show (enC a ++ heldC E).set _ u = enC a ++ heldC (E.set i ⟨e.v, e.m, u, e.k⟩)
    have hl : (enC a).length = 3 := rfl
    rw [List.set_append_right _ _ (by omega), hl, show (i + 1) * 3 + 1 - 3 = i * 3 + 1 by omega, ih]
theorem own_type {w : World} {B t s n i : Nat} {v : Value} {xs : List Value} (h : w.ownsRow B t s v n xs) (hi : v.ownBlock = some i) : ∃ cur, w.heap[i]? = some (.cells cur t (0, 0)) := by
  rcases h.2 with ⟨h2, _⟩ | ⟨g, c, cur, h2, _, hg, _⟩
  · rw [h2] at hi; cases hi
  · rw [h2] at hi
    injection hi with hi
    subst hi
    exact ⟨cur, hg⟩
/-- What one kind of lists is like in the book: the first f are filled with their marks, the first g have their longer copies. -/
structure KAt (w : World) (th e sz : Nat) (mk : Nat → List Value) (vb : Value) (E : List En) (f g : Nat) : Prop where
  row : w.ownsRow 0 th 3 vb E.length (heldC E)
  own : ∀ (i : Nat) (a : En), E[i]? = some a → ∃ xs, w.ownsRow 0 e sz a.v a.m xs
  apart : ∀ (i j : Nat) (a b : En), E[i]? = some a → E[j]? = some b → i ≠ j → ∀ k, a.v.ownBlock = some k → b.v.ownBlock ≠ some k
  fill : ∀ (i : Nat) (a : En), E[i]? = some a → i < f → w.ownsRow 0 e sz a.v a.m (rep a.m (mk a.k))
  long : ∀ (i : Nat) (a : En), E[i]? = some a → i < g → w.ownsRow 0 e sz a.x (a.m + 40) (rep (a.m + 40) (mk a.k))
  far : ∀ (i j : Nat) (a b : En), E[i]? = some a → E[j]? = some b → i < g → i ≠ j → ∀ k, a.x.ownBlock = some k → b.v.ownBlock ≠ some k
  sl : ∀ (i : Nat) (a : En), E[i]? = some a → ∃ b l c, a.x = .slice b l c
/-- What is not of this kind's types leaves it as it is. -/
theorem KAt.moved {w w' : World} {th e sz : Nat} {mk : Nat → List Value} {vb : Value} {E : List En} {f g : Nat} {S : Nat → Prop} (h : KAt w th e sz mk vb E f g) (hm : Mv w w' S) (hs : ∀ i, S i → ∀ cur, w.heap[i]? ≠ some (.cells cur th (0, 0)) ∧ w.heap[i]? ≠ some (.cells cur e (0, 0))) : KAt w' th e sz mk vb E f g := by
  have k1 : ∀ {v : Value} {n : Nat} {xs : List Value}, w.ownsRow 0 e sz v n xs → w'.ownsRow 0 e sz v n xs := fun {v n xs} ho => own_moved ho hm (fun b hb hS => by
    obtain ⟨cur, hc⟩ := own_type ho hb
    exact (hs b hS cur).2 hc)
  refine ⟨own_moved h.row hm (fun b hb hS => ?_), fun i a ha => (h.own i a ha).imp fun _ => k1, h.apart, fun i a ha hf => k1 (h.fill i a ha hf), fun i a ha hf => k1 (h.long i a ha hf), h.far, h.sl⟩
  obtain ⟨cur, hc⟩ := own_type h.row hb
  exact (hs b hS cur).1 hc
theorem KAt.below {w w' : World} {th e sz : Nat} {mk : Nat → List Value} {vb : Value} {E : List En} {f g : Nat} (h : KAt w th e sz mk vb E f g) (hb : Below w.heap.size w w') : KAt w' th e sz mk vb E f g := h.moved (Mv.ofBelow (S := fun _ => False) hb) (fun _ hi => hi.elim)
/-- The blocks of the held lists. -/
def KB (E : List En) (i : Nat) : Prop := ∃ (j : Nat) (a : En), E[j]? = some a ∧ a.v.ownBlock = some i
/-- One list is filled. -/
theorem KAt.filled {w w' : World} {th e sz : Nat} {mk : Nat → List Value} {vb : Value} {E : List En} {f : Nat} {a : En} (hte : th ≠ e) (h : KAt w th e sz mk vb E f 0) (ha : E[f]? = some a) (hg : w.grownBy w' a.v.ownBlock) (ho : w'.ownsRow 0 e sz a.v a.m (rep a.m (mk a.k))) : KAt w' th e sz mk vb E (f + 1) 0 := by
  obtain ⟨xs0, hx0⟩ := h.own f a ha
  have k1 : ∀ j b, E[j]? = some b → j ≠ f → ∀ {n : Nat} {xs : List Value}, w.ownsRow 0 e sz b.v n xs → w'.ownsRow 0 e sz b.v n xs := fun j b hb hj {n xs} hr => own_carry hr (fun k hk => hg.block k (own_lo hr k hk).2 (fun e2 => h.apart j f b a hb ha hj k hk e2.symm))
  refine ⟨own_carry h.row (fun k hk => hg.block k (own_lo h.row k hk).2 (fun e2 => ?_)), fun j b hb => ?_, h.apart, fun j b hb hj => ?_, fun j b hb hj => by omega, fun i j a b _ _ hi => by omega, h.sl⟩
  · obtain ⟨c1, h1⟩ := own_type h.row hk
    obtain ⟨c2, h2⟩ := own_type hx0 e2.symm
    rw [h1] at h2
    injection h2 with h2
    injection h2 with _ h2 _
    exact hte h2
  · by_cases e2 : j = f
    · subst e2
      rw [ha] at hb
      injection hb with hb
      subst hb
      exact ⟨_, ho⟩
    · exact (h.own j b hb).imp fun _ => k1 j b hb e2
  · by_cases e2 : j = f
    · subst e2
      rw [ha] at hb
      injection hb with hb
      subst hb
      exact ho
    · exact k1 j b hb e2 (h.fill j b hb (by omega))
/-- A list has its longer copy. -/
theorem KAt.grown {w w' : World} {th e sz : Nat} {mk : Nat → List Value} {gb cb : Nat} {E : List En} {g : Nat} {a : En} {x : Value} (hte : th ≠ e) (h : KAt w th e sz mk (.slice (some ⟨gb, 0, none⟩) E.length cb) E E.length g) (ha : E[g]? = some a)
    (hm : Mv w w' (fun i => a.v.ownBlock = some i)) (hv : w'.ownsRow 0 e sz a.v a.m (rep a.m (mk a.k))) (hx : w'.ownsRow 0 e sz x (a.m + 40) (rep (a.m + 40) (mk a.k))) (hxb : ∀ k, x.ownBlock = some k → a.v.ownBlock = some k ∨ w.heap.size ≤ k) :
    KAt (w'.setCell ⟨gb, g * 3 + 1, none⟩ x) th e sz mk (.slice (some ⟨gb, 0, none⟩) E.length cb) (E.set g ⟨a.v, a.m, x, a.k⟩) E.length (g + 1) := by
  have hgl : g < E.length := (List.getElem?_eq_some_iff.1 ha).1
  obtain ⟨cg, hcg⟩ := own_type h.row (i := gb) rfl
  have hgb : ∀ {v : Value} {n : Nat} {xs : List Value}, w.ownsRow 0 e sz v n xs → ∀ k, v.ownBlock = some k → k ≠ gb := fun {v n xs} hr k hk e2 => by
    obtain ⟨c1, h1⟩ := own_type hr hk
    rw [e2, hcg] at h1
    injection h1 with h1
    injection h1 with _ h1 _
    exact hte h1
  have hgs : gb < w.heap.size := (Array.getElem?_eq_some_iff.1 hcg).1
  have k1 : ∀ j b, E[j]? = some b → j ≠ g → ∀ {v : Value} {n : Nat} {xs : List Value}, (∀ k, v.ownBlock = some k → a.v.ownBlock ≠ some k) → w.ownsRow 0 e sz v n xs → (w'.setCell ⟨gb, g * 3 + 1, none⟩ x).ownsRow 0 e sz v n xs := fun j b hb hj {v n xs} hne hr =>
    own_carry (own_moved hr hm (fun k hk e2 => hne k hk e2)) (fun k hk => heap_setCell_other _ _ _ _ (hgb hr k hk))
  have k2 : ∀ {v : Value} {n : Nat} {xs : List Value}, w'.ownsRow 0 e sz v n xs → (w'.setCell ⟨gb, g * 3 + 1, none⟩ x).ownsRow 0 e sz v n xs := fun {v n xs} hr => own_carry hr (fun k hk => heap_setCell_other _ _ _ _ (fun e2 => by
    obtain ⟨c1, h1⟩ := own_type hr hk
    have e2' : k = gb := e2
    have h2 := hm.block gb hgs (fun e3 => by
      obtain ⟨xs0, hx0⟩ := h.own g a ha
      exact hgb hx0 gb e3 rfl)
    rw [e2', h2, hcg] at h1
    injection h1 with h1
    injection h1 with _ h1 _
    exact hte h1))
  have hset : ∀ j b, (E.set g ⟨a.v, a.m, x, a.k⟩)[j]? = some b → (j = g ∧ b = ⟨a.v, a.m, x, a.k⟩) ∨ (j ≠ g ∧ E[j]? = some b) := fun j b hb => by
    by_cases e2 : j = g
    · subst e2
      rw [List.getElem?_set_self hgl] at hb
      injection hb with hb
      exact .inl ⟨rfl, hb.symm⟩
    · rw [List.getElem?_set_ne (fun e3 => e2 e3.symm)] at hb
      exact .inr ⟨e2, hb⟩
  have hold : ∀ j b, E[j]? = some b → j ≠ g → ∀ k, b.v.ownBlock = some k → a.v.ownBlock ≠ some k := fun j b hb hj k hk => h.apart j g b a hb ha hj k hk
  have hlt : ∀ (j : Nat) (b : En), E[j]? = some b → ∀ k, b.v.ownBlock = some k → k < w.heap.size := fun j b hb k hk => by
    obtain ⟨xs, hr⟩ := h.own j b hb
    exact (own_lo hr k hk).2
  refine ⟨?_, fun j b hb => ?_, fun i j c d hc hd hij => ?_, fun j b hb hj => ?_, fun j b hb hj => ?_, fun i j c d hc hd hi hij k hk => ?_, fun j b hb => ?_⟩
  · have hrow := own_moved h.row hm (fun k hk e2 => by
      obtain ⟨xs0, hx0⟩ := h.own g a ha
      have e3 : k = gb := by injection hk with hk; exact hk.symm
      exact hgb hx0 k e2 e3)
    rw [List.length_set, ← heldC_set x E g a ha]
    rcases hrow.2 with ⟨h2, _⟩ | ⟨g2, c2, cur, h2, _, hg2, hn, hmx, hsz, htk⟩
    · cases h2
    · cases h2
      exact ⟨by rw [List.length_set]; exact hrow.1, .inr ⟨gb, cb, cur.setIfInBounds (g * 3 + 1) x, rfl, Nat.zero_le _, heap_setCell_same _ _ _ _ _ x hg2, hn, hmx, by simpa using hsz, by rw [Array.toList_setIfInBounds, List.take_set, htk]⟩⟩
  · rcases hset j b hb with ⟨rfl, rfl⟩ | ⟨hj, hb⟩
    · exact ⟨_, k2 hv⟩
    · exact (h.own j b hb).imp fun _ => k1 j b hb hj (hold j b hb hj)
  · rcases hset i c hc with ⟨rfl, rfl⟩ | ⟨hi, hc'⟩ <;> rcases hset j d hd with ⟨rfl, rfl⟩ | ⟨hj, hd'⟩
    · exact absurd rfl hij
    · exact h.apart _ _ a d ha hd' hij
    · exact h.apart _ _ c a hc' ha hij
    · exact h.apart _ _ c d hc' hd' hij
  · rcases hset j b hb with ⟨rfl, rfl⟩ | ⟨hj2, hb⟩
    · exact k2 hv
    · exact k1 j b hb hj2 (hold j b hb hj2) (h.fill j b hb hj)
  · rcases hset j b hb with ⟨rfl, rfl⟩ | ⟨hj2, hb⟩
    · exact k2 hx
    · exact k1 j b hb hj2 (fun k hk => h.far j g b a hb ha (by omega) hj2 k hk) (h.long j b hb (by omega))
  · rcases hset i c hc with ⟨rfl, rfl⟩ | ⟨hi2, hc'⟩ <;> rcases hset j d hd with ⟨rfl, rfl⟩ | ⟨hj2, hd'⟩
    · exact absurd rfl hij
    · rcases hxb k hk with h3 | h3
      · exact h.apart _ _ a d ha hd' hij k h3
      · intro h4
        have := hlt j d hd' k h4
        omega
    · exact h.far i _ c a hc' ha (by omega) hij k hk
    · exact h.far i j c d hc' hd' (by omega) hij k hk
  · rcases hset j b hb with ⟨rfl, rfl⟩ | ⟨hj2, hb⟩
    · rcases hx.2 with ⟨h1, h2⟩ | ⟨g2, c, cur, h1, _⟩
      · exact ⟨_, _, _, h1⟩
      · exact ⟨_, _, _, h1⟩
    · exact h.sl j b hb
/-- An append that tells where the answer lies: in the same row, with the same room, or in new memory, all else as it was. -/
theorem wpList_append_two {P : Program} {w : World} {ops : Array Oper} {rest : List Oper} {o : Oper} {a : Act} {Q : Exit → Act → World → Prop} (hgd : o.guard = none) (s x : Operand) (t : TypeId)
    (ho : o.op = .call { callee := .builtin .append, args := #[s, x], argTypes := #[t, t] })
    (base : Nat) (e : TypeId) (i : TypeInfo) (z : Value) (size bytes : Nat) (ht : P.underlying t = some (.slice e)) (hi : P.info? e = some i) (hz : i.zero = some z)
    (hsize : i.size = size) (hby : i.bytes = bytes) (hzs : z.cells.size = size) (hsz : 0 < size)
    (v : Value) (n : Nat) (xs : List Value) (hs : a.eval s = v) (hown : w.ownsRow base e size v n xs)
    (ad : Addr) (m c : Nat) (news : List Value) (hx : a.eval x = .slice (some ad) m c) (hl : news.length = m * size) (hnews : ∀ j u, news[j]? = some u → w.cell? (ad.add j) = some u) (h1 : ∀ u ∈ news, u.oneCell' = true)
    (hm : 0 < m) (h63 : n + m ≤ maxLen) (hbytes : (n + m) * bytes ≤ 140737488355328) (hbase : base ≤ w.heap.size)
    (h : ∀ v' w', w'.ownsRow base e size v' (n + m) (xs ++ news) → ((∃ g cap, v = .slice (some ⟨g, 0, none⟩) n cap ∧ v' = .slice (some ⟨g, 0, none⟩) (n + m) cap ∧ w.grownBy w' (some g)) ∨ (v'.ownBlock = some w.heap.size ∧ w.grownBy w' none)) → wpList P ops Q rest (a.put o.dst v') w') :
    wpList P ops Q (o :: rest) a w := by
  obtain ⟨v', w', hrun, h2, h3, h4, h5⟩ := run_append_own_at (P := P) w base t o.type e i z size bytes ht hi hz hsize hby hzs hsz v n xs hown ad m c news hl hnews h1 h63 hbytes hbase
  refine wpList_plain hgd fun K hK => ?_
  unfold Oper.wp execOp
  simp only [ho, resolve, invoke, builtin, Sem.run_bind, Sem.run_pure, Result.andThen_ok, List.map_toArray, List.map_cons, List.map_nil, hs, hx, hrun]
  refine hK _ _ (h v' w' h2 ?_)
  subst hsize
  subst hby
  rcases hown.2 with ⟨rfl, rfl⟩ | ⟨g, cap, cur, rfl, _, hg, hnc, hcm, hcs, htake⟩
  · right
    refine ⟨h5.resolve_left (fun e2 => ?_), h3⟩
    rcases h2.2 with ⟨h6, h7⟩ | ⟨g2, c2, cur2, h6, _⟩
    · omega
    · rw [h6] at e2; cases e2
  · by_cases hroom : n + m ≤ cap
    · have hr := run_append_room (P := P) w t o.type e i ht hi g n cap cur hg ad m c news hl hnews h1 hroom (by rw [hl, hcs, ← Nat.add_mul]; exact Nat.mul_le_mul_right _ hroom)
      rw [hr] at hrun
      injection hrun with e1 e2
      left
      exact ⟨g, cap, rfl, e1.symm, h3⟩
    · have holds : ∀ j u, xs[j]? = some u → w.cell? ((⟨g, 0, none⟩ : Addr).add j) = some u := hown.cells (g := g) rfl
      have hsm : n + m ≤ 9223372036854775807 := by simp only [maxLen] at h63; omega
      have hr := run_append_grow (P := P) w t o.type e i z ht hi hz ⟨g, 0, none⟩ n cap xs hown.1 holds ad m c news hl hnews (by omega) (by omega) (growslice_fits (by omega) hbytes)
      rw [hr] at hrun
      injection hrun with e1 e2
      right
      refine ⟨by rw [← e1]; rfl, ?_⟩
      rw [← e2]
      exact ⟨rfl, rfl, rfl, by simp, fun k hk _ => Below.heap_alloc _ _ _ (show k < w.drew.heap.size from hk)⟩
end Go.Proofs.YtobmnndimlhfpaaGreatDoor.Slo
