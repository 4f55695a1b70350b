/-
  What is asked for, as it is come to: plain mathematics, and what holds while it is gathered.
-/
import Derived.Test.YtkieljleopbhoaaDoorBump
import Derived.Test.YtkieljleopbhoaaDoorReads
namespace Go.Proofs.YtkieljleopbhoaaDoor.Lex
open Go.ChangeShapes Go.WideShapes Go.ChangeAt Go.RowKit Go.Joins Go.WideMaps Go.WideElems Go.Maps
def refsV (acc : List Rf) : List Value := acc.flatMap fun r => [.string r.1, .int .i64 (r.2 : Int)]
def nextAgo (x : Ex) (ago : Nat) : Nat := if x.op = 19 then ago + 1 else ago
def ownRefs (x : Ex) (ago : Nat) (acc : List Rf) : List Rf := if x.op = 3 then addR acc (x.name, ago) else acc
/-- What it asks for, looked at so deep. -/
def gat : Nat → Ex → Nat → List Rf → List Rf
  | 0, _, _, acc => acc
  | k + 1, x, ago, acc => x.args.foldl (fun acc y => gat k y (nextAgo x ago) acc) (ownRefs x ago acc)
/-- How many parts it has, itself with them, looked at so deep. -/
def cnt : Nat → Ex → Nat
  | 0, _ => 1
  | k + 1, x => x.args.foldl (fun n y => n + cnt k y) 1
/-- It is no deeper, and its names may be gathered. -/
def NmOk : Nat → Ex → Prop
  | 0, _ => False
  | k + 1, x => x.name.size ≤ 65536 ∧ ∀ y ∈ x.args, NmOk k y
abbrev ptr (b : Nat) : Value := .pointer (some ⟨b, 0, none⟩)
/-- What holds while it is gathered: the map, the list, the closure, in their variables. -/
structure GI (w0 : World) (bs bl bg mb b0 : Nat) (acc accM : List Rf) (N : Nat) (W : World) : Prop where
  below : Below w0.heap.size w0 W
  seen : W.heap[bs]? = some (.cells #[.map (some mb)] 74 (0, 0))
  self : W.heap[bg]? = some (.cells #[.func (.func 37) #[] #[ptr bs, ptr bl, ptr bg]] 75 (0, 0))
  list : ∃ v, W.heap[bl]? = some (.cells #[v] 47 (0, 0)) ∧ W.ownsRow b0 51 2 v acc.length (refsV acc)
  map : SeenM accM N mb W
  few : acc.length ≤ N
  ord : w0.heap.size ≤ bs ∧ w0.heap.size ≤ bl ∧ w0.heap.size ≤ bg ∧ w0.heap.size ≤ mb ∧ bs < b0 ∧ bl < b0 ∧ bg < b0 ∧ mb < b0 ∧ b0 ≤ W.heap.size
  ne : bs ≠ bl ∧ bs ≠ bg ∧ bs ≠ mb ∧ bl ≠ bg ∧ bl ≠ mb ∧ bg ≠ mb
theorem GI.step {w0 W W' : World} {bs bl bg mb b0 N : Nat} {acc accM : List Rf} (h : GI w0 bs bl bg mb b0 acc accM N W) (hb : Below W.heap.size W W') : GI w0 bs bl bg mb b0 acc accM N W' := by
  have k : ∀ {b o}, W.heap[b]? = some o → W'.heap[b]? = some o := fun {b o} e => (hb.block b (Array.getElem?_eq_some_iff.1 e).1).trans e
  obtain ⟨v, l1, l2⟩ := h.list
  obtain ⟨o1, o2, o3, o4, o5, o6, o7, o8, o9⟩ := h.ord
  exact ⟨h.below.trans (hb.mono h.below.size), k h.seen, k h.self, ⟨v, k l1, ownsRow_below l2 hb⟩, h.map.kept fun hl => hb.block mb hl, h.few, ⟨o1, o2, o3, o4, o5, o6, o7, o8, Nat.le_trans o9 hb.size⟩, h.ne⟩
theorem own_kept {w w' : World} {base e size n : Nat} {v : Value} {xs : List Value} {b : Nat} (h : w.ownsRow base e size v n xs) (g : w.grownBy w' (some b)) (hb : b < base) : w'.ownsRow base e size v n xs := by
  refine ⟨h.1, ?_⟩
  rcases h.2 with hn | ⟨g', cap, cur, rfl, hg0, hg, rest⟩
  · exact .inl hn
  · exact .inr ⟨g', cap, cur, rfl, hg0, (g.block g' (Array.getElem?_eq_some_iff.1 hg).1 (fun e => by injection e; omega)).trans hg, rest⟩
/-- The map has turned. -/
theorem GI.count {w0 W W' : World} {bs bl bg mb b0 N N' : Nat} {acc accM accM' : List Rf} (h : GI w0 bs bl bg mb b0 acc accM N W) (g : W.grownBy W' (some mb)) (hm : SeenM accM' N' mb W') (hN : N ≤ N') : GI w0 bs bl bg mb b0 acc accM' N' W' := by
  obtain ⟨n1, n2, n3, n4, n5, n6⟩ := h.ne
  have k : ∀ {b o}, W.heap[b]? = some o → b ≠ mb → W'.heap[b]? = some o := fun {b o} e hne => (g.block b (Array.getElem?_eq_some_iff.1 e).1 (fun e => by injection e; omega)).trans e
  obtain ⟨v, l1, l2⟩ := h.list
  obtain ⟨o1, o2, o3, o4, o5, o6, o7, o8, o9⟩ := h.ord
  refine ⟨h.below.grown g h.below.size (fun k e => by injection e; omega), k h.seen n3, k h.self n6, ⟨v, k l1 n5, own_kept l2 g o8⟩, hm, Nat.le_trans h.few hN, ⟨o1, o2, o3, o4, o5, o6, o7, o8, Nat.le_trans o9 g.size⟩, h.ne⟩
theorem refsV_app (a b : List Rf) : refsV (a ++ b) = refsV a ++ refsV b := by simp [refsV]
/-- The list has grown by one, and is laid in its variable. -/
theorem GI.push {w0 W W' : World} {bs bl bg mb b0 N : Nat} {acc accM : List Rf} {v v' : Value} {r : Rf} (h : GI w0 bs bl bg mb b0 acc accM N W) (hv : W.heap[bl]? = some (.cells #[v] 47 (0, 0))) (hr : W.ownsRow b0 51 2 v acc.length (refsV acc)) (g : W.grownBy W' v.ownBlock) (hr' : W'.ownsRow b0 51 2 v' (acc.length + 1) (refsV acc ++ [.string r.1, .int .i64 (r.2 : Int)])) (hN : acc.length + 1 ≤ N) : W'.heap[bl]? = some (.cells #[v] 47 (0, 0)) ∧ GI w0 bs bl bg mb b0 (acc ++ [r]) accM N (W'.setCell ⟨bl, 0, none⟩ v') := by
  obtain ⟨n1, n2, n3, n4, n5, n6⟩ := h.ne
  obtain ⟨o1, o2, o3, o4, o5, o6, o7, o8, o9⟩ := h.ord
  have hlt := hr.lt
  have hne : ∀ k, k < b0 → some k ≠ v.ownBlock := fun k hk e => by have := (hlt k e.symm).1; omega
  have k : ∀ {b o}, W.heap[b]? = some o → b < b0 → W'.heap[b]? = some o := fun {b o} e hb => (g.block b (Array.getElem?_eq_some_iff.1 e).1 (hne b hb)).trans e
  have far : ∀ b, b ≠ bl → (W'.setCell ⟨bl, 0, none⟩ v').heap[b]? = W'.heap[b]? := fun b hb => Below.heap_setCell _ _ _ _ hb
  have hbl := k hv o6
  refine ⟨hbl, ⟨?_, ?_, ?_, ⟨v', ?_, ?_⟩, ?_, ?_, ⟨o1, o2, o3, o4, o5, o6, o7, o8, ?_⟩, h.ne⟩⟩
  · have b1 := h.below.grown g h.below.size (fun k e => by have := (hlt k e).1; omega)
    exact ⟨b1.os, b1.tape, b1.output, by have := b1.size; simpa [World.setCell] using this, fun k hk => (far k (by omega)).trans (b1.block k hk)⟩
  · rw [far _ n1]; exact k h.seen o5
  · rw [far _ (fun e => n4 e.symm)]; exact k h.self o7
  · rw [set_same' hbl 0 v']; rfl
  · rw [List.length_append, refsV_app]
    rw [show refsV [r] = [.string r.1, .int .i64 (r.2 : Int)] by simp [refsV]]
    refine ⟨hr'.1, ?_⟩
    rcases hr'.2 with hn | ⟨g', cap, cur, e1, hg0, hg, rest⟩
    · exact .inl hn
    · exact .inr ⟨g', cap, cur, e1, hg0, (far g' (by omega)).trans hg, rest⟩
  · exact h.map.kept fun hl => (far mb (fun e => n5 e.symm)).trans (g.block mb hl (hne mb o8))
  · rw [List.length_append]; exact hN
  · have := g.size; simp [World.setCell]; omega
theorem i51 : (Tryd.prog.info? 51).map (fun i => (i.zero, i.size, i.bytes)) = some (some (.agg #[.string ByteArray.empty, .int .i64 0]), 2, 24) := by kernel_rfl
theorem info51 : (Tryd.prog.info? 51).map (·.size) = some 2 := by kernel_rfl
theorem GI.mono {w0 W : World} {bs bl bg mb b0 N N' : Nat} {acc accM : List Rf} (h : GI w0 bs bl bg mb b0 acc accM N W) (hN : N ≤ N') : GI w0 bs bl bg mb b0 acc accM N' W := by
  refine ⟨h.below, h.seen, h.self, h.list, ?_, Nat.le_trans h.few hN, h.ord, h.ne⟩
  obtain ⟨es, clock, e1, e2, e3, e4, e5⟩ := h.map
  exact ⟨es, clock, e1, e2, Nat.le_trans e3 hN, fun x hx => by obtain ⟨r, q1, q2, c, q3, q4, q5⟩ := e4 x hx; exact ⟨r, q1, q2, c, q3, Nat.le_trans q4 hN, q5⟩, e5⟩
end Go.Proofs.YtkieljleopbhoaaDoor.Lex
