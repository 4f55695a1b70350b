/-
  How far Read has come in a text.
  Read: the tokens of a text.
  What is asked for, as it is come to: plain mathematics, and what holds while it is gathered.
  What is asked for, gathered: the contract of the closure of Refs.
  What is asked for: the contract of Refs.
  The things of a program, one by one, where a round may turn what lies behind the program's rows: the contract of the function that names.things hands back.
  The names that the Bodies ask for, one by one: the contract of the function that names.asked hands back.
  The names that the Bodies ask for: what names.asked hands back goes through them.
  Whether a program may be: its heads, its room.
-/
import Derived.Test.YtjdlmhkfaodkgaaDoorG2
import Derived.WalkMore
import Derived.Deep.Cut
import Derived.Laws.EntriesVeiled
namespace Go.Proofs.YtjdlmhkfaodkgaaDoor.Lex
open Go.RowKit
theorem bytes_drop (s : ByteArray) (i : Nat) : (s.extract i s.size).data.toList = s.data.toList.drop i := by
  have := Lib.size_eq s
  simp [ByteArray.data_extract]
  exact List.take_of_length_le (by simp [← this])
theorem bytes_part (s : ByteArray) (i n : Nat) : (s.extract i (i + n)) = ⟨((s.data.toList.drop i).take n).toArray⟩ := by
  apply ByteArray.ext
  apply Array.toList_inj.1
  simp [ByteArray.data_extract]
def lenK : Nat → List UInt8 → Nat
  | 0, l => silLen l
  | 1, l => wordLen l
  | 2, l => numLen l
  | _, l => signLen l
theorem step_at {l : List UInt8} {k : Nat} (hk : k < 4) (h : ∀ j, j < k → lenK j l = 0) (hn : lenK k l ≠ 0) : step l = some (k, lenK k l) := by
  have h0 := h 0
  have h1 := h 1
  have h2 := h 2
  simp only [lenK] at h0 h1 h2
  unfold step
  obtain rfl | rfl | rfl | rfl : k = 0 ∨ k = 1 ∨ k = 2 ∨ k = 3 := by omega
  · simp only [lenK] at hn ⊢; simp [hn]
  · simp only [lenK] at hn ⊢; simp [hn, h0]
  · simp only [lenK] at hn ⊢; simp [hn, h0, h1]
  · simp only [lenK] at hn ⊢; simp [hn, h0, h1, h2]
theorem step_zero {l : List UInt8} (h : ∀ j, j < 4 → lenK j l = 0) : step l = none := by
  have h0 := h 0
  have h1 := h 1
  have h2 := h 2
  have h3 := h 3
  simp only [lenK] at h0 h1 h2 h3
  unfold step
  simp [h0, h1, h2, h3]
theorem ahead_nil (r : Except Nat (List Tok)) : ahead [] r = r := by cases r <;> rfl
/-- How far Read has come. -/
structure Come (L : List UInt8) (pos next : Nat) (ts : List Tok) : Prop where
  so : toks 0 L = ahead ts (toks next (L.drop next))
  edge : pos = next ∨ next = L.length ∨ (L.getD next 0).toNat < 128 ∨ (L.getD (next - 1) 0).toNat < 128
  few : ts.length ≤ next
theorem Come.start (L : List UInt8) : Come L 0 0 [] := ⟨by rw [ahead_nil, List.drop_zero], .inl rfl, Nat.le_refl _⟩
/-- A rune within what is gone by ends within it. -/
theorem Come.skip {s : ByteArray} {pos next : Nat} {ts : List Tok} (h : Come s.data.toList pos next ts) (hlt : pos < next) (hle : next ≤ s.size) :
    pos + (Utf8.decode s pos).2 ≤ next ∧ Come s.data.toList (pos + (Utf8.decode s pos).2) next ts := by
  have hp : pos < s.size := by omega
  have hg := getD_get s pos hp
  have key : pos + (Utf8.decode s pos).2 ≤ next := by
    by_cases hc : (s[pos]'hp).toNat < 128
    · rw [decode_ascii s pos hp hc]; show pos + 1 ≤ next; omega
    · have hc' : 128 ≤ (s.data.toList.getD pos 0).toNat := by rw [hg]; omega
      have hr := fun i hi hl => decode_range s pos i hp hc' hi hl
      by_cases hk : pos + (Utf8.decode s pos).2 ≤ next
      · exact hk
      · exfalso
        have h1 := hr next (by omega) (by omega)
        have h2 := hr (next - 1) (by omega) (by omega)
        rcases h.edge with e | e | e | e
        · omega
        · rw [← Lib.size_eq] at e; omega
        · omega
        · omega
  exact ⟨key, h.so, .inr (h.edge.resolve_left (by omega)), h.few⟩
/-- A step. -/
theorem Come.go {s : ByteArray} {pos : Nat} {ts : List Tok} (h : Come s.data.toList pos pos ts) (hp : pos < s.size) {k n : Nat} (hs : step (s.data.toList.drop pos) = some (k, n)) :
    pos + (Utf8.decode s pos).2 ≤ pos + n ∧ pos + n ≤ s.size ∧ 1 ≤ n ∧ Come s.data.toList (pos + (Utf8.decode s pos).2) (pos + n) (ts ++ if k = 0 then [] else [⟨k, (s.data.toList.drop pos).take n, pos⟩]) := by
  have hL : s.data.toList.length = s.size := (Lib.size_eq s).symm
  obtain ⟨h1, h2, h3⟩ := step_le hs
  rw [List.length_drop, hL] at h2
  have hg := getD_get s pos hp
  have hlow : (s[pos]'hp).toNat < 128 := by
    by_cases hc : (s[pos]'hp).toNat < 128
    · exact hc
    · have := step_high (l := s.data.toList.drop pos) (by rw [drop_getD, Nat.add_zero, hg]; omega)
      rw [this] at hs
      cases hs
  have hd : (Utf8.decode s pos).2 = 1 := by rw [decode_ascii s pos hp hlow]
  refine ⟨by omega, by omega, h1, ?_, ?_, ?_⟩
  · rw [h.so, toks_some (fun e => by have := congrArg List.length e; simp [hL] at this; omega) hs, ahead_app, List.drop_drop]
  · have he := step_end hs
    rw [drop_getD, drop_getD, List.length_drop, hL] at he
    right
    rcases he with e | e | e
    · left; omega
    · exact .inr (.inl e)
    · refine .inr (.inr ?_)
      rw [show pos + n - 1 = pos + (n - 1) by omega]
      exact e
  · have := h.few
    rw [List.length_append]
    split
    · simp; omega
    · simp; omega
theorem Come.stop {s : ByteArray} {pos : Nat} {ts : List Tok} (h : Come s.data.toList pos pos ts) (hp : pos < s.size) (hs : step (s.data.toList.drop pos) = none) : toks 0 s.data.toList = .error pos := by
  have hL : s.data.toList.length = s.size := (Lib.size_eq s).symm
  rw [h.so, toks_none (fun e => by have := congrArg List.length e; simp [hL] at this; omega) hs]
  rfl
theorem Come.done {s : ByteArray} {pos : Nat} {ts : List Tok} (h : Come s.data.toList pos s.size ts) : toks 0 s.data.toList = .ok ts := by
  have hL : s.data.toList.length = s.size := (Lib.size_eq s).symm
  rw [h.so, List.drop_eq_nil_of_le (by omega), toks_nil]
  simp [ahead]
end Go.Proofs.YtjdlmhkfaodkgaaDoor.Lex
namespace Go.Proofs.YtjdlmhkfaodkgaaDoor.Lex
open Go.RowKit
theorem ownsRow_mono {w : World} {B B' e size n : Nat} {v : Value} {xs : List Value} (h : w.ownsRow B e size v n xs) (hle : B' ≤ B) : w.ownsRow B' e size v n xs := by
  refine ⟨h.1, ?_⟩
  rcases h.2 with hn | ⟨g, cap, cur, e1, hg0, rest⟩
  · exact .inl hn
  · exact .inr ⟨g, cap, cur, e1, by omega, rest⟩
end Go.Proofs.YtjdlmhkfaodkgaaDoor.Lex
namespace Go.Proofs.YtjdlmhkfaodkgaaDoor.Lex
open Go.ChangeShapes Go.WideShapes Go.ChangeAt Go.RowKit Go.Joins Go.WideMaps Go.WideElems Go.Maps
def refsV (acc : List Rf) : List Value := acc.flatMap fun r => [.string r.1, .int .i64 (r.2 : Int)]
def nextAgo (x : Ex) (ago : Nat) : Nat := if x.op = 19 then ago + 1 else ago
def ownRefs (x : Ex) (ago : Nat) (acc : List Rf) : List Rf := if x.op = 3 then addR acc (x.name, ago) else acc
/-- What it asks for, looked at so deep. -/
def gat : Nat → Ex → Nat → List Rf → List Rf
  | 0, _, _, acc => acc
  | k + 1, x, ago, acc => x.args.foldl (fun acc y => gat k y (nextAgo x ago) acc) (ownRefs x ago acc)
/-- How many parts it has, itself with them, looked at so deep. -/
def cnt : Nat → Ex → Nat
  | 0, _ => 1
  | k + 1, x => x.args.foldl (fun n y => n + cnt k y) 1
/-- It is no deeper, and its names may be gathered. -/
def NmOk : Nat → Ex → Prop
  | 0, _ => False
  | k + 1, x => x.name.size ≤ 65536 ∧ ∀ y ∈ x.args, NmOk k y
abbrev ptr (b : Nat) : Value := .pointer (some ⟨b, 0, none⟩)
/-- What holds while it is gathered: the map, the list, the closure, in their variables. -/
structure GI (w0 : World) (bs bl bg mb b0 : Nat) (acc accM : List Rf) (N : Nat) (W : World) : Prop where
  below : Below w0.heap.size w0 W
  seen : W.heap[bs]? = some (.cells #[.map (some mb)] 100 (0, 0))
  self : W.heap[bg]? = some (.cells #[.func (.func 49) #[] #[ptr bs, ptr bl, ptr bg]] 101 (0, 0))
  list : ∃ v, W.heap[bl]? = some (.cells #[v] 75 (0, 0)) ∧ W.ownsRow b0 78 2 v acc.length (refsV acc)
  map : SeenM accM N mb W
  few : acc.length ≤ N
  ord : w0.heap.size ≤ bs ∧ w0.heap.size ≤ bl ∧ w0.heap.size ≤ bg ∧ w0.heap.size ≤ mb ∧ bs < b0 ∧ bl < b0 ∧ bg < b0 ∧ mb < b0 ∧ b0 ≤ W.heap.size
  ne : bs ≠ bl ∧ bs ≠ bg ∧ bs ≠ mb ∧ bl ≠ bg ∧ bl ≠ mb ∧ bg ≠ mb
theorem GI.step {w0 W W' : World} {bs bl bg mb b0 N : Nat} {acc accM : List Rf} (h : GI w0 bs bl bg mb b0 acc accM N W) (hb : Below W.heap.size W W') : GI w0 bs bl bg mb b0 acc accM N W' := by
  have k : ∀ {b o}, W.heap[b]? = some o → W'.heap[b]? = some o := fun {b o} e => (hb.block b (Array.getElem?_eq_some_iff.1 e).1).trans e
  obtain ⟨v, l1, l2⟩ := h.list
  obtain ⟨o1, o2, o3, o4, o5, o6, o7, o8, o9⟩ := h.ord
  exact ⟨h.below.trans (hb.mono h.below.size), k h.seen, k h.self, ⟨v, k l1, ownsRow_below l2 hb⟩, h.map.kept fun hl => hb.block mb hl, h.few, ⟨o1, o2, o3, o4, o5, o6, o7, o8, Nat.le_trans o9 hb.size⟩, h.ne⟩
theorem own_kept {w w' : World} {base e size n : Nat} {v : Value} {xs : List Value} {b : Nat} (h : w.ownsRow base e size v n xs) (g : w.grownBy w' (some b)) (hb : b < base) : w'.ownsRow base e size v n xs := by
  refine ⟨h.1, ?_⟩
  rcases h.2 with hn | ⟨g', cap, cur, rfl, hg0, hg, rest⟩
  · exact .inl hn
  · exact .inr ⟨g', cap, cur, rfl, hg0, (g.block g' (Array.getElem?_eq_some_iff.1 hg).1 (fun e => by injection e; omega)).trans hg, rest⟩
/-- The map has turned. -/
theorem GI.count {w0 W W' : World} {bs bl bg mb b0 N N' : Nat} {acc accM accM' : List Rf} (h : GI w0 bs bl bg mb b0 acc accM N W) (g : W.grownBy W' (some mb)) (hm : SeenM accM' N' mb W') (hN : N ≤ N') : GI w0 bs bl bg mb b0 acc accM' N' W' := by
  obtain ⟨n1, n2, n3, n4, n5, n6⟩ := h.ne
  have k : ∀ {b o}, W.heap[b]? = some o → b ≠ mb → W'.heap[b]? = some o := fun {b o} e hne => (g.block b (Array.getElem?_eq_some_iff.1 e).1 (fun e => by injection e; omega)).trans e
  obtain ⟨v, l1, l2⟩ := h.list
  obtain ⟨o1, o2, o3, o4, o5, o6, o7, o8, o9⟩ := h.ord
  refine ⟨h.below.grown g h.below.size (fun k e => by injection e; omega), k h.seen n3, k h.self n6, ⟨v, k l1 n5, own_kept l2 g o8⟩, hm, Nat.le_trans h.few hN, ⟨o1, o2, o3, o4, o5, o6, o7, o8, Nat.le_trans o9 g.size⟩, h.ne⟩
theorem refsV_app (a b : List Rf) : refsV (a ++ b) = refsV a ++ refsV b := by simp [refsV]
/-- The list has grown by one, and is laid in its variable. -/
theorem GI.push {w0 W W' : World} {bs bl bg mb b0 N : Nat} {acc accM : List Rf} {v v' : Value} {r : Rf} (h : GI w0 bs bl bg mb b0 acc accM N W) (hv : W.heap[bl]? = some (.cells #[v] 75 (0, 0))) (hr : W.ownsRow b0 78 2 v acc.length (refsV acc)) (g : W.grownBy W' v.ownBlock) (hr' : W'.ownsRow b0 78 2 v' (acc.length + 1) (refsV acc ++ [.string r.1, .int .i64 (r.2 : Int)])) (hN : acc.length + 1 ≤ N) : W'.heap[bl]? = some (.cells #[v] 75 (0, 0)) ∧ GI w0 bs bl bg mb b0 (acc ++ [r]) accM N (W'.setCell ⟨bl, 0, none⟩ v') := by
  obtain ⟨n1, n2, n3, n4, n5, n6⟩ := h.ne
  obtain ⟨o1, o2, o3, o4, o5, o6, o7, o8, o9⟩ := h.ord
  have hlt := hr.lt
  have hne : ∀ k, k < b0 → some k ≠ v.ownBlock := fun k hk e => by have := (hlt k e.symm).1; omega
  have k : ∀ {b o}, W.heap[b]? = some o → b < b0 → W'.heap[b]? = some o := fun {b o} e hb => (g.block b (Array.getElem?_eq_some_iff.1 e).1 (hne b hb)).trans e
  have far : ∀ b, b ≠ bl → (W'.setCell ⟨bl, 0, none⟩ v').heap[b]? = W'.heap[b]? := fun b hb => Below.heap_setCell _ _ _ _ hb
  have hbl := k hv o6
  refine ⟨hbl, ⟨?_, ?_, ?_, ⟨v', ?_, ?_⟩, ?_, ?_, ⟨o1, o2, o3, o4, o5, o6, o7, o8, ?_⟩, h.ne⟩⟩
  · have b1 := h.below.grown g h.below.size (fun k e => by have := (hlt k e).1; omega)
    exact ⟨b1.os, b1.tape, b1.output, by have := b1.size; simpa [World.setCell] using this, fun k hk => (far k (by omega)).trans (b1.block k hk)⟩
  · rw [far _ n1]; exact k h.seen o5
  · rw [far _ (fun e => n4 e.symm)]; exact k h.self o7
  · rw [set_same' hbl 0 v']; rfl
  · rw [List.length_append, refsV_app]
    rw [show refsV [r] = [.string r.1, .int .i64 (r.2 : Int)] by simp [refsV]]
    refine ⟨hr'.1, ?_⟩
    rcases hr'.2 with hn | ⟨g', cap, cur, e1, hg0, hg, rest⟩
    · exact .inl hn
    · exact .inr ⟨g', cap, cur, e1, hg0, (far g' (by omega)).trans hg, rest⟩
  · exact h.map.kept fun hl => (far mb (fun e => n5 e.symm)).trans (g.block mb hl (hne mb o8))
  · rw [List.length_append]; exact hN
  · have := g.size; simp [World.setCell]; omega
theorem i51 : (Tryd.prog.info? 78).map (fun i => (i.zero, i.size, i.bytes)) = some (some (.agg #[.string ByteArray.empty, .int .i64 0]), 2, 24) := by kernel_rfl
theorem info51 : (Tryd.prog.info? 78).map (·.size) = some 2 := by kernel_rfl
theorem GI.mono {w0 W : World} {bs bl bg mb b0 N N' : Nat} {acc accM : List Rf} (h : GI w0 bs bl bg mb b0 acc accM N W) (hN : N ≤ N') : GI w0 bs bl bg mb b0 acc accM N' W := by
  refine ⟨h.below, h.seen, h.self, h.list, ?_, Nat.le_trans h.few hN, h.ord, h.ne⟩
  obtain ⟨es, clock, e1, e2, e3, e4, e5⟩ := h.map
  exact ⟨es, clock, e1, e2, Nat.le_trans e3 hN, fun x hx => by obtain ⟨r, q1, q2, c, q3, q4, q5⟩ := e4 x hx; exact ⟨r, q1, q2, c, q3, Nat.le_trans q4 hN, q5⟩, e5⟩
end Go.Proofs.YtjdlmhkfaodkgaaDoor.Lex
namespace Go.Proofs.YtjdlmhkfaodkgaaDoor.Lex
open Go.ChangeShapes Go.WideShapes Go.ChangeAt Go.RowKit Go.Joins Go.WideMaps Go.WideElems Go.Maps
theorem kept0 {W W' : World} {r k : Nat} {o : Obj} (h : W.heap[k]? = some o) (g : W.grownBy W' (some r)) (hk : k ≠ r) : W'.heap[k]? = some o :=
  (g.block k (Array.getElem?_eq_some_iff.1 h).1 (fun e => by injection e with e; exact hk e)).trans h
def GatC (k : Nat) : Prop := ∀ (x : Ex) (s : Value) (ago : Nat) (w0 W : World) (bs bl bg mb b0 N : Nat) (acc : List Rf), St w0 x s → NmOk k x → ago + k ≤ 1099511627776 → N + cnt k x ≤ 1099511627776 → GI w0 bs bl bg mb b0 acc acc N W →
  Calls Tryd.prog 49 #[exV x s, .int .i64 (ago : Int), ptr bs, ptr bl, ptr bg] W fun e w' => e = .returned (.tuple #[]) ∧ GI w0 bs bl bg mb b0 (gat k x ago acc) (gat k x ago acc) (N + cnt k x) w'
def accAt (k : Nat) (x : Ex) (ago : Nat) (acc : List Rf) (i : Nat) : List Rf := (x.args.take i).foldl (fun acc y => gat k y (nextAgo x ago) acc) (ownRefs x ago acc)
def cntAt (k : Nat) (x : Ex) (i : Nat) : Nat := (x.args.take i).foldl (fun n y => n + cnt k y) 1
theorem accAt_succ {k : Nat} {x : Ex} {ago : Nat} {acc : List Rf} {j : Nat} (h : j < x.args.length) : accAt k x ago acc (j + 1) = gat k x.args[j] (nextAgo x ago) (accAt k x ago acc j) := by
  unfold accAt
  rw [List.take_add_one, List.getElem?_eq_getElem h, Option.toList_some, List.foldl_append]
  rfl
theorem cntAt_succ {k : Nat} {x : Ex} {j : Nat} (h : j < x.args.length) : cntAt k x (j + 1) = cntAt k x j + cnt k x.args[j] := by
  unfold cntAt
  rw [List.take_add_one, List.getElem?_eq_getElem h, Option.toList_some, List.foldl_append]
  rfl
theorem cntAt_le (k : Nat) (x : Ex) : ∀ (n j : Nat), j + n = x.args.length → cntAt k x j ≤ cntAt k x x.args.length
  | 0, j, h => by rw [← h, Nat.add_zero]; exact Nat.le_refl _
  | n + 1, j, h => by
    have h1 := cntAt_le k x n (j + 1) (by omega)
    rw [cntAt_succ (by omega)] at h1
    omega
theorem foldl_ge (f : Ex → Nat) : ∀ (l : List Ex) (n : Nat), n ≤ l.foldl (fun n y => n + f y) n
  | [], _ => Nat.le_refl _
  | a :: l, n => Nat.le_trans (Nat.le_add_right n (f a)) (foldl_ge f l (n + f a))
theorem cnt_pos (k : Nat) (x : Ex) : 1 ≤ cnt k x := by
  cases k with
  | zero => exact Nat.le_refl _
  | succ k => exact foldl_ge (cnt k) x.args 1

theorem nextAgo_le (x : Ex) (ago : Nat) : nextAgo x ago ≤ ago + 1 := by unfold nextAgo; split <;> omega
theorem own_slice {w : World} {base e size n : Nat} {v : Value} {xs : List Value} (h : w.ownsRow base e size v (n + 1) xs) : ∃ g c, v = .slice (some ⟨g, 0, none⟩) (n + 1) c := by
  rcases h.2 with ⟨_, h0⟩ | ⟨g, cap, cur, rfl, _⟩
  · omega
  · exact ⟨g, cap, rfl⟩
theorem inf51 : ∃ ie, Tryd.prog.info? 78 = some ie ∧ ie.zero = some (.agg #[.string ByteArray.empty, .int .i64 0]) ∧ ie.size = 2 := by
  have h : (Tryd.prog.info? 78).map (fun i => (i.zero, i.size)) = some (some (.agg #[.string ByteArray.empty, .int .i64 0]), 2) := by kernel_rfl
  obtain ⟨ie, h1, h2⟩ := Option.map_eq_some_iff.1 h
  injection h2 with h2 h3
  exact ⟨ie, h1, h2, h3⟩
theorem fill51 (r : Rf) : Instr.fill (fun i => some (i * 2, 2)) ((Array.range (1 * 2)).map ((Value.agg #[.string ByteArray.empty, .int .i64 0]).cells[· % (Value.agg #[.string ByteArray.empty, .int .i64 0]).cells.size]!)) [(0, rKey r)] = some (rV r) := by
  have e : ((Array.range (1 * 2)).map ((Value.agg #[.string ByteArray.empty, .int .i64 0]).cells[· % (Value.agg #[.string ByteArray.empty, .int .i64 0]).cells.size]!)) = #[.string ByteArray.empty, .int .i64 0] := by kernel_rfl
  rw [e]
  simp [Instr.fill]
  exact ⟨⟨rfl, Nat.le_refl 2⟩, rfl⟩
theorem two_new (w : World) (x y : Value) : ∀ j u, [x, y][j]? = some u → (w.alloc (.cells #[x, y] 78)).cell? ((⟨w.heap.size, 0, none⟩ : Addr).add j) = some u := by
  intro j u hj
  have hadd : (⟨w.heap.size, 0, none⟩ : Addr).add j = ⟨w.heap.size, j, none⟩ := by unfold Addr.add; split <;> simp_all
  rw [hadd, World.cell?_alloc_at _ _ _ _ rfl]
  rcases j with _ | _ | j
  · simpa using hj
  · simpa using hj
  · simp at hj
set_option maxRecDepth 100000 in
set_option maxHeartbeats 2000000 in
theorem gather_of (k : Nat) (ih : GatC k) : GatC (k + 1) := by
  intro x s ago w0 W bs bl bg mb b0 N acc hS hNm hago hN hG
  obtain ⟨ao, cap, sl, rfl, hop, hn, hnm, hlen, hcap, hc, hs⟩ := hS.out
  have b5 := (Below.refl W.heap.size W).alloc (Nat.le_refl _) (.cells (ex4 x (.slice ao x.args.length cap)) 49)
  have X5 := heap_alloc_new W (.cells (ex4 x (.slice ao x.args.length cap)) 49)
  have G5 := hid (hG.step b5)
  have hG0 := hG
  obtain ⟨y0, y1, y2, y3⟩ : (W.alloc (.cells (ex4 x (.slice ao x.args.length cap)) 49)).cell? ⟨W.heap.size, 0, none⟩ = some (.int .u8 (x.op : Int)) ∧ (W.alloc (.cells (ex4 x (.slice ao x.args.length cap)) 49)).cell? ⟨W.heap.size, 1, none⟩ = some (.int .i64 x.n) ∧ (W.alloc (.cells (ex4 x (.slice ao x.args.length cap)) 49)).cell? ⟨W.heap.size, 2, none⟩ = some (.string x.name) ∧ (W.alloc (.cells (ex4 x (.slice ao x.args.length cap)) 49)).cell? ⟨W.heap.size, 3, none⟩ = some (.slice ao x.args.length cap) := by
    refine ⟨?_, ?_, ?_, ?_⟩ <;> (rw [cell_of_row _ _ _ _ 49 (0, 0) X5]; rfl)
  go_enter Tryd.func49, Tryd.ntmps49
  refine wp_seq_k fun K0 hK0 => ?_
  have HK0 := hid hK0
  clear hK0
  go_wp2
  refine HK0.out _ _ ?_
  clear HK0 K0
  refine wp_seq_k fun K1 hK1 => ?_
  go_cut [1] from 6 (fun ag Wc => ag = .int .i64 (nextAgo x ago : Int) ∧ Hid (GI w0 bs bl bg mb b0 (ownRefs x ago acc) (ownRefs x ago acc) (N + 1) Wc) ∧ Hid (Wc.heap[W.heap.size]? = some (.cells (ex4 x (.slice ao x.args.length cap)) 49 (0, 0))))
  case rest =>
    obtain ⟨rfl, hGc, hXc⟩ := hcut
    have HC := hid hc
    have HS := hid hs
    have HNM := hid hNm
    have z3 : wc.cell? ⟨W.heap.size, 3, none⟩ = some (.slice ao x.args.length cap) := by rw [cell_of_row _ _ _ _ 49 (0, 0) hXc.out]; rfl
    have hg0 : accAt k x ago acc 0 = ownRefs x ago acc := by simp [accAt]
    have hc0 : cntAt k x 0 = 1 := by simp [cntAt]
    have G0 : Hid (GI w0 bs bl bg mb b0 (accAt k x ago acc 0) (accAt k x ago acc 0) (N + cntAt k x 0) wc) := by rw [hg0, hc0]; exact hGc
    have END : Hid (accAt k x ago acc x.args.length = gat (k + 1) x ago acc ∧ cntAt k x x.args.length = cnt (k + 1) x) := hid (by unfold accAt cntAt; rw [List.take_length]; exact ⟨rfl, rfl⟩)
    have HA := hid hago
    have HN := hid hN
    clear hG hG0 b5 X5 G5 y0 y1 y2 y3 hc hs hNm hGc hXc hg0 hc0 hS hago hN hop hn hnm hcap
    refine hK1 _ _ ?_
    clear hK1 K1
    go_wp2
    go_loopw [40] (fun i wr => ∃ j : Nat, j ≤ x.args.length ∧ i = .int .i64 (j : Int) ∧ Hid (GI w0 bs bl bg mb b0 (accAt k x ago acc j) (accAt k x ago acc j) (N + cntAt k x j) wr)) (fun i _ => x.args.length - (intOf i).toNat)
    case atStart => exact ⟨0, Nat.zero_le _, rfl, G0⟩
    case round =>
      obtain ⟨j, hj, rfl, hGj⟩ := hrel
      by_cases hlt : j < x.args.length
      · have hlt' : (j : Int) < (x.args.length : Int) := by omega
        have hj0 : (0 : Int) ≤ (j : Int) := by omega
        obtain ⟨bb, o, rfl, hcc⟩ := HC.out.resolve_left (by omega)
        obtain ⟨a0, a1, a2, a3⟩ := hcc j hlt
        have v0 := cell_kept a0 hGj.out.below
        have v1 := cell_kept a1 hGj.out.below
        have v2 := cell_kept a2 hGj.out.below
        have v3 := cell_kept a3 hGj.out.below
        have hst := HS.out j hlt
        have hnm := HNM.out.2 _ (List.getElem_mem hlt)
        have E1 := hid (accAt_succ (k := k) (ago := ago) (acc := acc) hlt)
        have E2 := hid (cntAt_succ (k := k) hlt)
        have hle := cntAt_le k x (x.args.length - (j + 1)) (j + 1) (by omega)
        rw [END.out.2, E2.out] at hle
        have hna := nextAgo_le x ago
        have HAo := HA.out
        have HNo := HN.out
        generalize x.args[j] = y at *
        clear a0 a1 a2 a3 hcc
        generalize sl j = sv at *
        obtain ⟨a3, c3, _, rfl, _⟩ := hst.out
        have b1 := (Below.refl wr.heap.size wr).alloc (Nat.le_refl _) (.cells (ex4 y (.slice a3 y.args.length c3)) 49)
        have G1 := hGj.out.step b1
        have q4 : (wr.alloc (.cells (ex4 y (.slice a3 y.args.length c3)) 49)).cell? ⟨bg, 0, none⟩ = some (.func (.func 49) #[] #[ptr bs, ptr bl, ptr bg]) := by rw [cell_of_row _ _ _ _ 101 (0, 0) G1.self]; rfl
        have c := ih y _ (nextAgo x ago) w0 _ bs bl bg mb b0 _ _ hst hnm (by omega) (by omega) G1
        clear hst hnm hle hna HAo HNo G1 b1 ih
        generalize nextAgo x ago = ag at *
        go_wp2_with (go_at_call 49; refine c.mono ?_; rintro e w4 ⟨rfl, g4⟩; have G4 := hid g4; clear g4 c)
        go_roundw
        case rel => exact ⟨j + 1, by omega, by go_num, by rw [E1.out, E2.out, ← Nat.add_assoc]; exact G4⟩
        case measure => simp [intOf]; omega
      · have hlt' : ¬ (j : Int) < (x.args.length : Int) := by omega
        obtain rfl : j = x.args.length := by omega
        go_wp2
        refine bodyPost_end (by simp [results]) rfl ⟨rfl, ?_⟩
        have h := hGj.out
        rw [END.out.1, END.out.2] at h
        exact h
  case first =>
    have HW := hid (Array.getElem?_eq_some_iff.1 X5).1
    have X5h := hid X5
    by_cases h3 : x.op = 3
    · have NA : Hid (nextAgo x ago = ago) := hid (by unfold nextAgo; rw [if_neg (by omega)])
      have hop3 : ((x.op : Int) == 3) = true := by simp [h3]
      have hcl := fun V => clone x.name V hNm.1
      have hrok : RfOk (x.name, ago) := ⟨hNm.1, by show ago ≤ _; omega⟩
      have OWN0 : Hid (ownRefs x ago acc = addR acc (x.name, ago)) := hid (by unfold ownRefs; rw [if_pos h3])
      obtain ⟨i0, hi, hi0, hi1, hi2⟩ := info_parts i51
      have HNs := hid hN
      have H3 := hid h3
      clear ih hc hs hS hG b5 X5 hop hn hnm hlen hcap hago hN hNm h3 hK1
      go_wp2_with (go_at_call 47; refine (hcl _).mono ?_; rintro e w2 ⟨rfl, b2⟩; have B2 := hid b2; clear b2 hcl)
      have b3 := (Below.refl w2.heap.size w2).alloc (Nat.le_refl _) (.cells #[.string x.name, .int .i64 (ago : Int)] 78)
      have b23 := bstep B2.out b3
      have G3 := (G5.out.step b23).step (show Below _ (w2.alloc (.cells #[.string x.name, .int .i64 (ago : Int)] 78)) (w2.alloc (.cells #[.string x.name, .int .i64 (ago : Int)] 78)).drew from below_drewN (Below.refl _ _) 1)
      have X3 := heap_alloc_new w2 (.cells #[.string x.name, .int .i64 (ago : Int)] 78)
      have XB0 : (w2.alloc (.cells #[.string x.name, .int .i64 (ago : Int)] 78)).drew.heap[W.heap.size]? = some (.cells (ex4 x (.slice ao x.args.length cap)) 49 (0, 0)) := (b23.block _ HW.out).trans X5h.out
      have hlt2 : w2.heap.size < (w2.alloc (.cells #[.string x.name, .int .i64 (ago : Int)] 78)).drew.heap.size := (Array.getElem?_eq_some_iff.1 X3).1
      have hw2 : (W.alloc (.cells (ex4 x (.slice ao x.args.length cap)) 49)).heap.size ≤ w2.heap.size := B2.out.size
      obtain ⟨o1, o2, o3, o4, o5, o6, o7, o8, o9⟩ := G5.out.ord
      have hmb2 : w2.heap.size ≠ mb := by omega
      have hmbW : W.heap.size ≠ mb := by have := hG0.ord.2.2.2.2.2.2.2; omega
      obtain ⟨c, W1, W2, born, hcN, hc0, l0, m1, l1, s1, l2, M2, g1, g2⟩ := G3.map.bump (by have := HNs.out; have := cnt_pos (k + 1) x; omega) hrok
      simp only [rKey, rV] at l0 m1 l1 s1 l2
      have k1 : ∀ {b o}, (w2.alloc (.cells #[.string x.name, .int .i64 (ago : Int)] 78)).drew.heap[b]? = some o → b ≠ mb → W1.heap[b]? = some o := fun {b o} e hne => kept0 e g1 hne
      have k2 : ∀ {b o}, W1.heap[b]? = some o → b ≠ mb → W2.heap[b]? = some o := fun {b o} e hne => kept0 e g2 hne
      have n3 := hG0.ne.2.2.1
      have sS : ∀ {V : World}, V.heap[bs]? = some (.cells #[.map (some mb)] 100 (0, 0)) → V.heap[w2.heap.size]? = some (.cells #[.string x.name, .int .i64 (ago : Int)] 78 (0, 0)) → V.cell? ⟨bs, 0, none⟩ = some (.map (some mb)) ∧ V.cell? ⟨w2.heap.size, 0, none⟩ = some (.string x.name) ∧ V.cell? ⟨w2.heap.size, 1, none⟩ = some (.int .i64 (ago : Int)) := fun {V} e1 e2 => ⟨(cell_of_row _ _ _ _ 100 (0, 0) e1).trans rfl, (cell_of_row _ _ _ _ 78 (0, 0) e2).trans rfl, (cell_of_row _ _ _ _ 78 (0, 0) e2).trans rfl⟩
      have S0 := sS (V := (w2.alloc (.cells #[.string x.name, .int .i64 (ago : Int)] 78)).drew) G3.seen X3
      have S1 := sS (k1 G3.seen n3) (k1 (b := w2.heap.size) X3 hmb2)
      have S2 := sS (k2 (k1 G3.seen n3) n3) (k2 (k1 (b := w2.heap.size) X3 hmb2) hmb2)
      have XB := hid (k2 (k1 XB0 hmbW) hmbW)
      have GP := hid (G3.count (grown_on g1 g2) M2 (Nat.le_succ N))
      obtain ⟨lv0, hv0, hr0⟩ := hG0.list
      obtain ⟨lv, hv, hr⟩ := GP.out.list
      have hv1 : W2.heap[bl]? = some (.cells #[lv0] 75 (0, 0)) := k2 (k1 ((b23.block bl (Nat.lt_of_lt_of_le (Array.getElem?_eq_some_iff.1 hv0).1 (by simp))).trans ((Below.heap_alloc _ _ _ (Array.getElem?_eq_some_iff.1 hv0).1).trans hv0)) hG0.ne.2.2.2.2.1) hG0.ne.2.2.2.2.1
      rw [hv1] at hv
      injection hv with hv
      injection hv with hv _ _
      simp only [Array.mk.injEq, List.cons.injEq, and_true] at hv
      subst hv
      have hv := hv1
      have NEB : Hid (some W.heap.size ≠ lv0.ownBlock) := hid (fun e => by have := (hr0.lt _ e.symm).2; omega)
      have NB : Hid (W.heap.size ≠ bl) := hid (by have := (Array.getElem?_eq_some_iff.1 hv0).1; omega)
      have HV := hid hv
      have HR := hid hr
      have lbl : W2.cell? ⟨bl, 0, none⟩ = some lv0 := (cell_of_row _ _ _ _ 75 (0, 0) hv).trans rfl
      have FEW : Hid (acc.length ≤ N) := hid hG0.few
      have CN := hid hcN
      have S2c := S2
      obtain ⟨s20, s21, s22⟩ := S2c
      have hcB : (c : Int) ≤ 1099511627776 := by have := HNs.out; omega
      clear G3 X3 b3 b23 XB0 M2 g1 g2 k1 k2 hv hv0 hv1 hr0 hr sS hrok hcN
      cases hin : rIn acc (x.name, ago) with
      | false =>
        obtain rfl : c = 0 := hc0.2 hin
        have OWN : Hid (ownRefs x ago acc = acc ++ [(x.name, ago)]) := hid (by rw [OWN0.out]; unfold addR; rw [hin]; rfl)
        simp only [show ((0 : Nat) : Int) = 0 from rfl, Int.zero_add] at l0 m1 l1 s1 l2
        have hw1 : IntKind.i64.wrap 1 = 1 := by decide
        have b7 := (Below.refl W2.heap.size W2).alloc (Nat.le_refl _) (.cells #[.string x.name, .int .i64 (ago : Int)] 78)
        have eadd : addR acc (x.name, ago) = acc ++ [(x.name, ago)] := by unfold addR; rw [hin]; rfl
        have GP7h := GP.out.step b7
        rw [eadd] at GP7h
        have GP7 := hid GP7h
        clear GP7h eadd
        have HV7 := hid ((b7.block _ (Array.getElem?_eq_some_iff.1 HV.out).1).trans HV.out)
        have HR7 := hid (ownsRow_below HR.out b7)
        have XB7 := hid ((b7.block _ (Array.getElem?_eq_some_iff.1 XB.out).1).trans XB.out)
        have LTB := hid (Array.getElem?_eq_some_iff.1 XB7.out).1
        have FEW2 : Hid (acc.length + 1 ≤ N + 1) := hid (Nat.succ_le_succ FEW.out)
        have ORD := hid (GP7.out.ord.2.2.2.2.2.2.2.2)
        have FEW : Hid (acc.length + 1 ≤ 1099511627776) := hid (by have := FEW.out; have := HNs.out; have := cnt_pos (k + 1) x; omega)
        clear b7
        refine wp_region_held_drew (S := fun V => V.cell? ⟨bs, 0, none⟩ = some (.map (some mb)) ∧ V.cell? ⟨w2.heap.size, 0, none⟩ = some (.string x.name) ∧ V.cell? ⟨w2.heap.size, 1, none⟩ = some (.int .i64 (ago : Int))) (by kernel_rfl) ?_ (fun hHeld => ?_)
        · exact S0
        refine wpAnyH_take (i := 0) (oi := { dst := some 19, op := Go.Op.load 100 (Go.Operand.tmp 2), type := 100, pos := _, after := #[], guard := none }) (v := ?_) rfl (by kernel_rfl) (by kernel_rfl) (by kernel_rfl) (fun _ _ _ h => h) (Or.inl ⟨by rfl, ?_⟩) (by assumption) ?_
        rotate_left
        · intro w hSw; (try dsimp only at hSw); go_simp <;> with_reducible rfl
        simp only [Act.put, List.setIfInBounds_toArray, List.set_cons_zero, List.set_cons_succ]
        refine wpAnyH_take (i := 1) (oi := { dst := some 20, op := Go.Op.load 78 (Go.Operand.tmp 7), type := 78, pos := _, after := #[], guard := none }) (v := ?_) rfl (by kernel_rfl) (by kernel_rfl) (by kernel_rfl) (fun _ _ _ h => h) (Or.inl ⟨by rfl, ?_⟩) (by assumption) ?_
        rotate_left
        · intro w hSw; (try dsimp only at hSw); go_simp <;> with_reducible rfl
        simp only [Act.put, List.setIfInBounds_toArray, List.set_cons_zero, List.set_cons_succ]
        refine wpAnyH_ready (rs := [2, 4]) (by kernel_rfl) (by simp) ?_
        refine AllReadyH.cons (o := { dst := some 21, op := Go.Op.lookup 100 (Go.Operand.tmp 19) (Go.Operand.tmp 20) false, type := 3, pos := _, after := #[{ on := 0, ground := Go.Ground.data }, { on := 1, ground := Go.Ground.data }], guard := none }) rfl (fun K hK => ?_) (AllReadyH.cons (o := { dst := some 23, op := Go.Op.mapEntry 100 (Go.Operand.tmp 19) (Go.Operand.tmp 20), type := 0, pos := _, after := #[{ on := 0, ground := Go.Ground.data }, { on := 1, ground := Go.Ground.data }, { on := 0, ground := Go.Ground.phase }, { on := 1, ground := Go.Ground.phase }, { on := 2, ground := Go.Ground.textOnly Go.Departure.mapOpAssignEntry }, { on := 3, ground := Go.Ground.textOnly Go.Departure.mapOpAssignEntry }], guard := none }) rfl (fun K hK => ?_) AllReadyH.nil)
        · go_simp
          refine hK.out _ _ S0 (fun _ => ?_)
          clear hK K
          refine wpAnyH_take (i := 3) (oi := { dst := some 22, op := Go.Op.binOp Go.BinOp.add 3 (Go.Operand.tmp 21) (Go.Operand.const (Go.Value.int Go.IntKind.i64 1)) 3, type := 3, pos := _, after := #[{ on := 2, ground := Go.Ground.data }], guard := none }) (v := ?_) rfl (by kernel_rfl) (by kernel_rfl) (by kernel_rfl) (fun _ _ _ h => h) (Or.inl ⟨by rfl, ?_⟩) (by assumption) ?_
          rotate_left
          · intro w hSw; (try dsimp only at hSw); go_simp <;> with_reducible rfl
          simp only [Act.put, List.setIfInBounds_toArray, List.set_cons_zero, List.set_cons_succ]
          refine wpAnyH_ready (rs := [4]) (by kernel_rfl) (by simp) ?_
          refine AllReadyH.cons (o := { dst := some 23, op := Go.Op.mapEntry 100 (Go.Operand.tmp 19) (Go.Operand.tmp 20), type := 0, pos := _, after := #[{ on := 0, ground := Go.Ground.data }, { on := 1, ground := Go.Ground.data }, { on := 0, ground := Go.Ground.phase }, { on := 1, ground := Go.Ground.phase }, { on := 2, ground := Go.Ground.textOnly Go.Departure.mapOpAssignEntry }, { on := 3, ground := Go.Ground.textOnly Go.Departure.mapOpAssignEntry }], guard := none }) rfl (fun K hK => ?_) AllReadyH.nil
          go_simp
          refine hK.out _ _ S1 (fun _ => ?_)
          clear hK K
          refine wpAnyH_take (i := 5) (oi := { dst := some 24, op := Go.Op.extract (Go.Operand.tmp 23) 1, type := 3, pos := _, after := #[{ on := 4, ground := Go.Ground.data }], guard := none }) (v := ?_) rfl (by kernel_rfl) (by kernel_rfl) (by kernel_rfl) (fun _ _ _ h => h) (Or.inl ⟨by rfl, ?_⟩) (by assumption) ?_
          rotate_left
          · intro w hSw; (try dsimp only at hSw); go_simp <;> with_reducible rfl
          simp only [Act.put, List.setIfInBounds_toArray, List.set_cons_zero, List.set_cons_succ]
          refine wpAnyH_ready (rs := [6]) (by kernel_rfl) (by simp) ?_
          refine AllReadyH.cons (o := { dst := none, op := Go.Op.entryStore 100 (Go.Operand.tmp 19) (Go.Operand.tmp 24) (Go.Operand.tmp 22), type := 0, pos := _, after := #[{ on := 0, ground := Go.Ground.data }, { on := 5, ground := Go.Ground.data }, { on := 3, ground := Go.Ground.data }, { on := 4, ground := Go.Ground.chain }, { on := 0, ground := Go.Ground.phase }, { on := 1, ground := Go.Ground.phase }, { on := 2, ground := Go.Ground.phase }, { on := 3, ground := Go.Ground.phase }, { on := 4, ground := Go.Ground.phase }, { on := 5, ground := Go.Ground.phase }], guard := none }) rfl (fun K hK => ?_) AllReadyH.nil
          go_simp
          refine hK.out _ _ S2 (fun _ => ?_)
          clear hK K
          refine wpAnyH_done (by kernel_rfl) ?_ _
          go_wp2_with (first
            | (obtain ⟨ie, hie, hz, hsz⟩ := inf51; refine wpList_buildSlice rfl 75 78 1 _ rfl (rV (x.name, ago)) ie (.agg #[.string ByteArray.empty, .int .i64 0]) Tryd.underlying75 hie hz (by rw [hsz]; decide) (by rw [hsz]; decide) (by rw [hsz]; simp only [List.map_toArray, List.map_cons, List.map_nil]; exact fill51 (x.name, ago)) ?_; clear hie hz hsz)
            | (at_builtin; refine wpList_append_own _ rfl (.tmp 29) (.tmp 31) 75 rfl b0 78 i0 (.agg #[.string ByteArray.empty, .int .i64 0]) 2 24 Tryd.underlying75 hi hi0 hi1 hi2 rfl (by decide) _ _ _ rfl HR7.out ⟨W2.heap.size, 0, none⟩ 1 1 [.string x.name, .int .i64 (ago : Int)] rfl rfl (two_new _ _ _) (by simp [Value.oneCell']) (by have := FEW.out; unfold maxLen; omega) (by have := FEW.out; omega) ORD.out ?_; intro v' w' hown1 hgrow1 _; obtain ⟨gv, cv, rfl⟩ := own_slice hown1; obtain ⟨hbl, gi⟩ := GP7.out.push (r := (x.name, ago)) HV7.out HR7.out hgrow1 hown1 FEW2.out; have t0 : w'.cell? ⟨bl, 0, none⟩ = some lv0 := (cell_of_row _ _ _ _ 75 (0, 0) hbl).trans rfl; have t1 : w'.frozen? ⟨bl, 0, none⟩ = false := frozen_of_row _ _ _ _ _ hbl; have GF := hid gi; have XF := hid ((Below.heap_setCell w' ⟨bl, 0, none⟩ (.slice (some ⟨gv, 0, none⟩) (acc.length + 1) cv) W.heap.size NB.out).trans ((hgrow1.block _ LTB.out NEB.out).trans XB7.out)); clear hown1 hgrow1 gi))
          go_meet
          case rel => exact ⟨by rw [NA.out], by rw [OWN.out]; exact GF, XF⟩
        · go_simp
          refine hK.out _ _ S1 (fun _ => ?_)
          clear hK K
          refine wpAnyH_take (i := 5) (oi := { dst := some 24, op := Go.Op.extract (Go.Operand.tmp 23) 1, type := 3, pos := _, after := #[{ on := 4, ground := Go.Ground.data }], guard := none }) (v := ?_) rfl (by kernel_rfl) (by kernel_rfl) (by kernel_rfl) (fun _ _ _ h => h) (Or.inl ⟨by rfl, ?_⟩) (by assumption) ?_
          rotate_left
          · intro w hSw; (try dsimp only at hSw); go_simp <;> with_reducible rfl
          simp only [Act.put, List.setIfInBounds_toArray, List.set_cons_zero, List.set_cons_succ]
          refine wpAnyH_ready (rs := [2]) (by kernel_rfl) (by simp) ?_
          refine AllReadyH.cons (o := { dst := some 21, op := Go.Op.lookup 100 (Go.Operand.tmp 19) (Go.Operand.tmp 20) false, type := 3, pos := _, after := #[{ on := 0, ground := Go.Ground.data }, { on := 1, ground := Go.Ground.data }], guard := none }) rfl (fun K hK => ?_) AllReadyH.nil
          go_simp
          refine hK.out _ _ S1 (fun _ => ?_)
          clear hK K
          refine wpAnyH_take (i := 3) (oi := { dst := some 22, op := Go.Op.binOp Go.BinOp.add 3 (Go.Operand.tmp 21) (Go.Operand.const (Go.Value.int Go.IntKind.i64 1)) 3, type := 3, pos := _, after := #[{ on := 2, ground := Go.Ground.data }], guard := none }) (v := ?_) rfl (by kernel_rfl) (by kernel_rfl) (by kernel_rfl) (fun _ _ _ h => h) (Or.inl ⟨by rfl, ?_⟩) (by assumption) ?_
          rotate_left
          · intro w hSw; (try dsimp only at hSw); go_simp <;> with_reducible rfl
          simp only [Act.put, List.setIfInBounds_toArray, List.set_cons_zero, List.set_cons_succ]
          refine wpAnyH_ready (rs := [6]) (by kernel_rfl) (by simp) ?_
          refine AllReadyH.cons (o := { dst := none, op := Go.Op.entryStore 100 (Go.Operand.tmp 19) (Go.Operand.tmp 24) (Go.Operand.tmp 22), type := 0, pos := _, after := #[{ on := 0, ground := Go.Ground.data }, { on := 5, ground := Go.Ground.data }, { on := 3, ground := Go.Ground.data }, { on := 4, ground := Go.Ground.chain }, { on := 0, ground := Go.Ground.phase }, { on := 1, ground := Go.Ground.phase }, { on := 2, ground := Go.Ground.phase }, { on := 3, ground := Go.Ground.phase }, { on := 4, ground := Go.Ground.phase }, { on := 5, ground := Go.Ground.phase }], guard := none }) rfl (fun K hK => ?_) AllReadyH.nil
          go_simp
          refine hK.out _ _ S2 (fun _ => ?_)
          clear hK K
          refine wpAnyH_done (by kernel_rfl) ?_ _
          go_wp2_with (first
            | (obtain ⟨ie, hie, hz, hsz⟩ := inf51; refine wpList_buildSlice rfl 75 78 1 _ rfl (rV (x.name, ago)) ie (.agg #[.string ByteArray.empty, .int .i64 0]) Tryd.underlying75 hie hz (by rw [hsz]; decide) (by rw [hsz]; decide) (by rw [hsz]; simp only [List.map_toArray, List.map_cons, List.map_nil]; exact fill51 (x.name, ago)) ?_; clear hie hz hsz)
            | (at_builtin; refine wpList_append_own _ rfl (.tmp 29) (.tmp 31) 75 rfl b0 78 i0 (.agg #[.string ByteArray.empty, .int .i64 0]) 2 24 Tryd.underlying75 hi hi0 hi1 hi2 rfl (by decide) _ _ _ rfl HR7.out ⟨W2.heap.size, 0, none⟩ 1 1 [.string x.name, .int .i64 (ago : Int)] rfl rfl (two_new _ _ _) (by simp [Value.oneCell']) (by have := FEW.out; unfold maxLen; omega) (by have := FEW.out; omega) ORD.out ?_; intro v' w' hown1 hgrow1 _; obtain ⟨gv, cv, rfl⟩ := own_slice hown1; obtain ⟨hbl, gi⟩ := GP7.out.push (r := (x.name, ago)) HV7.out HR7.out hgrow1 hown1 FEW2.out; have t0 : w'.cell? ⟨bl, 0, none⟩ = some lv0 := (cell_of_row _ _ _ _ 75 (0, 0) hbl).trans rfl; have t1 : w'.frozen? ⟨bl, 0, none⟩ = false := frozen_of_row _ _ _ _ _ hbl; have GF := hid gi; have XF := hid ((Below.heap_setCell w' ⟨bl, 0, none⟩ (.slice (some ⟨gv, 0, none⟩) (acc.length + 1) cv) W.heap.size NB.out).trans ((hgrow1.block _ LTB.out NEB.out).trans XB7.out)); clear hown1 hgrow1 gi))
          go_meet
          case rel => exact ⟨by rw [NA.out], by rw [OWN.out]; exact GF, XF⟩
      | true =>
        have OWN : Hid (ownRefs x ago acc = acc) := hid (by rw [OWN0.out]; unfold addR; rw [hin]; rfl)
        have GPo : Hid (GI w0 bs bl bg mb b0 acc acc (N + 1) W2) := by
          have h := GP.out
          have e : addR acc (x.name, ago) = acc := by unfold addR; rw [hin]; rfl
          rw [e] at h
          exact hid h
        have hc1 : 1 ≤ c := by
          by_cases e : c = 0
          · rw [hc0.1 e] at hin; cases hin
          · omega
        have hc1' : (1 : Int) ≤ (c : Int) := by omega
        have hcc : (((c : Int) + 1) == 1) = false := by simp; omega
        have hw1 : IntKind.i64.wrap ((c : Int) + 1) = (c : Int) + 1 := by rw [IntKind.wrap_i64]; omega
        refine wp_region_held_drew (S := fun V => V.cell? ⟨bs, 0, none⟩ = some (.map (some mb)) ∧ V.cell? ⟨w2.heap.size, 0, none⟩ = some (.string x.name) ∧ V.cell? ⟨w2.heap.size, 1, none⟩ = some (.int .i64 (ago : Int))) (by kernel_rfl) ?_ (fun hHeld => ?_)
        · exact S0
        refine wpAnyH_take (i := 0) (oi := { dst := some 19, op := Go.Op.load 100 (Go.Operand.tmp 2), type := 100, pos := _, after := #[], guard := none }) (v := ?_) rfl (by kernel_rfl) (by kernel_rfl) (by kernel_rfl) (fun _ _ _ h => h) (Or.inl ⟨by rfl, ?_⟩) (by assumption) ?_
        rotate_left
        · intro w hSw; (try dsimp only at hSw); go_simp <;> with_reducible rfl
        simp only [Act.put, List.setIfInBounds_toArray, List.set_cons_zero, List.set_cons_succ]
        refine wpAnyH_take (i := 1) (oi := { dst := some 20, op := Go.Op.load 78 (Go.Operand.tmp 7), type := 78, pos := _, after := #[], guard := none }) (v := ?_) rfl (by kernel_rfl) (by kernel_rfl) (by kernel_rfl) (fun _ _ _ h => h) (Or.inl ⟨by rfl, ?_⟩) (by assumption) ?_
        rotate_left
        · intro w hSw; (try dsimp only at hSw); go_simp <;> with_reducible rfl
        simp only [Act.put, List.setIfInBounds_toArray, List.set_cons_zero, List.set_cons_succ]
        refine wpAnyH_ready (rs := [2, 4]) (by kernel_rfl) (by simp) ?_
        refine AllReadyH.cons (o := { dst := some 21, op := Go.Op.lookup 100 (Go.Operand.tmp 19) (Go.Operand.tmp 20) false, type := 3, pos := _, after := #[{ on := 0, ground := Go.Ground.data }, { on := 1, ground := Go.Ground.data }], guard := none }) rfl (fun K hK => ?_) (AllReadyH.cons (o := { dst := some 23, op := Go.Op.mapEntry 100 (Go.Operand.tmp 19) (Go.Operand.tmp 20), type := 0, pos := _, after := #[{ on := 0, ground := Go.Ground.data }, { on := 1, ground := Go.Ground.data }, { on := 0, ground := Go.Ground.phase }, { on := 1, ground := Go.Ground.phase }, { on := 2, ground := Go.Ground.textOnly Go.Departure.mapOpAssignEntry }, { on := 3, ground := Go.Ground.textOnly Go.Departure.mapOpAssignEntry }], guard := none }) rfl (fun K hK => ?_) AllReadyH.nil)
        · go_simp
          refine hK.out _ _ S0 (fun _ => ?_)
          clear hK K
          refine wpAnyH_take (i := 3) (oi := { dst := some 22, op := Go.Op.binOp Go.BinOp.add 3 (Go.Operand.tmp 21) (Go.Operand.const (Go.Value.int Go.IntKind.i64 1)) 3, type := 3, pos := _, after := #[{ on := 2, ground := Go.Ground.data }], guard := none }) (v := ?_) rfl (by kernel_rfl) (by kernel_rfl) (by kernel_rfl) (fun _ _ _ h => h) (Or.inl ⟨by rfl, ?_⟩) (by assumption) ?_
          rotate_left
          · intro w hSw; (try dsimp only at hSw); go_simp <;> with_reducible rfl
          simp only [Act.put, List.setIfInBounds_toArray, List.set_cons_zero, List.set_cons_succ]
          refine wpAnyH_ready (rs := [4]) (by kernel_rfl) (by simp) ?_
          refine AllReadyH.cons (o := { dst := some 23, op := Go.Op.mapEntry 100 (Go.Operand.tmp 19) (Go.Operand.tmp 20), type := 0, pos := _, after := #[{ on := 0, ground := Go.Ground.data }, { on := 1, ground := Go.Ground.data }, { on := 0, ground := Go.Ground.phase }, { on := 1, ground := Go.Ground.phase }, { on := 2, ground := Go.Ground.textOnly Go.Departure.mapOpAssignEntry }, { on := 3, ground := Go.Ground.textOnly Go.Departure.mapOpAssignEntry }], guard := none }) rfl (fun K hK => ?_) AllReadyH.nil
          go_simp
          refine hK.out _ _ S1 (fun _ => ?_)
          clear hK K
          refine wpAnyH_take (i := 5) (oi := { dst := some 24, op := Go.Op.extract (Go.Operand.tmp 23) 1, type := 3, pos := _, after := #[{ on := 4, ground := Go.Ground.data }], guard := none }) (v := ?_) rfl (by kernel_rfl) (by kernel_rfl) (by kernel_rfl) (fun _ _ _ h => h) (Or.inl ⟨by rfl, ?_⟩) (by assumption) ?_
          rotate_left
          · intro w hSw; (try dsimp only at hSw); go_simp <;> with_reducible rfl
          simp only [Act.put, List.setIfInBounds_toArray, List.set_cons_zero, List.set_cons_succ]
          refine wpAnyH_ready (rs := [6]) (by kernel_rfl) (by simp) ?_
          refine AllReadyH.cons (o := { dst := none, op := Go.Op.entryStore 100 (Go.Operand.tmp 19) (Go.Operand.tmp 24) (Go.Operand.tmp 22), type := 0, pos := _, after := #[{ on := 0, ground := Go.Ground.data }, { on := 5, ground := Go.Ground.data }, { on := 3, ground := Go.Ground.data }, { on := 4, ground := Go.Ground.chain }, { on := 0, ground := Go.Ground.phase }, { on := 1, ground := Go.Ground.phase }, { on := 2, ground := Go.Ground.phase }, { on := 3, ground := Go.Ground.phase }, { on := 4, ground := Go.Ground.phase }, { on := 5, ground := Go.Ground.phase }], guard := none }) rfl (fun K hK => ?_) AllReadyH.nil
          go_simp
          refine hK.out _ _ S2 (fun _ => ?_)
          clear hK K
          refine wpAnyH_done (by kernel_rfl) ?_ _
          go_wp2
          go_meet
          case rel => exact ⟨by rw [NA.out], by rw [OWN.out]; exact GPo, XB⟩
        · go_simp
          refine hK.out _ _ S1 (fun _ => ?_)
          clear hK K
          refine wpAnyH_take (i := 5) (oi := { dst := some 24, op := Go.Op.extract (Go.Operand.tmp 23) 1, type := 3, pos := _, after := #[{ on := 4, ground := Go.Ground.data }], guard := none }) (v := ?_) rfl (by kernel_rfl) (by kernel_rfl) (by kernel_rfl) (fun _ _ _ h => h) (Or.inl ⟨by rfl, ?_⟩) (by assumption) ?_
          rotate_left
          · intro w hSw; (try dsimp only at hSw); go_simp <;> with_reducible rfl
          simp only [Act.put, List.setIfInBounds_toArray, List.set_cons_zero, List.set_cons_succ]
          refine wpAnyH_ready (rs := [2]) (by kernel_rfl) (by simp) ?_
          refine AllReadyH.cons (o := { dst := some 21, op := Go.Op.lookup 100 (Go.Operand.tmp 19) (Go.Operand.tmp 20) false, type := 3, pos := _, after := #[{ on := 0, ground := Go.Ground.data }, { on := 1, ground := Go.Ground.data }], guard := none }) rfl (fun K hK => ?_) AllReadyH.nil
          go_simp
          refine hK.out _ _ S1 (fun _ => ?_)
          clear hK K
          refine wpAnyH_take (i := 3) (oi := { dst := some 22, op := Go.Op.binOp Go.BinOp.add 3 (Go.Operand.tmp 21) (Go.Operand.const (Go.Value.int Go.IntKind.i64 1)) 3, type := 3, pos := _, after := #[{ on := 2, ground := Go.Ground.data }], guard := none }) (v := ?_) rfl (by kernel_rfl) (by kernel_rfl) (by kernel_rfl) (fun _ _ _ h => h) (Or.inl ⟨by rfl, ?_⟩) (by assumption) ?_
          rotate_left
          · intro w hSw; (try dsimp only at hSw); go_simp <;> with_reducible rfl
          simp only [Act.put, List.setIfInBounds_toArray, List.set_cons_zero, List.set_cons_succ]
          refine wpAnyH_ready (rs := [6]) (by kernel_rfl) (by simp) ?_
          refine AllReadyH.cons (o := { dst := none, op := Go.Op.entryStore 100 (Go.Operand.tmp 19) (Go.Operand.tmp 24) (Go.Operand.tmp 22), type := 0, pos := _, after := #[{ on := 0, ground := Go.Ground.data }, { on := 5, ground := Go.Ground.data }, { on := 3, ground := Go.Ground.data }, { on := 4, ground := Go.Ground.chain }, { on := 0, ground := Go.Ground.phase }, { on := 1, ground := Go.Ground.phase }, { on := 2, ground := Go.Ground.phase }, { on := 3, ground := Go.Ground.phase }, { on := 4, ground := Go.Ground.phase }, { on := 5, ground := Go.Ground.phase }], guard := none }) rfl (fun K hK => ?_) AllReadyH.nil
          go_simp
          refine hK.out _ _ S2 (fun _ => ?_)
          clear hK K
          refine wpAnyH_done (by kernel_rfl) ?_ _
          go_wp2
          go_meet
          case rel => exact ⟨by rw [NA.out], by rw [OWN.out]; exact GPo, XB⟩
    · by_cases h19 : x.op = 19
      · have NA : Hid (nextAgo x ago = ago + 1) := hid (by unfold nextAgo; rw [if_pos h19])
        have OWN : Hid (ownRefs x ago acc = acc) := hid (by unfold ownRefs; rw [if_neg h3])
        have hop3 : ((x.op : Int) == 3) = false := by simp; omega
        have hop19 : ((x.op : Int) == 19) = true := by simp [h19]
        have hab : (ago : Int) ≤ 1099511627776 := by omega
        have GF := hid (G5.out.mono (Nat.le_succ N))
        clear ih hc hs hS hG hG0 b5 hop hn hnm hlen hcap hago hN hNm h3 h19 hK1 G5
        go_wp2
        go_meet
        case rel => exact ⟨by rw [NA.out]; go_num, by rw [OWN.out]; exact GF, X5h⟩
      · have NA : Hid (nextAgo x ago = ago) := hid (by unfold nextAgo; rw [if_neg h19])
        have OWN : Hid (ownRefs x ago acc = acc) := hid (by unfold ownRefs; rw [if_neg h3])
        have hop3 : ((x.op : Int) == 3) = false := by simp; omega
        have hop19 : ((x.op : Int) == 19) = false := by simp; omega
        have GF := hid (G5.out.mono (Nat.le_succ N))
        clear ih hc hs hS hG hG0 b5 hop hn hnm hlen hcap hago hN hNm h3 h19 hK1 G5
        go_wp2
        go_meet
        case rel => exact ⟨by rw [NA.out], by rw [OWN.out]; exact GF, X5h⟩
/-- The closure of Refs, whatever it is called with. -/
theorem gather_any : ∀ k, GatC k
  | 0 => fun _ _ _ _ _ _ _ _ _ _ _ _ _ h => h.elim
  | k + 1 => gather_of k (gather_any k)
end Go.Proofs.YtjdlmhkfaodkgaaDoor.Lex
namespace Go.Proofs.YtjdlmhkfaodkgaaDoor.Lex
open Go.ChangeShapes Go.WideShapes Go.ChangeAt Go.RowKit Go.Joins Go.WideMaps Go.WideElems Go.Maps
theorem push_old {w : World} {b : Nat} {o o' : Obj} (h : w.heap[b]? = some o) : (w.alloc o').heap[b]? = some o := (Below.heap_alloc _ _ _ (Array.getElem?_eq_some_iff.1 h).1).trans h
theorem push_new (w : World) (o : Obj) (n : Nat) (h : w.heap.size = n) : (w.alloc o).heap[n]? = some o := by subst h; exact (MapKept.heap_alloc w o).1
theorem gi_start (w : World) (c : Array Value) : GI w (w.heap.size + 1 + 1 + 1) (w.heap.size + 1) (w.heap.size + 1 + 1 + 1 + 1) (w.heap.size + 1 + 1) (w.heap.size + 5) [] [] 0 (((((w.alloc (.cells c 49)).alloc (.cells #[.slice none 0 0] 75)).alloc (.map #[] 0)).alloc (.cells #[.map (some (w.heap.size + 1 + 1))] 100)).alloc (.cells #[.func (.func 49) #[] #[ptr (w.heap.size + 1 + 1 + 1), ptr (w.heap.size + 1), ptr (w.heap.size + 1 + 1 + 1 + 1)]] 101)) := by
  have s1 : (w.alloc (.cells c 49)).heap.size = w.heap.size + 1 := by simp
  have s2 : ((w.alloc (.cells c 49)).alloc (.cells #[.slice none 0 0] 75)).heap.size = w.heap.size + 1 + 1 := by simp
  have s3 : (((w.alloc (.cells c 49)).alloc (.cells #[.slice none 0 0] 75)).alloc (.map #[] 0)).heap.size = w.heap.size + 1 + 1 + 1 := by simp
  have s4 : ((((w.alloc (.cells c 49)).alloc (.cells #[.slice none 0 0] 75)).alloc (.map #[] 0)).alloc (.cells #[.map (some (w.heap.size + 1 + 1))] 100)).heap.size = w.heap.size + 1 + 1 + 1 + 1 := by simp
  have b1 := (Below.refl w.heap.size w).alloc (Nat.le_refl _) (.cells c 49)
  have b2 := bstep b1 ((Below.refl _ _).alloc (Nat.le_refl _) (.cells #[.slice none 0 0] 75))
  have b3 := bstep b2 ((Below.refl _ _).alloc (Nat.le_refl _) (.map #[] 0))
  have b4 := bstep b3 ((Below.refl _ _).alloc (Nat.le_refl _) (.cells #[.map (some (w.heap.size + 1 + 1))] 100))
  have b5 := bstep b4 ((Below.refl _ _).alloc (Nat.le_refl _) (.cells #[.func (.func 49) #[] #[ptr (w.heap.size + 1 + 1 + 1), ptr (w.heap.size + 1), ptr (w.heap.size + 1 + 1 + 1 + 1)]] 101))
  refine ⟨b5, push_old (push_new _ _ _ s3), push_new _ _ _ s4, ⟨_, push_old (push_old (push_old (push_new _ _ _ s1))), ⟨rfl, .inl ⟨rfl, rfl⟩⟩⟩, SeenM.none _ _ (push_old (push_old (push_new _ _ _ s2))), Nat.le_refl _, ⟨by omega, by omega, by omega, by omega, by omega, by omega, by omega, by omega, by simp⟩, ⟨by omega, by omega, by omega, by omega, by omega, by omega⟩⟩
set_option maxRecDepth 100000 in
set_option maxHeartbeats 1000000 in
theorem refs (k : Nat) (x : Ex) (s : Value) (w : World) (hS : St w x s) (hNm : NmOk k x) (hk : k ≤ 1099511627776) (hc : cnt k x ≤ 1099511627776) : Calls Tryd.prog 29 #[exV x s] w fun e w' => ∃ v, e = .returned v ∧ w'.ownsRow w.heap.size 78 2 v (gat k x 0 []).length (refsV (gat k x 0 [])) ∧ Below w.heap.size w w' := by
  obtain ⟨ao, cap, sl, rfl, _⟩ := hS.out
  have hmm := @run_makeMap Tryd.prog
  have hmf : ∀ (fn : Fn) (first cap : Array Value) (w : World), (Instr.makeFunc fn first cap).run Tryd.prog w = .ok (.func fn first cap) w := fun _ _ _ _ => rfl
  have c37 := gather_any k x (.slice ao x.args.length cap) 0 w _ _ _ _ _ _ 0 [] hS hNm (by omega) (by omega) (gi_start w (ex4 x (.slice ao x.args.length cap)))
  generalize hL : gat k x 0 [] = L at *
  generalize hN : cnt k x = N at *
  clear hS hNm hk hc hL hN
  go_enter Tryd.func29, Tryd.ntmps29
  go_wp2_with (go_at_call 49; refine c37.mono ?_; rintro e w2 ⟨rfl, g2⟩; obtain ⟨v, hv, hr⟩ := g2.list; have t0 : w2.cell? ⟨w.heap.size + 1, 0, none⟩ = some v := (cell_of_row _ _ _ _ 75 (0, 0) hv).trans rfl; have HR := hid hr; have HB := hid g2.below; clear g2 hv hr c37)
  go_ret
  exact ⟨v, rfl, ownsRow_mono HR.out (by omega), HB.out⟩
end Go.Proofs.YtjdlmhkfaodkgaaDoor.Lex
namespace Go.Proofs.YtjdlmhkfaodkgaaDoor.Lex
open Go.ChangeShapes Go.WideShapes Go.ChangeAt Go.RowKit Go.Shelf
attribute [local go_sem] Oper.semAt_some
/-- What a round keeps: all below some block, and one block. -/
def KpT (n₀ Bn : Nat) (W W' : World) : Prop := Below n₀ W W' ∧ W'.heap[Bn]? = W.heap[Bn]?
theorem KpT.trans {n₀ Bn : Nat} {A B C : World} (h : KpT n₀ Bn A B) (k : KpT n₀ Bn B C) : KpT n₀ Bn A C := ⟨h.1.trans k.1, k.2.trans h.2⟩
set_option maxRecDepth 100000 in
set_option maxHeartbeats 2000000 in
theorem things2 (F : Fence) (n : Nat) (h22 : F.fn 42) (hro : F.round = none) (hn : 1 ≤ n) (l Bn n₀ : Nat) (p : Pg) (a b c : Value) (J Jx : List (Int × Hd) → World → Prop) (W0 W : World) (hW0 : n₀ = W0.heap.size) (hW : Below n₀ W0 W) (hP : PgAt W0 p a b c)
    (hA : AbidesFrom W.heap.size J)
    (hY : ∀ pre x W, J pre W → pre ++ [x] <+: thingsL p → YieldAt F (n - 1) Tryd.prog l #[.int .i64 x.1, hdV x.2] W fun e W' =>
      (e = .returned (.bool true) ∧ J (pre ++ [x]) W' ∧ KpT n₀ Bn W W') ∨ (e = .returned (.bool false) ∧ Jx (pre ++ [x]) W'))
    (hBx : W.heap[Bn]? = some (.cells (pgC p a b c) 26 (0, 0))) (h0 : J [] W) :
    CallsIn F n Tryd.prog 42 #[.func (.yield l) #[] #[], .pointer (some ⟨Bn, 0, none⟩)] W fun e W' => (∃ v, e = .returned v) ∧
      ((∃ ys, ys = thingsL p ∧ J ys W') ∨ (∃ pre, pre <+: thingsL p ∧ Jx pre W')) := by
  subst hW0
  obtain ⟨ao, cap, rfl, hlen, _, _, hc⟩ := hP.ins
  obtain ⟨bo, cbp, sl, rfl, hlen2, _, _, hc2, hs2⟩ := hP.flows
  have HS2 := hid hs2
  have HC := hid hc
  have HC2 := hid hc2
  clear hc hc2 hs2 hP
  have x1 : W.cell? ⟨Bn, 1, none⟩ = some (.slice ao p.ins.length cap) := by rw [cell_of_row _ _ _ _ 26 (0, 0) hBx]; rfl
  have HBX := hid hBx
  have AL : ∀ (s : List (Int × Hd)) (V : World) (o : Obj), J s V → J s (V.alloc o) := fun s V o h => hA s V _ none h (World.grownBy_alloc V o none) (fun r e => by cases e)
  clear hBx hA
  refine callsIn_of_wp Tryd.func42 rfl h22 ?_ hro
  simp only [Tryd.ntmps42, List.size_toArray, List.length_cons, List.length_nil, Nat.reduceAdd, Nat.reduceSub, Array.replicate_succ, Array.replicate_zero, List.push_toArray, List.append_toArray, List.nil_append, List.cons_append]
  gi_wp2
  gi_loopw [10] (fun i wr => ∃ k : Nat, k ≤ p.ins.length ∧ i = .int .i64 (k : Int) ∧ Hid (J ((insL p).take k) wr) ∧ Hid (Below W0.heap.size W0 wr) ∧ Hid (wr.heap[Bn]? = some (.cells (pgC p (.slice ao p.ins.length cap) (.slice bo p.flows.length cbp) c) 26 (0, 0)))) (fun i wr => p.ins.length - (intOf i).toNat)
  case atStart => exact ⟨0, Nat.zero_le _, rfl, hid h0, hid hW, HBX⟩
  case round =>
    obtain ⟨k, hk, rfl, hJ, hB, hBX⟩ := hrel
    by_cases hlt : k < p.ins.length
    · have hlt' : (k : Int) < (p.ins.length : Int) := by omega
      have hk0 : (0 : Int) ≤ (k : Int) := by omega
      obtain ⟨bb, o, rfl, hcc⟩ := HC.out.resolve_left (by omega)
      obtain ⟨v0, v1, v2⟩ := (hcc k hlt).keep hB.out
      have HS := hid (insL_succ p k hlt)
      obtain ⟨fn, tmps, assign, body, hy, hR⟩ := hY ((insL p).take k) (-1, p.ins[k]) (wr.alloc (.cells #[.string p.ins[k].name, .int .u8 (p.ins[k].ty : Int), .int .i64 p.ins[k].st] 61)) (AL _ _ _ hJ.out) (by rw [← insL_succ p k hlt]; exact (List.take_prefix _ _).trans (List.prefix_append _ _))
      dsimp only at hy
      clear hcc
      generalize p.ins[k] = y at *
      gi_wp2
      refine hR.mono ?_
      rintro e W3 (⟨rfl, hJ3, hk3⟩ | ⟨rfl, hJx3⟩)
      · gi_wp2
        go_roundw
        case rel => exact ⟨k + 1, by omega, by go_num, hid (by rw [HS.out]; exact hJ3), hid ((hB.out.alloc hB.out.size _).trans hk3.1), hid (hk3.2.trans ((Below.heap_alloc _ _ _ (Array.getElem?_eq_some_iff.1 hBX.out).1).trans hBX.out))⟩
        case measure => simp [intOf]; omega
      · gi_wp2
        refine bodyPost_ret (results_none rfl _ _ _) rfl ?_
        exact ⟨⟨_, rfl⟩, .inr ⟨_, by rw [← HS.out]; exact (List.take_prefix _ _).trans (List.prefix_append _ _), hJx3⟩⟩
    · have hlt' : ¬ (k : Int) < (p.ins.length : Int) := by omega
      have hJ' : Hid (J (insL p) wr) := by rw [List.take_of_length_le (by rw [insL_len]; omega)] at hJ; exact hJ
      have x2 : wr.cell? ⟨Bn, 2, none⟩ = some (.slice bo p.flows.length cbp) := by rw [cell_of_row _ _ _ _ 26 (0, 0) hBX.out]; rfl
      clear hJ
      gi_wp2
      gi_loopw [22] (fun i wr => ∃ k : Nat, k ≤ p.flows.length ∧ i = .int .i64 (k : Int) ∧ Hid (J (insL p ++ (flowsL p).take k) wr) ∧ Hid (Below W0.heap.size W0 wr)) (fun i wr => p.flows.length - (intOf i).toNat)
      case atStart => exact ⟨0, Nat.zero_le _, rfl, hid (by simpa using hJ'.out), hB⟩
      case round =>
        obtain ⟨j, hj, rfl, hJ2, hB'⟩ := hrel
        by_cases hjl : j < p.flows.length
        · have hjl' : (j : Int) < (p.flows.length : Int) := by omega
          have hj0 : (0 : Int) ≤ (j : Int) := by omega
          obtain ⟨b2, o2, rfl, hcc⟩ := HC2.out.resolve_left (by omega)
          have X := (hcc j hjl).keep hB'.out
          obtain ⟨a3, c3, _, e3, _⟩ := (HS2.out j hjl).out
          rw [e3] at X
          have HS := hid (flowsL_succ p j hjl)
          obtain ⟨fn, tmps, assign, body, hy, hR⟩ := hY (insL p ++ (flowsL p).take j) ((j : Int), p.flows[j].hd) (wr.alloc (.cells #[.string p.flows[j].name, .int .u8 (p.flows[j].ty : Int), .int .i64 p.flows[j].st, .int .i64 p.flows[j].df, .int .u8 (p.flows[j].body.op : Int), .int .i64 p.flows[j].body.n, .string p.flows[j].body.name, .slice a3 p.flows[j].body.args.length c3] 51)) (AL _ _ _ hJ2.out) (by rw [List.append_assoc, ← flowsL_succ p j hjl]; exact (List.prefix_append_right_inj _).2 (List.take_prefix _ _))
          dsimp only [Fl.hd] at hy
          clear hcc e3
          obtain ⟨v0, v1, v2, v3, v4, v5, v6, v7⟩ := X
          generalize p.flows[j] = y at *
          gi_wp2
          refine hR.mono ?_
          rintro e W3 (⟨rfl, hJ3, hk3⟩ | ⟨rfl, hJx3⟩)
          · gi_wp2
            go_roundw
            case rel => exact ⟨j + 1, by omega, by go_num, hid (by rw [HS.out, ← List.append_assoc]; exact hJ3), hid ((hB'.out.alloc hB'.out.size _).trans hk3.1)⟩
            case measure => simp [intOf]; omega
          · gi_wp2
            refine bodyPost_ret (results_none rfl _ _ _) rfl ?_
            exact ⟨⟨_, rfl⟩, .inr ⟨_, by rw [List.append_assoc, ← HS.out]; exact (List.prefix_append_right_inj _).2 (List.take_prefix _ _), hJx3⟩⟩
        · have hjl' : ¬ (j : Int) < (p.flows.length : Int) := by omega
          gi_wp2
          go_end0
          exact ⟨⟨_, rfl⟩, .inl (by have := hJ2.out; rw [List.take_of_length_le (by rw [flowsL_len]; omega)] at this; exact this)⟩
/-- A thing whose name is a string. -/
abbrev Tg := { x : Int × Hd // x.2.name.size ≤ 140737488355328 }
theorem things_size {w : World} {p : Pg} {a b c : Value} (hP : PgAt w p a b c) : ∀ x ∈ thingsL p, x.2.name.size ≤ 140737488355328 := fun x hx => by
  obtain ⟨_, _, _, _, _, ho1, _⟩ := hP.ins
  obtain ⟨_, _, _, _, _, _, ho2, _⟩ := hP.flows
  rcases List.mem_append.1 hx with hx | hx
  · obtain ⟨y, hy, rfl⟩ := List.mem_map.1 hx
    exact (ho1 y hy).1
  · obtain ⟨i, hi, rfl⟩ := List.mem_map.1 hx
    have hi' : i < p.flows.length := by simpa using hi
    simp only [List.getElem?_eq_getElem hi', Option.map_some, Option.getD_some]
    exact (ho2 _ (List.getElem_mem hi')).1
/-- What it hands back goes through the things. -/
theorem things_stops2 (F : Fence) (n : Nat) (h45 : F.fn 42) (hro : F.round = none) (hn : 1 ≤ n) (Bn : Nat) (p : Pg) (a b c : Value) (w0 w : World) (hP : PgAt w0 p a b c) (hb : Below w0.heap.size w0 w) (hBx : w.heap[Bn]? = some (.cells (pgC p a b c) 26 (0, 0))) :
    SeqStopsK F n Tryd.prog 42 #[.pointer (some ⟨Bn, 0, none⟩)] (fun x : Tg => #[.int .i64 x.1.1, hdV x.1.2]) (KpT w0.heap.size Bn) (fun ys => ys.map (·.1) = thingsL p) (fun pre => pre.map (·.1) <+: thingsL p) (thingsL p).length w := fun l J Jx W hW hA _ hY h0 => by
  have hsz := things_size hP
  refine (things2 F n h45 hro hn l Bn w0.heap.size p a b c (fun pre V => ∃ q : List Tg, q.map (·.1) = pre ∧ J q V) (fun pre V => ∃ q : List Tg, q.map (·.1) = pre ∧ Jx q V) w0 W rfl (hb.trans (hW.mono hb.size)) hP ?_ ?_ ((hW.block Bn (Array.getElem?_eq_some_iff.1 hBx).1).trans hBx) ⟨[], rfl, h0⟩).mono ?_
  · rintro s V V' row ⟨q, e, hJ⟩ hg hr
    exact ⟨q, e, hA q V V' row hJ hg hr⟩
  · rintro pre x V ⟨q, rfl, hJ⟩ hpre
    have hx : x ∈ thingsL p := hpre.subset (by simp)
    have hlen : q.length < (thingsL p).length := by have := hpre.length_le; simp at this; omega
    refine (hY q ⟨x, hsz x hx⟩ V hJ hlen).mono ?_
    rintro e V' (⟨rfl, h1, h2⟩ | ⟨rfl, h1⟩)
    · exact .inl ⟨rfl, ⟨q ++ [⟨x, hsz x hx⟩], by simp, h1⟩, h2⟩
    · exact .inr ⟨rfl, ⟨q ++ [⟨x, hsz x hx⟩], by simp, h1⟩⟩
  · rintro e V' ⟨hv, ⟨ys, rfl, q, e1, hJ⟩ | ⟨pre, hp, q, rfl, hJ⟩⟩
    · exact ⟨hv, .inl ⟨q, e1, hJ⟩⟩
    · exact ⟨hv, .inr ⟨q, hp, hJ⟩⟩
end Go.Proofs.YtjdlmhkfaodkgaaDoor.Lex
namespace Go.Proofs.YtjdlmhkfaodkgaaDoor.Lex
open Go.ChangeShapes Go.WideShapes Go.ChangeAt Go.RowKit Go.Shelf
attribute [local go_sem] Oper.semAt_some
theorem name_small {op : Nat} {n : Int} {nm : ByteArray} {len : Nat} (h : fieldsOk op n nm len = true) : nm.size ≤ 65536 := by
  unfold fieldsOk at h
  unfold isName at h
  split at h
  · simp only [Bool.and_eq_true, decide_eq_true_eq] at h; omega
  split at h
  · simp only [Bool.and_eq_true, decide_eq_true_eq] at h; omega
  split at h
  · simp only [Bool.and_eq_true, decide_eq_true_eq] at h; omega
  · simp only [Bool.and_eq_true, decide_eq_true_eq] at h; omega
theorem szL_nm {f : Nat → Ex → Option Nat} {d : Nat} (hf : ∀ m a k, f m a = some k → NmOk d a ∧ cnt d a = k) (most : Nat) : ∀ (l : List Ex) (n r : Nat), szL f most n l = some r → (∀ y ∈ l, NmOk d y) ∧ l.foldl (fun n y => n + cnt d y) n = r
  | [], n, r, h => by simp only [szL, Option.some.injEq] at h; exact ⟨by simp, h⟩
  | a :: l, n, r, h => by
    simp only [szL] at h
    cases e : f (most - n) a with
    | none => rw [e] at h; cases h
    | some k =>
      rw [e] at h
      obtain ⟨h1, h2⟩ := hf _ _ _ e
      obtain ⟨h3, h4⟩ := szL_nm hf most l (n + k) r h
      refine ⟨fun y hy => ?_, ?_⟩
      · rcases List.mem_cons.1 hy with rfl | hy
        · exact h1
        · exact h3 y hy
      · rw [List.foldl_cons, h2]; exact h4
theorem sz_nm : ∀ (d most : Nat) (x : Ex) (k : Nat), sz d most x = some k → NmOk d x ∧ cnt d x = k
  | 0, most, x, k, h => by simp [sz] at h
  | d + 1, most, x, k, h => by
    rw [sz] at h
    split at h
    · cases h
    · next hn =>
      obtain ⟨h1, h2⟩ := szL_nm (fun m a k => sz_nm d m a k) most x.args 1 k h
      have hfo : fieldsOk x.op x.n x.name x.args.length = true := by
        cases e : fieldsOk x.op x.n x.name x.args.length
        · exact (hn (.inr e)).elim
        · rfl
      exact ⟨⟨name_small hfo, h1⟩, h2⟩
theorem chk_nm {x : Ex} (h : chk x = true) : NmOk 32 x ∧ cnt 32 x ≤ 200 := by
  unfold chk at h
  cases e : sz 32 200 x with
  | none => rw [e] at h; cases h
  | some k =>
    have h1 := sz_nm 32 200 x k e
    have h2 := sz_le 32 200 x k e
    exact ⟨h1.1, by omega⟩
def RfAt (w : World) (v : Value) (L : List Rf) : Prop :=
  ∃ a cap, v = .slice a L.length cap ∧ (L.length = 0 ∨ ∃ g, a = some ⟨g, 0, none⟩ ∧ ∀ i (h : i < L.length), w.cell? ⟨g, i * 2, none⟩ = some (.string L[i].1) ∧ w.cell? ⟨g, i * 2 + 1, none⟩ = some (.int .i64 (L[i].2 : Int)))
theorem refsV_at (L : List Rf) (i : Nat) (hi : i < L.length) : (refsV L)[2 * i]? = some (.string L[i].1) ∧ (refsV L)[2 * i + 1]? = some (.int .i64 (L[i].2 : Int)) := by
  induction L generalizing i with
  | nil => simp at hi
  | cons t ts ih =>
    have e : refsV (t :: ts) = [.string t.1, .int .i64 (t.2 : Int)] ++ refsV ts := by simp [refsV]
    rw [e]
    cases i with
    | zero => exact ⟨rfl, rfl⟩
    | succ i =>
      have := ih i (by simpa using hi)
      have hl : ([.string t.1, .int .i64 (t.2 : Int)] : List Value).length = 2 := rfl
      refine ⟨?_, ?_⟩
      · rw [List.getElem?_append_right (by omega), hl, show 2 * (i + 1) - 2 = 2 * i by omega]; simpa using this.1
      · rw [List.getElem?_append_right (by omega), hl, show 2 * (i + 1) + 1 - 2 = 2 * i + 1 by omega]; simpa using this.2
theorem RfAt.of_own {w : World} {B : Nat} {v : Value} {L : List Rf} (h : w.ownsRow B 78 2 v L.length (refsV L)) : RfAt w v L := by
  rcases h.2 with ⟨rfl, h0⟩ | ⟨g, cap, cur, rfl, hg0, hg, rest⟩
  · exact ⟨none, 0, by rw [h0], .inl h0⟩
  · refine ⟨_, cap, rfl, .inr ⟨g, rfl, fun i hi => ?_⟩⟩
    obtain ⟨a, b⟩ := refsV_at L i hi
    refine ⟨?_, ?_⟩
    · rw [h.cellAt _ (by omega), Nat.mul_comm]; exact a
    · rw [h.cellAt _ (by omega), Nat.mul_comm]; exact b
theorem gat_fold {k : Nat} (ih : ∀ (x : Ex) (ago : Nat) (acc : List Rf), (gat k x ago acc).length ≤ acc.length + cnt k x) (ago B : Nat) : ∀ (l : List Ex) (acc : List Rf) (n : Nat), acc.length ≤ B + n → (l.foldl (fun acc y => gat k y ago acc) acc).length ≤ B + l.foldl (fun n y => n + cnt k y) n
  | [], acc, n, h => h
  | y :: l, acc, n, h => by
    rw [List.foldl_cons, List.foldl_cons]
    exact gat_fold ih ago B l _ _ (by have := ih y ago acc; omega)
theorem gat_len : ∀ (k : Nat) (x : Ex) (ago : Nat) (acc : List Rf), (gat k x ago acc).length ≤ acc.length + cnt k x
  | 0, x, ago, acc => by simp [gat, cnt]
  | k + 1, x, ago, acc => by
    rw [gat, cnt]
    refine gat_fold (gat_len k) _ acc.length x.args _ 1 ?_
    unfold ownRefs addR
    split
    · split <;> simp
    · omega
/-- The names that a Body asks for; that all ask for. -/
def asksOf (f : Fl) : List ByteArray := (gat 32 f.body 0 []).map (·.1)
def asksN (p : Pg) (k : Nat) : List ByteArray := (p.flows.take k).flatMap asksOf
def askedL (p : Pg) : List ByteArray := p.flows.flatMap asksOf
theorem asksN_succ (p : Pg) (k : Nat) (h : k < p.flows.length) : asksN p (k + 1) = asksN p k ++ asksOf p.flows[k] := by
  unfold asksN
  rw [List.take_succ_eq_append_getElem h, List.flatMap_append]
  simp
theorem asksN_prefix (p : Pg) (k : Nat) : asksN p k <+: askedL p := by
  refine ⟨(p.flows.drop k).flatMap asksOf, ?_⟩
  unfold asksN askedL
  rw [← List.flatMap_append, List.take_append_drop]
/-- What a round keeps: all below some block, and all cells. -/
def KpA (n₀ : Nat) (W W' : World) : Prop := Below n₀ W W' ∧ ∀ (a : Addr) (v : Value), W.cell? a = some v → W'.cell? a = some v
theorem KpA.trans {n₀ : Nat} {A B C : World} (h : KpA n₀ A B) (k : KpA n₀ B C) : KpA n₀ A C := ⟨h.1.trans k.1, fun a v e => k.2 a v (h.2 a v e)⟩
theorem RfAt.kept {W W' : World} {ao : Option Addr} {L : List Rf} (h : L.length = 0 ∨ ∃ g, ao = some ⟨g, 0, none⟩ ∧ ∀ i (h : i < L.length), W.cell? ⟨g, i * 2, none⟩ = some (.string L[i].1) ∧ W.cell? ⟨g, i * 2 + 1, none⟩ = some (.int .i64 (L[i].2 : Int)))
    (k : ∀ (a : Addr) (v : Value), W.cell? a = some v → W'.cell? a = some v) : L.length = 0 ∨ ∃ g, ao = some ⟨g, 0, none⟩ ∧ ∀ i (h : i < L.length), W'.cell? ⟨g, i * 2, none⟩ = some (.string L[i].1) ∧ W'.cell? ⟨g, i * 2 + 1, none⟩ = some (.int .i64 (L[i].2 : Int)) := by
  rcases h with h | ⟨g, e, hc⟩
  · exact .inl h
  · exact .inr ⟨g, e, fun i hi => ⟨k _ _ (hc i hi).1, k _ _ (hc i hi).2⟩⟩
theorem grown_none {V V' : World} (hb : Below V.heap.size V V') : V.grownBy V' none := ⟨hb.os, hb.tape, hb.output, hb.size, fun k hk _ => hb.block k hk⟩
theorem cells_alloc (V : World) (o : Obj) : ∀ (a : Addr) (v : Value), V.cell? a = some v → (V.alloc o).cell? a = some v := fun _ _ h => cell_kept h ((Below.refl _ V).alloc (Nat.le_refl _) o)
set_option maxRecDepth 100000 in
set_option maxHeartbeats 2000000 in
theorem asked1 (n : Nat) (hn : 1 ≤ n) (l Bn n₀ : Nat) (p : Pg) (a b c : Value) (J Jx : List ByteArray → World → Prop) (W0 W : World) (hW0 : n₀ = W0.heap.size) (hW : Below n₀ W0 W) (hP : PgAt W0 p a b c) (hC : ∀ f ∈ p.flows, chk f.body = true)
    (hA : AbidesFrom W.heap.size J)
    (hY : ∀ pre x W, J pre W → pre ++ [x] <+: askedL p → YieldAt Fence.wide (n - 1) Tryd.prog l #[.string x] W fun e W' =>
      (e = .returned (.bool true) ∧ J (pre ++ [x]) W' ∧ KpA n₀ W W') ∨ (e = .returned (.bool false) ∧ Jx (pre ++ [x]) W'))
    (hBx : W.heap[Bn]? = some (.cells (pgC p a b c) 26 (0, 0))) (h0 : J [] W) :
    CallsIn Fence.wide n Tryd.prog 43 #[.func (.yield l) #[] #[], .pointer (some ⟨Bn, 0, none⟩)] W fun e W' => (∃ v, e = .returned v) ∧
      ((∃ ys, ys = askedL p ∧ J ys W') ∨ (∃ pre, pre <+: askedL p ∧ Jx pre W')) := by
  have h15 : Fence.wide.fn 29 := trivial
  subst hW0
  obtain ⟨bo, cbp, sl, rfl, hlen2, _, _, hc2, hs2⟩ := hP.flows
  have HS2 := hid hs2
  have HC2 := hid hc2
  have HCH := hid hC
  clear hc2 hs2 hP hC
  have x2 : W.cell? ⟨Bn, 2, none⟩ = some (.slice bo p.flows.length cbp) := by rw [cell_of_row _ _ _ _ 26 (0, 0) hBx]; rfl
  have AL : ∀ (s : List ByteArray) (V V' : World), J s V → Below V.heap.size V V' → J s V' := fun s V V' h hb => hA s V _ none h (grown_none hb) (fun r e => by cases e)
  clear hBx hA
  refine callsIn_of_wp Tryd.func43 rfl trivial ?_ rfl
  simp only [Tryd.ntmps43, List.size_toArray, List.length_cons, List.length_nil, Nat.reduceAdd, Nat.reduceSub, Array.replicate_succ, Array.replicate_zero, List.push_toArray, List.append_toArray, List.nil_append, List.cons_append]
  gi_wp2
  gi_loopw [10] (fun i wr => ∃ k : Nat, k ≤ p.flows.length ∧ i = .int .i64 (k : Int) ∧ Hid (J (asksN p k) wr) ∧ Hid (Below W0.heap.size W0 wr)) (fun i wr => p.flows.length - (intOf i).toNat)
  case atStart => exact ⟨0, Nat.zero_le _, rfl, hid h0, hid hW⟩
  case round =>
    obtain ⟨j, hj, rfl, hJ, hB⟩ := hrel
    by_cases hjl : j < p.flows.length
    · have hjl' : (j : Int) < (p.flows.length : Int) := by omega
      have hj0 : (0 : Int) ≤ (j : Int) := by omega
      obtain ⟨b2, o2, rfl, hcc⟩ := HC2.out.resolve_left (by omega)
      have X := (hcc j hjl).keep hB.out
      have hSt := (HS2.out j hjl).keep hB.out
      obtain ⟨a3, c3, _, e3, _⟩ := (HS2.out j hjl).out
      rw [e3] at X hSt
      have HSU := hid (asksN_succ p j hjl)
      have hnm := chk_nm (HCH.out _ (List.getElem_mem hjl))
      have HPX := hid (asksN_prefix p (j + 1))
      clear hcc e3
      obtain ⟨v0, v1, v2, v3, v4, v5, v6, v7⟩ := X
      generalize p.flows[j] = y at *
      have hBa := (Below.refl wr.heap.size wr).alloc (Nat.le_refl _) (.cells #[.string y.name, .int .u8 (y.ty : Int), .int .i64 y.st, .int .i64 y.df, .int .u8 (y.body.op : Int), .int .i64 y.body.n, .string y.body.name, .slice a3 y.body.args.length c3] 51)
      have c15 := (callsIn_wide (n := n - 1)).2 (refs 32 y.body _ _ (hSt.keep hBa) hnm.1 (by omega) (by omega))
      have HL : Hid ((gat 32 y.body 0 []).map (·.1) = asksOf y) := hid rfl
      have HBA := hid hBa
      have hLl : (gat 32 y.body 0 []).length ≤ 1000000 := by have h1 := gat_len 32 y.body 0 []; have h2 := hnm.2; simp at h1; omega
      clear hSt hnm hBa
      generalize gat 32 y.body 0 [] = L at *
      gi_wp2_with (gi_at_call 29; refine c15.mono ?_; rintro e w2 ⟨v, rfl, hrow, hb2⟩; obtain ⟨ao, cap, rfl, hrf⟩ := RfAt.of_own hrow; have HRF := hid hrf; have HB2 := hid hb2; clear hrow hrf hb2 c15)
      gi_loopw [18] (fun i wr => ∃ m : Nat, m ≤ L.length ∧ i = .int .i64 (m : Int) ∧ Hid (J (asksN p j ++ (L.take m).map (·.1)) wr) ∧ Hid (Below W0.heap.size W0 wr) ∧ Hid (L.length = 0 ∨ ∃ g, ao = some ⟨g, 0, none⟩ ∧ ∀ i (h : i < L.length), wr.cell? ⟨g, i * 2, none⟩ = some (.string L[i].1) ∧ wr.cell? ⟨g, i * 2 + 1, none⟩ = some (.int .i64 (L[i].2 : Int)))) (fun i wr => L.length - (intOf i).toNat)
      case atStart => exact ⟨0, Nat.zero_le _, rfl, hid (by rw [List.take_zero, List.map_nil, List.append_nil]; exact AL _ _ _ (AL _ _ _ hJ.out HBA.out) HB2.out), hid ((hB.out.trans (HBA.out.mono hB.out.size)).trans (HB2.out.mono (Nat.le_trans hB.out.size HBA.out.size))), HRF⟩
      case round =>
        obtain ⟨m, hm, rfl, hJ2, hB3, hRF⟩ := hrel
        by_cases hml : m < L.length
        · have hml' : (m : Int) < (L.length : Int) := by omega
          have hm0 : (0 : Int) ≤ (m : Int) := by omega
          obtain ⟨g, rfl, hcc⟩ := hRF.out.resolve_left (by omega)
          obtain ⟨u0, u1⟩ := hcc m hml
          have HSM : Hid ((L.take (m + 1)).map (·.1) = (L.take m).map (·.1) ++ [L[m].1]) := hid (by rw [List.take_succ_eq_append_getElem hml, List.map_append]; rfl)
          have HPM : Hid (asksN p j ++ ((L.take m).map (·.1) ++ [L[m].1]) <+: askedL p) := hid (by
            refine List.IsPrefix.trans ?_ HPX.out
            rw [HSU.out, ← HL.out, ← HSM.out, List.map_take]
            exact (List.prefix_append_right_inj _).2 (List.take_prefix _ _))
          obtain ⟨fn, tmps, assign, body, hy, hR⟩ := hY (asksN p j ++ (L.take m).map (·.1)) L[m].1 (wr.alloc (.cells #[.string L[m].1, .int .i64 (L[m].2 : Int)] 78)) (AL _ _ _ hJ2.out ((Below.refl _ _).alloc (Nat.le_refl _) _)) (by rw [List.append_assoc]; exact HPM.out)
          clear hcc
          generalize L[m] = z at *
          gi_wp2
          refine hR.mono ?_
          rintro e W3 (⟨rfl, hJ3, hk3⟩ | ⟨rfl, hJx3⟩)
          · gi_wp2
            go_roundw
            case rel => exact ⟨m + 1, by omega, by go_num, hid (by rw [HSM.out, ← List.append_assoc]; exact hJ3), hid ((hB3.out.alloc hB3.out.size _).trans hk3.1), hid (RfAt.kept hRF.out (fun a v e => hk3.2 a v (cells_alloc _ _ a v e)))⟩
            case measure => simp [intOf]; omega
          · gi_wp2
            refine bodyPost_ret (results_none rfl _ _ _) rfl ?_
            exact ⟨⟨_, rfl⟩, .inr ⟨_, by rw [List.append_assoc]; exact HPM.out, hJx3⟩⟩
        · have hml' : ¬ (m : Int) < (L.length : Int) := by omega
          gi_wp2
          go_roundw
          case rel => exact ⟨j + 1, by omega, by go_num, hid (by rw [HSU.out, ← HL.out]; have := hJ2.out; rw [List.take_of_length_le (by omega)] at this; exact this), hB3⟩
          case measure => simp [intOf]; omega
    · have hjl' : ¬ (j : Int) < (p.flows.length : Int) := by omega
      gi_wp2
      go_end0
      refine ⟨⟨_, rfl⟩, .inl ?_⟩
      have := hJ.out
      unfold asksN at this
      rw [List.take_of_length_le (by omega)] at this
      exact this
end Go.Proofs.YtjdlmhkfaodkgaaDoor.Lex
namespace Go.Proofs.YtjdlmhkfaodkgaaDoor.Lex
open Go.ChangeShapes Go.WideShapes Go.ChangeAt Go.RowKit Go.Shelf
attribute [local go_sem] Oper.semAt_some
/-- A name that is a string. -/
abbrev Ts := { s : ByteArray // s.size ≤ 140737488355328 }
theorem gat_small : ∀ (k : Nat) (x : Ex) (ago : Nat) (acc : List Rf), NmOk k x → (∀ r ∈ acc, r.1.size ≤ 65536) → ∀ r ∈ gat k x ago acc, r.1.size ≤ 65536
  | 0, x, ago, acc, _, h => h
  | k + 1, x, ago, acc, hn, h => by
    rw [gat]
    have h1 : ∀ r ∈ ownRefs x ago acc, r.1.size ≤ 65536 := by
      unfold ownRefs addR
      split
      · split
        · exact h
        · intro r hr
          rcases List.mem_append.1 hr with hr | hr
          · exact h r hr
          · simp only [List.mem_singleton] at hr
            subst hr
            exact hn.1
      · exact h
    have h2 : ∀ (l : List Ex) (acc : List Rf), (∀ y ∈ l, NmOk k y) → (∀ r ∈ acc, r.1.size ≤ 65536) → ∀ r ∈ l.foldl (fun acc y => gat k y (nextAgo x ago) acc) acc, r.1.size ≤ 65536 := by
      intro l
      induction l with
      | nil => intro acc _ h; exact h
      | cons y l ih =>
        intro acc hl h
        rw [List.foldl_cons]
        exact ih _ (fun z hz => hl z (List.mem_cons_of_mem _ hz)) (gat_small k y _ acc (hl y (by simp)) h)
    exact h2 x.args _ hn.2 h1
theorem asked_size {p : Pg} (hC : ∀ f ∈ p.flows, chk f.body = true) : ∀ s ∈ askedL p, s.size ≤ 140737488355328 := fun s hs => by
  unfold askedL at hs
  obtain ⟨f, hf, hs⟩ := List.mem_flatMap.1 hs
  obtain ⟨r, hr, rfl⟩ := List.mem_map.1 hs
  have := gat_small 32 f.body 0 [] (chk_nm (hC f hf)).1 (by simp) r hr
  omega
theorem asked (n : Nat) (p : Pg) (a b c : Value) (w : World) :
    CallsIn Fence.wide n Tryd.prog 24 #[pgV p a b c] w fun e w' => e = .returned (.func (.func 43) #[] #[.pointer (some ⟨w.heap.size, 0, none⟩)]) ∧ w' = w.alloc (.cells (pgC p a b c) 26) := by
  refine callsIn_of_wp Tryd.func24 rfl trivial ?_ rfl
  simp only [Tryd.ntmps24, List.size_toArray, List.length_cons, List.length_nil, Nat.reduceAdd, Nat.reduceSub, Array.replicate_succ, Array.replicate_zero, List.push_toArray, List.append_toArray, List.nil_append, List.cons_append]
  gi_wp2
  go_ret
  exact ⟨rfl, rfl⟩
/-- What it hands back goes through the names. -/
theorem asked_stops (n : Nat) (hn : 1 ≤ n) (Bn : Nat) (p : Pg) (a b c : Value) (w0 w : World) (hP : PgAt w0 p a b c) (hC : ∀ f ∈ p.flows, chk f.body = true) (hb : Below w0.heap.size w0 w) (hBx : w.heap[Bn]? = some (.cells (pgC p a b c) 26 (0, 0))) :
    SeqStopsK Fence.wide n Tryd.prog 43 #[.pointer (some ⟨Bn, 0, none⟩)] (fun x : Ts => #[.string x.1]) (KpA w0.heap.size) (fun ys => ys.map (·.1) = askedL p) (fun pre => pre.map (·.1) <+: askedL p) (askedL p).length w := fun l J Jx W hW hA _ hY h0 => by
  have hsz := asked_size hC
  refine (asked1 n hn l Bn w0.heap.size p a b c (fun pre V => ∃ q : List Ts, q.map (·.1) = pre ∧ J q V) (fun pre V => ∃ q : List Ts, q.map (·.1) = pre ∧ Jx q V) w0 W rfl (hb.trans (hW.mono hb.size)) hP hC ?_ ?_ ((hW.block Bn (Array.getElem?_eq_some_iff.1 hBx).1).trans hBx) ⟨[], rfl, h0⟩).mono ?_
  · rintro s V V' row ⟨q, e, hJ⟩ hg hr
    exact ⟨q, e, hA q V V' row hJ hg hr⟩
  · rintro pre x V ⟨q, rfl, hJ⟩ hpre
    have hx : x ∈ askedL p := hpre.subset (by simp)
    have hlen : q.length < (askedL p).length := by have := hpre.length_le; simp at this; omega
    refine (hY q ⟨x, hsz x hx⟩ V hJ hlen).mono ?_
    rintro e V' (⟨rfl, h1, h2⟩ | ⟨rfl, h1⟩)
    · exact .inl ⟨rfl, ⟨q ++ [⟨x, hsz x hx⟩], by simp, h1⟩, h2⟩
    · exact .inr ⟨rfl, ⟨q ++ [⟨x, hsz x hx⟩], by simp, h1⟩⟩
  · rintro e V' ⟨hv, ⟨ys, rfl, q, e1, hJ⟩ | ⟨pre, hp, q, rfl, hJ⟩⟩
    · exact ⟨hv, .inl ⟨q, e1, hJ⟩⟩
    · exact ⟨hv, .inr ⟨q, hp, hJ⟩⟩
end Go.Proofs.YtjdlmhkfaodkgaaDoor.Lex
namespace Go.Proofs.YtjdlmhkfaodkgaaDoor.Lex
open Go.ChangeShapes Go.WideShapes Go.ChangeAt Go.RowKit Go.Joins
def inR (n m : Int) : Bool := decide (1 ≤ n) && decide (n ≤ m)
def hdOk (x : Hd) (st : Int) : Bool := isName x.name && ((x.ty == 1 || x.ty == 2) && inR x.st st)
def flOk (x : Fl) (st : Int) : Bool := hdOk x.hd st && (!(x.df == -9223372036854775808) && chk x.body)
def roomOk (p : Pg) : Bool := decide (p.ins.length ≤ 64) && (decide (p.flows.length ≤ 128) && decide (p.outs.length ≤ p.ins.length + p.flows.length))
/-- A program may be. -/
def pgOk (p : Pg) : Bool := (inR p.st 8 && roomOk p) && (p.ins.all (fun x => hdOk x p.st) && (p.flows.all (fun x => flOk x p.st) && p.outs.all isName))
theorem in_range (n m : Int) (w : World) : Calls Tryd.prog 36 #[.int .i64 n, .int .i64 m] w fun e w' => e = .returned (.bool (inR n m)) ∧ w' = w := by
  unfold inR
  by_cases h1 : 1 ≤ n
  · by_cases h2 : n ≤ m
    · rw [decide_eq_true h1, decide_eq_true h2]
      go_enter Tryd.func36, Tryd.ntmps36
      go_wp2
      go_ret
      exact ⟨rfl, rfl⟩
    · rw [decide_eq_true h1, decide_eq_false h2]
      go_enter Tryd.func36, Tryd.ntmps36
      go_wp2
      go_ret
      exact ⟨rfl, rfl⟩
  · rw [decide_eq_false h1]
    go_enter Tryd.func36, Tryd.ntmps36
    go_wp2
    go_ret
    exact ⟨rfl, rfl⟩
set_option maxRecDepth 100000 in
theorem has_room (p : Pg) (w : World) (a b c : Value) (hP : PgAt w p a b c) : Calls Tryd.prog 37 #[pgV p a b c] w fun e w' => e = .returned (.bool (roomOk p)) ∧ Below w.heap.size w w' := by
  obtain ⟨a0, a1, rfl, hl1, _⟩ := hP.ins
  obtain ⟨b0, b1, _, rfl, hl2, _⟩ := hP.flows
  obtain ⟨c0, c1, rfl, hl3, _⟩ := hP.outs
  have B0 := hid ((Below.refl w.heap.size w).alloc (Nat.le_refl _) (.cells (pgC p (.slice a0 p.ins.length a1) (.slice b0 p.flows.length b1) (.slice c0 p.outs.length c1)) 26))
  clear hP
  unfold roomOk
  by_cases h1 : p.ins.length ≤ 64
  · have h1' : (p.ins.length : Int) ≤ 64 := by omega
    by_cases h2 : p.flows.length ≤ 128
    · have h2' : (p.flows.length : Int) ≤ 128 := by omega
      by_cases h3 : p.outs.length ≤ p.ins.length + p.flows.length
      · have h3' : (p.outs.length : Int) ≤ (p.ins.length : Int) + (p.flows.length : Int) := by omega
        rw [decide_eq_true h1, decide_eq_true h2, decide_eq_true h3]
        go_enter Tryd.func37, Tryd.ntmps37
        go_wp2
        go_ret
        exact ⟨rfl, B0.out⟩
      · have h3' : ¬ (p.outs.length : Int) ≤ (p.ins.length : Int) + (p.flows.length : Int) := by omega
        rw [decide_eq_true h1, decide_eq_true h2, decide_eq_false h3]
        go_enter Tryd.func37, Tryd.ntmps37
        go_wp2
        go_ret
        exact ⟨rfl, B0.out⟩
    · have h2' : ¬ (p.flows.length : Int) ≤ 128 := by omega
      rw [decide_eq_true h1, decide_eq_false h2]
      go_enter Tryd.func37, Tryd.ntmps37
      go_wp2
      go_ret
      exact ⟨rfl, B0.out⟩
  · have h1' : ¬ (p.ins.length : Int) ≤ 64 := by omega
    rw [decide_eq_false h1]
    go_enter Tryd.func37, Tryd.ntmps37
    go_wp2
    go_ret
    exact ⟨rfl, B0.out⟩
set_option maxRecDepth 100000 in
theorem may_stand (x : Hd) (st : Int) (w : World) (hT : TabR w) : Calls Tryd.prog 38 #[hdV x, .int .i64 st] w fun e w' => e = .returned (.bool (hdOk x st)) ∧ Below w.heap.size w w' := by
  have b0 := (Below.refl w.heap.size w).alloc (Nat.le_refl _) (.cells #[.string x.name, .int .u8 (x.ty : Int), .int .i64 x.st] 61)
  have c := name x.name _ (hT.below b0)
  have bx := fun j v => box_at w #[.string x.name, .int .u8 (x.ty : Int), .int .i64 x.st] 61 j v
  have x1 := bx 1 (.int .u8 (x.ty : Int)) rfl
  have x2 := bx 2 (.int .i64 x.st) rfl
  have B0 := hid b0
  clear b0 bx hT
  unfold hdOk
  cases hn : isName x.name with
  | false =>
    rw [hn] at c
    go_enter Tryd.func38, Tryd.ntmps38
    go_wp2_with (go_at_call 41; refine c.mono ?_; rintro e w1 ⟨rfl, hb1⟩; have B1 := hid (bstep B0.out hb1); clear x1 x2 hb1)
    go_ret
    exact ⟨rfl, B1.out⟩
  | true =>
    rw [hn] at c
    by_cases h1 : x.ty = 1
    · have e1 : ((x.ty : Int) == 1) = true := by simp; omega
      have e1' : (x.ty == 1) = true := by simp [h1]
      rw [e1']
      clear h1 e1'
      go_enter Tryd.func38, Tryd.ntmps38
      go_wp2_with (first
        | (go_at_call 41; refine c.mono ?_; rintro e w1 ⟨rfl, hb1⟩; have y1 := cell_kept x1 hb1; have y2 := cell_kept x2 hb1; have B1 := hid (bstep B0.out hb1); clear x1 x2 hb1)
        | (go_at_call 36; refine (in_range x.st st _).mono ?_; rintro e w2 ⟨rfl, rfl⟩))
      go_ret
      exact ⟨rfl, B1.out⟩
    · by_cases h2 : x.ty = 2
      · have e1 : ((x.ty : Int) == 1) = false := by simp; omega
        have e2 : ((x.ty : Int) == 2) = true := by simp; omega
        have e1' : (x.ty == 1) = false := by simp [h1]
        have e2' : (x.ty == 2) = true := by simp [h2]
        rw [e1', e2']
        clear h1 h2 e1' e2'
        go_enter Tryd.func38, Tryd.ntmps38
        go_wp2_with (first
          | (go_at_call 41; refine c.mono ?_; rintro e w1 ⟨rfl, hb1⟩; have y1 := cell_kept x1 hb1; have y2 := cell_kept x2 hb1; have B1 := hid (bstep B0.out hb1); clear x1 x2 hb1)
          | (go_at_call 36; refine (in_range x.st st _).mono ?_; rintro e w2 ⟨rfl, rfl⟩))
        go_ret
        exact ⟨rfl, B1.out⟩
      · have e1 : ((x.ty : Int) == 1) = false := by simp; omega
        have e2 : ((x.ty : Int) == 2) = false := by simp; omega
        have e1' : (x.ty == 1) = false := by simp [h1]
        have e2' : (x.ty == 2) = false := by simp [h2]
        rw [e1', e2']
        clear h1 h2 e1' e2'
        go_enter Tryd.func38, Tryd.ntmps38
        go_wp2_with (go_at_call 41; refine c.mono ?_; rintro e w1 ⟨rfl, hb1⟩; have y1 := cell_kept x1 hb1; have y2 := cell_kept x2 hb1; have B1 := hid (bstep B0.out hb1); clear x1 x2 hb1)
        go_ret
        exact ⟨rfl, B1.out⟩
theorem two_box (w : World) (c d : Array Value) (t u : TypeId) : ((w.alloc (.cells c t)).alloc (.cells d u)).heap[w.heap.size + 1]? = some (.cells d u (0, 0)) := by
  have := heap_alloc_new (w.alloc (.cells c t)) (.cells d u)
  rwa [World.size_alloc] at this
theorem info37 : (Tryd.prog.info? 61).map (·.size) = some 3 := by kernel_rfl
set_option maxRecDepth 100000 in
theorem head_of (x : Fl) (w : World) (s : Value) (hs : ∃ ao n cap, s = .slice ao n cap) : Calls Tryd.prog 39 #[flV x s] w fun e w' => e = .returned (hdV x.hd) ∧ Below w.heap.size w w' := by
  obtain ⟨ao, n, cap, rfl⟩ := hs
  go_enter Tryd.func39, Tryd.ntmps39
  go_wp2
  exact bodyPost_ret (results_cell_row rfl _ _ (w.heap.size + 1) 61 #[.string x.name, .int .u8 (x.ty : Int), .int .i64 x.st] (0, 0) _ rfl (two_box _ _ _ _ _) Tryd.underlying61 rfl info37) rfl ⟨rfl, bstep ((Below.refl _ _).alloc (Nat.le_refl _) _) ((Below.refl _ _).alloc (Nat.le_refl _) _)⟩
end Go.Proofs.YtjdlmhkfaodkgaaDoor.Lex
