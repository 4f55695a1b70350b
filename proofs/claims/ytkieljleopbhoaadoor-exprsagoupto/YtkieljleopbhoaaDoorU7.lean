/-
  What has been asked for, counted in a map.
  One more is counted.
  What is asked for, as it is come to: plain mathematics, and what holds while it is gathered.
  What is asked for, gathered: the contract of the closure of Refs.
  What is asked for: the contract of Refs.
  Whether two lists of what is asked for are the same: the contract of SameRefs, where they are.
  Some answers that the document fixes: closed facts of the plain functions.
-/
import Derived.Test.YtkieljleopbhoaaDoorU3
import Derived.Test.YtkieljleopbhoaaDoorU6
import Derived.Deep.Cut
import Derived.Test.YtkieljleopbhoaaDoorU5
import Derived.Laws.EntriesVeiled
import Derived.BigQuiet
namespace Go.Proofs.YtkieljleopbhoaaDoor.Lex
open Go.ChangeShapes Go.WideShapes Go.ChangeAt Go.RowKit Go.Joins Go.WideMaps Go.WideElems Go.Maps
/-- What is asked for: a name, and how long ago. -/
abbrev Rf := ByteArray × Nat
theorem row51 : (51 : TypeId) < Tryd.prog.types.size := of_decide_eq_true (by kernel_rfl)
theorem wide51 : (match Tryd.prog.underlying 51 with | some (.array _ _) | some (.struct _) => true | _ => false) = true := by kernel_rfl
theorem deep51 : Tryd.prog.keyTypeAt 3 51 = true := by kernel_rfl
set_option maxRecDepth 100000 in
theorem keyed51 : Keyed Tryd.prog 51 := Keyed.of_law (deep_law_laid laidOut (m := 3) (by omega) row51 deep51 wide51)
theorem keyT51 : Tryd.prog.keyType 51 = true := by kernel_rfl
theorem cells51 : Tryd.prog.cellsOf 51 = 2 := by kernel_rfl
theorem cells3 : Tryd.prog.cellsOf 3 = 1 := by kernel_rfl
abbrev rV (r : Rf) : Array Value := #[.string r.1, .int .i64 (r.2 : Int)]
abbrev rKey (r : Rf) : Value := .agg (rV r)
/-- One that may be. -/
def RfOk (r : Rf) : Prop := r.1.size ≤ 65536 ∧ r.2 ≤ 1099511627776
theorem lits3 (n : Nat) (k : Nat) (hk : k ≤ 1099511627776) : Tryd.prog.keyLits (n + 1) 3 [.int .i64 (k : Int)] = some [.int .i64 (k : Int)] := by
  have hwf : (Lit.int .i64 (k : Int)).wf = true := by simp [Lit.wf, IntKind.min, IntKind.max, IntKind.signed, IntKind.bits]; omega
  unfold Program.keyLits
  rw [Tryd.underlying3]
  simp [hwf]
theorem rKey_is {r : Rf} (h : RfOk r) : ∃ l, keyOf Tryd.prog 51 (rKey r) = some l := by
  obtain ⟨n, hn⟩ := size_types
  have hf : (rKey r).formed Tryd.prog 51 = true := by simp [Value.formed, Tryd.underlying51, cells51]
  have h3 := lits3 n r.2 h.2
  have h9 := lits9 n r.1 (by have := h.1; unfold maxLen; omega)
  unfold keyOf
  rw [hn, Tryd.underlying51]
  simp only [keyT51, hf]
  unfold Program.keyLits
  rw [Tryd.underlying51]
  simp [Value.cells, cells51, cells3, cells9, h3, h9]
theorem rKey_inj {r q : Rf} (h : rKey r = rKey q) : r = q := by
  unfold rKey at h
  injection h with h
  simp only [Array.mk.injEq, List.cons.injEq, Value.int.injEq, Value.string.injEq, and_true, true_and] at h
  exact Prod.ext h.1 (by omega)
theorem zero3 (w : World) : (zeroValue 3).run Tryd.prog w = .ok (.int .i64 0) w := by kernel_rfl
/-- The map counts what is in a list. -/
def SeenM (acc : List Rf) (N mb : Nat) (w : World) : Prop := ∃ es clock, w.heap[mb]? = some (.map es clock) ∧ Fit Tryd.prog 51 RA es clock ∧ es.size ≤ N ∧
  (∀ x ∈ es.toList, ∃ r, r ∈ acc ∧ x.key = rKey r ∧ ∃ c : Nat, 1 ≤ c ∧ c ≤ N ∧ x.val = .int .i64 (c : Int)) ∧ ∀ r ∈ acc, ∃ x ∈ es.toList, x.key = rKey r
theorem SeenM.kept {acc : List Rf} {N mb : Nat} {w W : World} (h : SeenM acc N mb w) (hb : mb < w.heap.size → W.heap[mb]? = w.heap[mb]?) : SeenM acc N mb W := by
  obtain ⟨es, clock, e1, e2⟩ := h
  exact ⟨es, clock, (hb (Array.getElem?_eq_some_iff.1 e1).1).trans e1, e2⟩
theorem SeenM.none (mb : Nat) (w : World) (h : w.heap[mb]? = some (.map #[] 0)) : SeenM [] 0 mb w :=
  ⟨#[], 0, h, ⟨by simp, ⟨fun _ h => by simp at h, by simp, by simp⟩, fun _ h => by simp at h⟩, by simp, fun _ h => by simp at h, fun _ h => by cases h⟩
theorem look_one {es : Array MapEntry} {clock mb : Nat} {w : World} (hb : w.heap[mb]? = some (.map es clock)) (F : Fit (H := Unit) Tryd.prog 51 RA es clock) {r : Rf} (hr : RfOk r) {x : MapEntry} (hx : x ∈ es.toList) (hk : x.key = rKey r) : (Instr.lookup 74 (.map (some mb)) (rKey r) false).run Tryd.prog w = .ok x.val w := by
  obtain ⟨l, hl⟩ := rKey_is hr
  rcases fit_look false keyed51 Tryd.underlying74 (zero3 w) hb F hl with ⟨_, e2, _⟩ | ⟨e0, y, e1, e2, e3, _⟩
  · exact (e2 x hx hk).elim
  · have he : e0 = x := by
      obtain ⟨i, hi, ei⟩ := List.getElem_of_mem e1
      obtain ⟨j, hj, ej⟩ := List.getElem_of_mem hx
      by_cases hij : i = j
      · subst hij; rw [← ei, ← ej]
      · exfalso
        have := other_key F (j := j) (e0 := x) (by rw [List.getElem?_eq_getElem hj, ej]) (i := i) (x := e0) (by rw [List.getElem?_eq_getElem hi, ei]) hij
        exact this (e2.trans hk.symm)
    rw [e3, he]
    rfl
theorem look_none {es : Array MapEntry} {clock mb : Nat} {w : World} (hb : w.heap[mb]? = some (.map es clock)) (F : Fit (H := Unit) Tryd.prog 51 RA es clock) {r : Rf} (hr : RfOk r) (hn : ∀ x ∈ es.toList, x.key ≠ rKey r) : (Instr.lookup 74 (.map (some mb)) (rKey r) false).run Tryd.prog w = .ok (.int .i64 0) w := by
  obtain ⟨l, hl⟩ := rKey_is hr
  rcases fit_look false keyed51 Tryd.underlying74 (zero3 w) hb F hl with ⟨e1, _, _⟩ | ⟨e0, y, e1, e2, e3, _⟩
  · exact e1
  · exact (hn e0 e1 e2).elim
end Go.Proofs.YtkieljleopbhoaaDoor.Lex
namespace Go.Proofs.YtkieljleopbhoaaDoor.Lex
open Go.ChangeShapes Go.WideShapes Go.ChangeAt Go.RowKit Go.Joins Go.WideMaps Go.WideElems Go.Maps
def rIn (acc : List Rf) (r : Rf) : Bool := acc.any fun q => q.1.data.toList == r.1.data.toList && q.2 == r.2
def addR (acc : List Rf) (r : Rf) : List Rf := if rIn acc r then acc else acc ++ [r]
theorem rIn_mem {acc : List Rf} {r : Rf} : rIn acc r = true ↔ r ∈ acc := by
  unfold rIn
  rw [List.any_eq_true]
  constructor
  · rintro ⟨q, hq, e⟩
    simp only [Bool.and_eq_true, beq_iff_eq] at e
    have : q = r := Prod.ext (by
      obtain ⟨⟨⟨l⟩⟩, n⟩ := q
      obtain ⟨⟨⟨l'⟩⟩, n'⟩ := r
      simp only at e ⊢
      rw [e.1]) e.2
    rw [← this]
    exact hq
  · intro h
    exact ⟨r, h, by simp⟩
theorem modify_last {es : Array MapEntry} {x : MapEntry} (f : MapEntry → MapEntry) : (es.push x).modify es.size f = es.push (f x) := by
  apply Array.ext
  · simp
  · intro i h1 h2
    have hi : i < es.size + 1 := by simpa using h2
    by_cases e : es.size = i
    · subst e
      rw [Array.getElem_modify_self]
      simp
    · rw [Array.getElem_modify_of_ne e, Array.getElem_push_lt (by omega), Array.getElem_push_lt (by omega)]
theorem find_last {es : Array MapEntry} {x : MapEntry} {p : MapEntry → Bool} (h1 : ∀ e ∈ es.toList, p e = false) (h2 : p x = true) : (es.push x).findIdx? p = some es.size := by
  rw [Array.findIdx?_eq_some_iff_getElem]
  refine ⟨by simp, by simpa using h2, fun j hj => ?_⟩
  rw [Array.getElem_push_lt hj]
  have := h1 es[j] (by simp)
  simp [this]
theorem born_at {es : Array MapEntry} {j : Nat} {e0 : MapEntry} (h : es.toList[j]? = some e0) (hn : (es.toList.map (·.born)).Nodup) : es.findIdx? (fun e => (e.born : Int) == (e0.born : Int)) = some j := by
  obtain ⟨hj, ej⟩ := List.getElem?_eq_some_iff.1 h
  have hj' : j < es.size := by simpa using hj
  rw [Array.findIdx?_eq_some_iff_getElem]
  refine ⟨hj', ?_, fun i hi => ?_⟩
  · have : es[j] = e0 := by simpa using ej
    simp [this]
  · have hne := (List.pairwise_iff_getElem.1 hn) i j (by simp; omega) (by simp; omega) hi
    simp only [List.getElem_map, ej] at hne
    simp only [Array.getElem_toList] at hne
    simp
    omega
theorem modify_same {es : Array MapEntry} {j : Nat} {e0 : MapEntry} (h : es.toList[j]? = some e0) (f : MapEntry → MapEntry) (hf : f e0 = e0) : es.modify j f = es := by
  obtain ⟨hj, ej⟩ := List.getElem?_eq_some_iff.1 h
  apply Array.ext
  · simp
  · intro i h1 h2
    by_cases e : j = i
    · subst e
      rw [Array.getElem_modify_self]
      have : es[j] = e0 := by simpa using ej
      rw [this, hf]
    · rw [Array.getElem_modify_of_ne e]
theorem heap_block {w : World} {b : Nat} {o : Obj} (h : b < w.heap.size) : (ChangeMaps.setBlock w b o).heap[b]? = some o := by
  simp [ChangeMaps.setBlock, h]
set_option maxRecDepth 100000 in
theorem SeenM.bump {acc : List Rf} {N mb : Nat} {w : World} (h : SeenM acc N mb w) (hN : N < 1099511627776) {r : Rf} (hr : RfOk r) : ∃ (c : Nat) (W1 W2 : World) (born : Nat), c ≤ N ∧ (c = 0 ↔ rIn acc r = false) ∧ (Instr.lookup 74 (.map (some mb)) (rKey r) false).run Tryd.prog w = .ok (.int .i64 (c : Int)) w ∧
    (Instr.mapEntry 74 (.map (some mb)) (rKey r)).run Tryd.prog w = .ok (.tuple #[.int .i64 (c : Int), .int .i64 (born : Int)]) W1 ∧ (Instr.lookup 74 (.map (some mb)) (rKey r) false).run Tryd.prog W1 = .ok (.int .i64 (c : Int)) W1 ∧
    (Instr.entryStore 74 (.map (some mb)) (.int .i64 (born : Int)) (.int .i64 ((c : Int) + 1))).run Tryd.prog W1 = .ok () W2 ∧ (Instr.lookup 74 (.map (some mb)) (rKey r) false).run Tryd.prog W2 = .ok (.int .i64 ((c : Int) + 1)) W2 ∧ SeenM (addR acc r) (N + 1) mb W2 ∧ w.grownBy W1 (some mb) ∧ W1.grownBy W2 (some mb) := by
  obtain ⟨es, clock, hh, F, hs, h1, h2⟩ := h
  obtain ⟨l, hl⟩ := rKey_is hr
  have hlt := (Array.getElem?_eq_some_iff.1 hh).1
  cases hin : rIn acc r with
  | false =>
    have hno : ∀ x ∈ es.toList, x.key ≠ rKey r := fun x hx e => by
      obtain ⟨q, hq, ek, _⟩ := h1 x hx
      have e2 := rKey_inj (ek.symm.trans e)
      rw [e2, ← rIn_mem, hin] at hq
      cases hq
    have fitP : ∀ v, Fit (H := Unit) Tryd.prog 51 RA (es.push ⟨rKey r, v, clock⟩) (clock + 1) := fun v => ⟨by simp; unfold maxLen; omega, MapKept.stamped_push F.stamped hno, fun x hx => by
      simp only [Array.toList_push, List.mem_append, List.mem_singleton] at hx
      rcases hx with hx | rfl
      · exact F.reads x hx
      · exact ⟨_, rd_mk hl rfl⟩⟩
    have hh1 : (ChangeMaps.setBlock w mb (.map (es.push ⟨rKey r, .int .i64 0, clock⟩) (clock + 1))).heap[mb]? = some (.map (es.push ⟨rKey r, .int .i64 0, clock⟩) (clock + 1)) := heap_block hlt
    have hlt1 := (Array.getElem?_eq_some_iff.1 hh1).1
    have hh2 : (ChangeMaps.setBlock (ChangeMaps.setBlock w mb (.map (es.push ⟨rKey r, .int .i64 0, clock⟩) (clock + 1))) mb (.map (es.push ⟨rKey r, .int .i64 1, clock⟩) (clock + 1))).heap[mb]? = some (.map (es.push ⟨rKey r, .int .i64 1, clock⟩) (clock + 1)) := heap_block hlt1
    refine ⟨0, _, _, clock, Nat.zero_le _, by simp, look_none hh F hr hno, ?_, look_one hh1 (fitP _) hr (x := ⟨rKey r, .int .i64 0, clock⟩) (by simp) rfl, ?_, look_one hh2 (fitP _) hr (x := ⟨rKey r, .int .i64 1, clock⟩) (by simp) rfl, ⟨_, _, hh2, fitP _, by simp; omega, ?_, ?_⟩, grown_setBlock _, grown_setBlock _⟩
    · rcases keyed51.find w hl es.toList F.keys with ⟨f1, _⟩ | ⟨j, e, _, f2, f3⟩
      · simp [Instr.mapEntry, run_underlying Tryd.underlying74, MapKept.run_getObj_map hh, keyed51.check w false hl, f1, MapKept.run_setObj_map _ hh, Result.andThen, ChangeMaps.setBlock, goInt]
      · exact (hno e (List.mem_of_getElem? f2) f3).elim
    · have hf := find_last (es := es) (x := ⟨rKey r, .int .i64 0, clock⟩) (p := fun e => (e.born : Int) == (clock : Int)) (fun e he => by have := F.stamped.1 e he; simp; omega) (by simp)
      simp [Instr.entryStore, MapKept.run_getObj_map hh1, asInt, asIntOf, hf, MapKept.run_setObj_map _ hh1, Result.andThen, modify_last]
      rfl
    · intro x hx
      simp only [Array.toList_push, List.mem_append, List.mem_singleton] at hx
      unfold addR
      rw [hin]
      rcases hx with hx | rfl
      · obtain ⟨q, hq, ek, c, c1, c2, ev⟩ := h1 x hx
        exact ⟨q, by simp [hq], ek, c, c1, by omega, ev⟩
      · exact ⟨r, by simp, rfl, 1, by omega, by omega, rfl⟩
    · intro q hq
      unfold addR at hq
      rw [hin] at hq
      simp only [Bool.false_eq_true, if_false, List.mem_append, List.mem_singleton] at hq
      simp only [Array.toList_push, List.mem_append, List.mem_singleton]
      rcases hq with hq | rfl
      · obtain ⟨x, hx, ek⟩ := h2 q hq
        exact ⟨x, .inl hx, ek⟩
      · exact ⟨_, .inr rfl, rfl⟩
  | true =>
    obtain ⟨x0, hx0, ek0⟩ := h2 r (rIn_mem.1 hin)
    rcases keyed51.find w hl es.toList F.keys with ⟨_, f2⟩ | ⟨j, e0, f1, f2, f3⟩
    · exact (f2 x0 hx0 ek0).elim
    · have he0 := List.mem_of_getElem? f2
      obtain ⟨q, hq, ek, c, c1, c2, ev⟩ := h1 e0 he0
      have hj : es[j]? = some e0 := by simpa using f2
      have hms : es.modify j (fun e => { e with key := rKey r }) = es := modify_same f2 _ (by rw [← f3])
      have hh1 : (ChangeMaps.setBlock w mb (.map es clock)).heap[mb]? = some (.map es clock) := heap_block hlt
      have hlt1 := (Array.getElem?_eq_some_iff.1 hh1).1
      have hh2 : (ChangeMaps.setBlock (ChangeMaps.setBlock w mb (.map es clock)) mb (.map (es.modify j (fun e => { e with val := .int .i64 ((c : Int) + 1) })) clock)).heap[mb]? = some (.map (es.modify j (fun e => { e with val := .int .i64 ((c : Int) + 1) })) clock) := heap_block hlt1
      have hlist : (es.modify j (fun e => { e with val := .int .i64 ((c : Int) + 1) })).toList = es.toList.set j { e0 with val := .int .i64 ((c : Int) + 1) } := by rw [Array.toList_modify, ChangeMaps.modify_eq_set _ _ _ _ f2]
      have hjl : j < es.toList.length := (List.getElem?_eq_some_iff.1 f2).1
      have fit2 : Fit (H := Unit) Tryd.prog 51 RA (es.modify j (fun e => { e with val := .int .i64 ((c : Int) + 1) })) clock := ⟨by simpa using F.size, MapKept.stamped_modify F.stamped _ _ (fun _ _ => rfl) (fun _ _ _ => rfl), fun x hx => by
        rw [hlist] at hx
        rcases List.mem_or_eq_of_mem_set hx with hx | rfl
        · exact F.reads x hx
        · refine ⟨(l, .nil), ?_⟩
          show (keyOf Tryd.prog 51 e0.key).bind _ = _
          rw [f3, hl]
          rfl⟩
      have hmem : ({ e0 with val := .int .i64 ((c : Int) + 1) } : MapEntry) ∈ (es.modify j (fun e => { e with val := .int .i64 ((c : Int) + 1) })).toList := by
        rw [hlist]
        exact List.mem_iff_getElem.2 ⟨j, by simpa using hjl, by simp⟩
      refine ⟨c, _, _, e0.born, c2, ⟨fun e => by omega, fun e => by cases e⟩, by rw [look_one hh F hr he0 f3, ev], ?_, by rw [look_one hh1 F hr he0 f3, ev], ?_, look_one hh2 fit2 hr hmem f3, ⟨_, _, hh2, fit2, by simp; omega, ?_, ?_⟩, grown_setBlock _, grown_setBlock _⟩
      · simp [Instr.mapEntry, run_underlying Tryd.underlying74, MapKept.run_getObj_map hh, keyed51.check w false hl, f1, hj, f3, keyed51.stays w hl, MapKept.run_setObj_map _ hh, Result.andThen, ChangeMaps.setBlock, goInt, hms, ev]
      · have hf := born_at f2 F.stamped.2.1
        simp [Instr.entryStore, MapKept.run_getObj_map hh1, asInt, asIntOf, hf, MapKept.run_setObj_map _ hh1, Result.andThen]
        rfl
      · intro x hx
        unfold addR
        rw [hin, if_pos rfl]
        rw [hlist] at hx
        rcases List.mem_or_eq_of_mem_set hx with hx | rfl
        · obtain ⟨q', hq', ek', c', c1', c2', ev'⟩ := h1 x hx
          exact ⟨q', hq', ek', c', c1', by omega, ev'⟩
        · exact ⟨q, hq, ek, c + 1, by omega, by omega, by simp⟩
      · intro q' hq'
        unfold addR at hq'
        rw [hin, if_pos rfl] at hq'
        obtain ⟨x, hx, ekx⟩ := h2 q' hq'
        obtain ⟨i, hi, ei⟩ := List.getElem_of_mem hx
        by_cases hij : j = i
        · subst hij
          refine ⟨_, hmem, ?_⟩
          have : e0 = x := by rw [List.getElem?_eq_getElem hi, ei] at f2; injection f2 with f2; exact f2.symm
          rw [this]
          exact ekx
        · refine ⟨x, ?_, ekx⟩
          rw [hlist]
          exact List.mem_iff_getElem.2 ⟨i, by simpa using hi, by rw [List.getElem_set_ne hij]; exact ei⟩
end Go.Proofs.YtkieljleopbhoaaDoor.Lex
namespace Go.Proofs.YtkieljleopbhoaaDoor.Lex
open Go.ChangeShapes Go.WideShapes Go.ChangeAt Go.RowKit Go.Joins Go.WideMaps Go.WideElems Go.Maps
def refsV (acc : List Rf) : List Value := acc.flatMap fun r => [.string r.1, .int .i64 (r.2 : Int)]
def nextAgo (x : Ex) (ago : Nat) : Nat := if x.op = 19 then ago + 1 else ago
def ownRefs (x : Ex) (ago : Nat) (acc : List Rf) : List Rf := if x.op = 3 then addR acc (x.name, ago) else acc
/-- What it asks for, looked at so deep. -/
def gat : Nat → Ex → Nat → List Rf → List Rf
  | 0, _, _, acc => acc
  | k + 1, x, ago, acc => x.args.foldl (fun acc y => gat k y (nextAgo x ago) acc) (ownRefs x ago acc)
/-- How many parts it has, itself with them, looked at so deep. -/
def cnt : Nat → Ex → Nat
  | 0, _ => 1
  | k + 1, x => x.args.foldl (fun n y => n + cnt k y) 1
/-- It is no deeper, and its names may be gathered. -/
def NmOk : Nat → Ex → Prop
  | 0, _ => False
  | k + 1, x => x.name.size ≤ 65536 ∧ ∀ y ∈ x.args, NmOk k y
abbrev ptr (b : Nat) : Value := .pointer (some ⟨b, 0, none⟩)
/-- What holds while it is gathered: the map, the list, the closure, in their variables. -/
structure GI (w0 : World) (bs bl bg mb b0 : Nat) (acc accM : List Rf) (N : Nat) (W : World) : Prop where
  below : Below w0.heap.size w0 W
  seen : W.heap[bs]? = some (.cells #[.map (some mb)] 74 (0, 0))
  self : W.heap[bg]? = some (.cells #[.func (.func 37) #[] #[ptr bs, ptr bl, ptr bg]] 75 (0, 0))
  list : ∃ v, W.heap[bl]? = some (.cells #[v] 47 (0, 0)) ∧ W.ownsRow b0 51 2 v acc.length (refsV acc)
  map : SeenM accM N mb W
  few : acc.length ≤ N
  ord : w0.heap.size ≤ bs ∧ w0.heap.size ≤ bl ∧ w0.heap.size ≤ bg ∧ w0.heap.size ≤ mb ∧ bs < b0 ∧ bl < b0 ∧ bg < b0 ∧ mb < b0 ∧ b0 ≤ W.heap.size
  ne : bs ≠ bl ∧ bs ≠ bg ∧ bs ≠ mb ∧ bl ≠ bg ∧ bl ≠ mb ∧ bg ≠ mb
theorem GI.step {w0 W W' : World} {bs bl bg mb b0 N : Nat} {acc accM : List Rf} (h : GI w0 bs bl bg mb b0 acc accM N W) (hb : Below W.heap.size W W') : GI w0 bs bl bg mb b0 acc accM N W' := by
  have k : ∀ {b o}, W.heap[b]? = some o → W'.heap[b]? = some o := fun {b o} e => (hb.block b (Array.getElem?_eq_some_iff.1 e).1).trans e
  obtain ⟨v, l1, l2⟩ := h.list
  obtain ⟨o1, o2, o3, o4, o5, o6, o7, o8, o9⟩ := h.ord
  exact ⟨h.below.trans (hb.mono h.below.size), k h.seen, k h.self, ⟨v, k l1, ownsRow_below l2 hb⟩, h.map.kept fun hl => hb.block mb hl, h.few, ⟨o1, o2, o3, o4, o5, o6, o7, o8, Nat.le_trans o9 hb.size⟩, h.ne⟩
theorem own_kept {w w' : World} {base e size n : Nat} {v : Value} {xs : List Value} {b : Nat} (h : w.ownsRow base e size v n xs) (g : w.grownBy w' (some b)) (hb : b < base) : w'.ownsRow base e size v n xs := by
  refine ⟨h.1, ?_⟩
  rcases h.2 with hn | ⟨g', cap, cur, rfl, hg0, hg, rest⟩
  · exact .inl hn
  · exact .inr ⟨g', cap, cur, rfl, hg0, (g.block g' (Array.getElem?_eq_some_iff.1 hg).1 (fun e => by injection e; omega)).trans hg, rest⟩
/-- The map has turned. -/
theorem GI.count {w0 W W' : World} {bs bl bg mb b0 N N' : Nat} {acc accM accM' : List Rf} (h : GI w0 bs bl bg mb b0 acc accM N W) (g : W.grownBy W' (some mb)) (hm : SeenM accM' N' mb W') (hN : N ≤ N') : GI w0 bs bl bg mb b0 acc accM' N' W' := by
  obtain ⟨n1, n2, n3, n4, n5, n6⟩ := h.ne
  have k : ∀ {b o}, W.heap[b]? = some o → b ≠ mb → W'.heap[b]? = some o := fun {b o} e hne => (g.block b (Array.getElem?_eq_some_iff.1 e).1 (fun e => by injection e; omega)).trans e
  obtain ⟨v, l1, l2⟩ := h.list
  obtain ⟨o1, o2, o3, o4, o5, o6, o7, o8, o9⟩ := h.ord
  refine ⟨h.below.grown g h.below.size (fun k e => by injection e; omega), k h.seen n3, k h.self n6, ⟨v, k l1 n5, own_kept l2 g o8⟩, hm, Nat.le_trans h.few hN, ⟨o1, o2, o3, o4, o5, o6, o7, o8, Nat.le_trans o9 g.size⟩, h.ne⟩
theorem refsV_app (a b : List Rf) : refsV (a ++ b) = refsV a ++ refsV b := by simp [refsV]
/-- The list has grown by one, and is laid in its variable. -/
theorem GI.push {w0 W W' : World} {bs bl bg mb b0 N : Nat} {acc accM : List Rf} {v v' : Value} {r : Rf} (h : GI w0 bs bl bg mb b0 acc accM N W) (hv : W.heap[bl]? = some (.cells #[v] 47 (0, 0))) (hr : W.ownsRow b0 51 2 v acc.length (refsV acc)) (g : W.grownBy W' v.ownBlock) (hr' : W'.ownsRow b0 51 2 v' (acc.length + 1) (refsV acc ++ [.string r.1, .int .i64 (r.2 : Int)])) (hN : acc.length + 1 ≤ N) : W'.heap[bl]? = some (.cells #[v] 47 (0, 0)) ∧ GI w0 bs bl bg mb b0 (acc ++ [r]) accM N (W'.setCell ⟨bl, 0, none⟩ v') := by
  obtain ⟨n1, n2, n3, n4, n5, n6⟩ := h.ne
  obtain ⟨o1, o2, o3, o4, o5, o6, o7, o8, o9⟩ := h.ord
  have hlt := hr.lt
  have hne : ∀ k, k < b0 → some k ≠ v.ownBlock := fun k hk e => by have := (hlt k e.symm).1; omega
  have k : ∀ {b o}, W.heap[b]? = some o → b < b0 → W'.heap[b]? = some o := fun {b o} e hb => (g.block b (Array.getElem?_eq_some_iff.1 e).1 (hne b hb)).trans e
  have far : ∀ b, b ≠ bl → (W'.setCell ⟨bl, 0, none⟩ v').heap[b]? = W'.heap[b]? := fun b hb => Below.heap_setCell _ _ _ _ hb
  have hbl := k hv o6
  refine ⟨hbl, ⟨?_, ?_, ?_, ⟨v', ?_, ?_⟩, ?_, ?_, ⟨o1, o2, o3, o4, o5, o6, o7, o8, ?_⟩, h.ne⟩⟩
  · have b1 := h.below.grown g h.below.size (fun k e => by have := (hlt k e).1; omega)
    exact ⟨b1.os, b1.tape, b1.output, by have := b1.size; simpa [World.setCell] using this, fun k hk => (far k (by omega)).trans (b1.block k hk)⟩
  · rw [far _ n1]; exact k h.seen o5
  · rw [far _ (fun e => n4 e.symm)]; exact k h.self o7
  · rw [set_same' hbl 0 v']; rfl
  · rw [List.length_append, refsV_app]
    rw [show refsV [r] = [.string r.1, .int .i64 (r.2 : Int)] by simp [refsV]]
    refine ⟨hr'.1, ?_⟩
    rcases hr'.2 with hn | ⟨g', cap, cur, e1, hg0, hg, rest⟩
    · exact .inl hn
    · exact .inr ⟨g', cap, cur, e1, hg0, (far g' (by omega)).trans hg, rest⟩
  · exact h.map.kept fun hl => (far mb (fun e => n5 e.symm)).trans (g.block mb hl (hne mb o8))
  · rw [List.length_append]; exact hN
  · have := g.size; simp [World.setCell]; omega
theorem i51 : (Tryd.prog.info? 51).map (fun i => (i.zero, i.size, i.bytes)) = some (some (.agg #[.string ByteArray.empty, .int .i64 0]), 2, 24) := by kernel_rfl
theorem info51 : (Tryd.prog.info? 51).map (·.size) = some 2 := by kernel_rfl
theorem GI.mono {w0 W : World} {bs bl bg mb b0 N N' : Nat} {acc accM : List Rf} (h : GI w0 bs bl bg mb b0 acc accM N W) (hN : N ≤ N') : GI w0 bs bl bg mb b0 acc accM N' W := by
  refine ⟨h.below, h.seen, h.self, h.list, ?_, Nat.le_trans h.few hN, h.ord, h.ne⟩
  obtain ⟨es, clock, e1, e2, e3, e4, e5⟩ := h.map
  exact ⟨es, clock, e1, e2, Nat.le_trans e3 hN, fun x hx => by obtain ⟨r, q1, q2, c, q3, q4, q5⟩ := e4 x hx; exact ⟨r, q1, q2, c, q3, Nat.le_trans q4 hN, q5⟩, e5⟩
end Go.Proofs.YtkieljleopbhoaaDoor.Lex
namespace Go.Proofs.YtkieljleopbhoaaDoor.Lex
open Go.ChangeShapes Go.WideShapes Go.ChangeAt Go.RowKit Go.Joins Go.WideMaps Go.WideElems Go.Maps
def GatC (k : Nat) : Prop := ∀ (x : Ex) (s : Value) (ago : Nat) (w0 W : World) (bs bl bg mb b0 N : Nat) (acc : List Rf), St w0 x s → NmOk k x → ago + k ≤ 1099511627776 → N + cnt k x ≤ 1099511627776 → GI w0 bs bl bg mb b0 acc acc N W →
  Calls Tryd.prog 37 #[exV x s, .int .i64 (ago : Int), ptr bs, ptr bl, ptr bg] W fun e w' => e = .returned (.tuple #[]) ∧ GI w0 bs bl bg mb b0 (gat k x ago acc) (gat k x ago acc) (N + cnt k x) w'
def accAt (k : Nat) (x : Ex) (ago : Nat) (acc : List Rf) (i : Nat) : List Rf := (x.args.take i).foldl (fun acc y => gat k y (nextAgo x ago) acc) (ownRefs x ago acc)
def cntAt (k : Nat) (x : Ex) (i : Nat) : Nat := (x.args.take i).foldl (fun n y => n + cnt k y) 1
theorem accAt_succ {k : Nat} {x : Ex} {ago : Nat} {acc : List Rf} {j : Nat} (h : j < x.args.length) : accAt k x ago acc (j + 1) = gat k x.args[j] (nextAgo x ago) (accAt k x ago acc j) := by
  unfold accAt
  rw [List.take_add_one, List.getElem?_eq_getElem h, Option.toList_some, List.foldl_append]
  rfl
theorem cntAt_succ {k : Nat} {x : Ex} {j : Nat} (h : j < x.args.length) : cntAt k x (j + 1) = cntAt k x j + cnt k x.args[j] := by
  unfold cntAt
  rw [List.take_add_one, List.getElem?_eq_getElem h, Option.toList_some, List.foldl_append]
  rfl
theorem cntAt_le (k : Nat) (x : Ex) : ∀ (n j : Nat), j + n = x.args.length → cntAt k x j ≤ cntAt k x x.args.length
  | 0, j, h => by rw [← h, Nat.add_zero]; exact Nat.le_refl _
  | n + 1, j, h => by
    have h1 := cntAt_le k x n (j + 1) (by omega)
    rw [cntAt_succ (by omega)] at h1
    omega
theorem foldl_ge (f : Ex → Nat) : ∀ (l : List Ex) (n : Nat), n ≤ l.foldl (fun n y => n + f y) n
  | [], _ => Nat.le_refl _
  | a :: l, n => Nat.le_trans (Nat.le_add_right n (f a)) (foldl_ge f l (n + f a))
theorem cnt_pos (k : Nat) (x : Ex) : 1 ≤ cnt k x := by
  cases k with
  | zero => exact Nat.le_refl _
  | succ k => exact foldl_ge (cnt k) x.args 1

theorem nextAgo_le (x : Ex) (ago : Nat) : nextAgo x ago ≤ ago + 1 := by unfold nextAgo; split <;> omega
theorem own_slice {w : World} {base e size n : Nat} {v : Value} {xs : List Value} (h : w.ownsRow base e size v (n + 1) xs) : ∃ g c, v = .slice (some ⟨g, 0, none⟩) (n + 1) c := by
  rcases h.2 with ⟨_, h0⟩ | ⟨g, cap, cur, rfl, _⟩
  · omega
  · exact ⟨g, cap, rfl⟩
theorem inf51 : ∃ ie, Tryd.prog.info? 51 = some ie ∧ ie.zero = some (.agg #[.string ByteArray.empty, .int .i64 0]) ∧ ie.size = 2 := by
  have h : (Tryd.prog.info? 51).map (fun i => (i.zero, i.size)) = some (some (.agg #[.string ByteArray.empty, .int .i64 0]), 2) := by kernel_rfl
  obtain ⟨ie, h1, h2⟩ := Option.map_eq_some_iff.1 h
  injection h2 with h2 h3
  exact ⟨ie, h1, h2, h3⟩
theorem fill51 (r : Rf) : Instr.fill (fun i => some (i * 2, 2)) ((Array.range (1 * 2)).map ((Value.agg #[.string ByteArray.empty, .int .i64 0]).cells[· % (Value.agg #[.string ByteArray.empty, .int .i64 0]).cells.size]!)) [(0, rKey r)] = some (rV r) := by
  have e : ((Array.range (1 * 2)).map ((Value.agg #[.string ByteArray.empty, .int .i64 0]).cells[· % (Value.agg #[.string ByteArray.empty, .int .i64 0]).cells.size]!)) = #[.string ByteArray.empty, .int .i64 0] := by kernel_rfl
  rw [e]
  simp [Instr.fill]
  exact ⟨⟨rfl, Nat.le_refl 2⟩, rfl⟩
theorem two_new (w : World) (x y : Value) : ∀ j u, [x, y][j]? = some u → (w.alloc (.cells #[x, y] 51)).cell? ((⟨w.heap.size, 0, none⟩ : Addr).add j) = some u := by
  intro j u hj
  have hadd : (⟨w.heap.size, 0, none⟩ : Addr).add j = ⟨w.heap.size, j, none⟩ := by unfold Addr.add; split <;> simp_all
  rw [hadd, World.cell?_alloc_at _ _ _ _ rfl]
  rcases j with _ | _ | j
  · simpa using hj
  · simpa using hj
  · simp at hj
set_option maxRecDepth 100000 in
set_option maxHeartbeats 2000000 in
theorem gather_of (k : Nat) (ih : GatC k) : GatC (k + 1) := by
  intro x s ago w0 W bs bl bg mb b0 N acc hS hNm hago hN hG
  obtain ⟨ao, cap, sl, rfl, hop, hn, hnm, hlen, hcap, hc, hs⟩ := hS.out
  have b5 := (Below.refl W.heap.size W).alloc (Nat.le_refl _) (.cells (ex4 x (.slice ao x.args.length cap)) 25)
  have X5 := heap_alloc_new W (.cells (ex4 x (.slice ao x.args.length cap)) 25)
  have G5 := hid (hG.step b5)
  have hG0 := hG
  obtain ⟨y0, y1, y2, y3⟩ : (W.alloc (.cells (ex4 x (.slice ao x.args.length cap)) 25)).cell? ⟨W.heap.size, 0, none⟩ = some (.int .u8 (x.op : Int)) ∧ (W.alloc (.cells (ex4 x (.slice ao x.args.length cap)) 25)).cell? ⟨W.heap.size, 1, none⟩ = some (.int .i64 x.n) ∧ (W.alloc (.cells (ex4 x (.slice ao x.args.length cap)) 25)).cell? ⟨W.heap.size, 2, none⟩ = some (.string x.name) ∧ (W.alloc (.cells (ex4 x (.slice ao x.args.length cap)) 25)).cell? ⟨W.heap.size, 3, none⟩ = some (.slice ao x.args.length cap) := by
    refine ⟨?_, ?_, ?_, ?_⟩ <;> (rw [cell_of_row _ _ _ _ 25 (0, 0) X5]; rfl)
  go_enter Tryd.func37, Tryd.ntmps37
  refine wp_seq_k fun K0 hK0 => ?_
  have HK0 := hid hK0
  clear hK0
  go_wp2
  refine HK0.out _ _ ?_
  clear HK0 K0
  refine wp_seq_k fun K1 hK1 => ?_
  go_cut [1] from 6 (fun ag Wc => ag = .int .i64 (nextAgo x ago : Int) ∧ Hid (GI w0 bs bl bg mb b0 (ownRefs x ago acc) (ownRefs x ago acc) (N + 1) Wc) ∧ Hid (Wc.heap[W.heap.size]? = some (.cells (ex4 x (.slice ao x.args.length cap)) 25 (0, 0))))
  case rest =>
    obtain ⟨rfl, hGc, hXc⟩ := hcut
    have HC := hid hc
    have HS := hid hs
    have HNM := hid hNm
    have z3 : wc.cell? ⟨W.heap.size, 3, none⟩ = some (.slice ao x.args.length cap) := by rw [cell_of_row _ _ _ _ 25 (0, 0) hXc.out]; rfl
    have hg0 : accAt k x ago acc 0 = ownRefs x ago acc := by simp [accAt]
    have hc0 : cntAt k x 0 = 1 := by simp [cntAt]
    have G0 : Hid (GI w0 bs bl bg mb b0 (accAt k x ago acc 0) (accAt k x ago acc 0) (N + cntAt k x 0) wc) := by rw [hg0, hc0]; exact hGc
    have END : Hid (accAt k x ago acc x.args.length = gat (k + 1) x ago acc ∧ cntAt k x x.args.length = cnt (k + 1) x) := hid (by unfold accAt cntAt; rw [List.take_length]; exact ⟨rfl, rfl⟩)
    have HA := hid hago
    have HN := hid hN
    clear hG hG0 b5 X5 G5 y0 y1 y2 y3 hc hs hNm hGc hXc hg0 hc0 hS hago hN hop hn hnm hcap
    refine hK1 _ _ ?_
    clear hK1 K1
    go_wp2
    go_loopw [40] (fun i wr => ∃ j : Nat, j ≤ x.args.length ∧ i = .int .i64 (j : Int) ∧ Hid (GI w0 bs bl bg mb b0 (accAt k x ago acc j) (accAt k x ago acc j) (N + cntAt k x j) wr)) (fun i _ => x.args.length - (intOf i).toNat)
    case atStart => exact ⟨0, Nat.zero_le _, rfl, G0⟩
    case round =>
      obtain ⟨j, hj, rfl, hGj⟩ := hrel
      by_cases hlt : j < x.args.length
      · have hlt' : (j : Int) < (x.args.length : Int) := by omega
        have hj0 : (0 : Int) ≤ (j : Int) := by omega
        obtain ⟨bb, o, rfl, hcc⟩ := HC.out.resolve_left (by omega)
        obtain ⟨a0, a1, a2, a3⟩ := hcc j hlt
        have v0 := cell_kept a0 hGj.out.below
        have v1 := cell_kept a1 hGj.out.below
        have v2 := cell_kept a2 hGj.out.below
        have v3 := cell_kept a3 hGj.out.below
        have hst := HS.out j hlt
        have hnm := HNM.out.2 _ (List.getElem_mem hlt)
        have E1 := hid (accAt_succ (k := k) (ago := ago) (acc := acc) hlt)
        have E2 := hid (cntAt_succ (k := k) hlt)
        have hle := cntAt_le k x (x.args.length - (j + 1)) (j + 1) (by omega)
        rw [END.out.2, E2.out] at hle
        have hna := nextAgo_le x ago
        have HAo := HA.out
        have HNo := HN.out
        generalize x.args[j] = y at *
        clear a0 a1 a2 a3 hcc
        generalize sl j = sv at *
        obtain ⟨a3, c3, _, rfl, _⟩ := hst.out
        have b1 := (Below.refl wr.heap.size wr).alloc (Nat.le_refl _) (.cells (ex4 y (.slice a3 y.args.length c3)) 25)
        have G1 := hGj.out.step b1
        have q4 : (wr.alloc (.cells (ex4 y (.slice a3 y.args.length c3)) 25)).cell? ⟨bg, 0, none⟩ = some (.func (.func 37) #[] #[ptr bs, ptr bl, ptr bg]) := by rw [cell_of_row _ _ _ _ 75 (0, 0) G1.self]; rfl
        have c := ih y _ (nextAgo x ago) w0 _ bs bl bg mb b0 _ _ hst hnm (by omega) (by omega) G1
        clear hst hnm hle hna HAo HNo G1 b1 ih
        generalize nextAgo x ago = ag at *
        go_wp2_with (go_at_call 37; refine c.mono ?_; rintro e w4 ⟨rfl, g4⟩; have G4 := hid g4; clear g4 c)
        go_roundw
        case rel => exact ⟨j + 1, by omega, by go_num, by rw [E1.out, E2.out, ← Nat.add_assoc]; exact G4⟩
        case measure => simp [intOf]; omega
      · have hlt' : ¬ (j : Int) < (x.args.length : Int) := by omega
        obtain rfl : j = x.args.length := by omega
        go_wp2
        refine bodyPost_end (by simp [results]) rfl ⟨rfl, ?_⟩
        have h := hGj.out
        rw [END.out.1, END.out.2] at h
        exact h
  case first =>
    have HW := hid (Array.getElem?_eq_some_iff.1 X5).1
    have X5h := hid X5
    by_cases h3 : x.op = 3
    · have NA : Hid (nextAgo x ago = ago) := hid (by unfold nextAgo; rw [if_neg (by omega)])
      have hop3 : ((x.op : Int) == 3) = true := by simp [h3]
      have hcl := fun V => clone x.name V hNm.1
      have hrok : RfOk (x.name, ago) := ⟨hNm.1, by show ago ≤ _; omega⟩
      have OWN0 : Hid (ownRefs x ago acc = addR acc (x.name, ago)) := hid (by unfold ownRefs; rw [if_pos h3])
      obtain ⟨i0, hi, hi0, hi1, hi2⟩ := info_parts i51
      have HNs := hid hN
      have H3 := hid h3
      clear ih hc hs hS hG b5 X5 hop hn hnm hlen hcap hago hN hNm h3 hK1
      go_wp2_with (go_at_call 38; refine (hcl _).mono ?_; rintro e w2 ⟨rfl, b2⟩; have B2 := hid b2; clear b2 hcl)
      have b3 := (Below.refl w2.heap.size w2).alloc (Nat.le_refl _) (.cells #[.string x.name, .int .i64 (ago : Int)] 51)
      have b23 := bstep B2.out b3
      have G3 := (G5.out.step b23).step (show Below _ (w2.alloc (.cells #[.string x.name, .int .i64 (ago : Int)] 51)) (w2.alloc (.cells #[.string x.name, .int .i64 (ago : Int)] 51)).drew from below_drewN (Below.refl _ _) 1)
      have X3 := heap_alloc_new w2 (.cells #[.string x.name, .int .i64 (ago : Int)] 51)
      have XB0 : (w2.alloc (.cells #[.string x.name, .int .i64 (ago : Int)] 51)).drew.heap[W.heap.size]? = some (.cells (ex4 x (.slice ao x.args.length cap)) 25 (0, 0)) := (b23.block _ HW.out).trans X5h.out
      have hlt2 : w2.heap.size < (w2.alloc (.cells #[.string x.name, .int .i64 (ago : Int)] 51)).drew.heap.size := (Array.getElem?_eq_some_iff.1 X3).1
      have hw2 : (W.alloc (.cells (ex4 x (.slice ao x.args.length cap)) 25)).heap.size ≤ w2.heap.size := B2.out.size
      obtain ⟨o1, o2, o3, o4, o5, o6, o7, o8, o9⟩ := G5.out.ord
      have hmb2 : w2.heap.size ≠ mb := by omega
      have hmbW : W.heap.size ≠ mb := by have := hG0.ord.2.2.2.2.2.2.2; omega
      obtain ⟨c, W1, W2, born, hcN, hc0, l0, m1, l1, s1, l2, M2, g1, g2⟩ := G3.map.bump (by have := HNs.out; have := cnt_pos (k + 1) x; omega) hrok
      simp only [rKey, rV] at l0 m1 l1 s1 l2
      have k1 : ∀ {b o}, (w2.alloc (.cells #[.string x.name, .int .i64 (ago : Int)] 51)).drew.heap[b]? = some o → b ≠ mb → W1.heap[b]? = some o := fun {b o} e hne => kept0 e g1 hne
      have k2 : ∀ {b o}, W1.heap[b]? = some o → b ≠ mb → W2.heap[b]? = some o := fun {b o} e hne => kept0 e g2 hne
      have n3 := hG0.ne.2.2.1
      have sS : ∀ {V : World}, V.heap[bs]? = some (.cells #[.map (some mb)] 74 (0, 0)) → V.heap[w2.heap.size]? = some (.cells #[.string x.name, .int .i64 (ago : Int)] 51 (0, 0)) → V.cell? ⟨bs, 0, none⟩ = some (.map (some mb)) ∧ V.cell? ⟨w2.heap.size, 0, none⟩ = some (.string x.name) ∧ V.cell? ⟨w2.heap.size, 1, none⟩ = some (.int .i64 (ago : Int)) := fun {V} e1 e2 => ⟨(cell_of_row _ _ _ _ 74 (0, 0) e1).trans rfl, (cell_of_row _ _ _ _ 51 (0, 0) e2).trans rfl, (cell_of_row _ _ _ _ 51 (0, 0) e2).trans rfl⟩
      have S0 := sS (V := (w2.alloc (.cells #[.string x.name, .int .i64 (ago : Int)] 51)).drew) G3.seen X3
      have S1 := sS (k1 G3.seen n3) (k1 (b := w2.heap.size) X3 hmb2)
      have S2 := sS (k2 (k1 G3.seen n3) n3) (k2 (k1 (b := w2.heap.size) X3 hmb2) hmb2)
      have XB := hid (k2 (k1 XB0 hmbW) hmbW)
      have GP := hid (G3.count (grown_on g1 g2) M2 (Nat.le_succ N))
      obtain ⟨lv0, hv0, hr0⟩ := hG0.list
      obtain ⟨lv, hv, hr⟩ := GP.out.list
      have hv1 : W2.heap[bl]? = some (.cells #[lv0] 47 (0, 0)) := k2 (k1 ((b23.block bl (Nat.lt_of_lt_of_le (Array.getElem?_eq_some_iff.1 hv0).1 (by simp))).trans ((Below.heap_alloc _ _ _ (Array.getElem?_eq_some_iff.1 hv0).1).trans hv0)) hG0.ne.2.2.2.2.1) hG0.ne.2.2.2.2.1
      rw [hv1] at hv
      injection hv with hv
      injection hv with hv _ _
      simp only [Array.mk.injEq, List.cons.injEq, and_true] at hv
      subst hv
      have hv := hv1
      have NEB : Hid (some W.heap.size ≠ lv0.ownBlock) := hid (fun e => by have := (hr0.lt _ e.symm).2; omega)
      have NB : Hid (W.heap.size ≠ bl) := hid (by have := (Array.getElem?_eq_some_iff.1 hv0).1; omega)
      have HV := hid hv
      have HR := hid hr
      have lbl : W2.cell? ⟨bl, 0, none⟩ = some lv0 := (cell_of_row _ _ _ _ 47 (0, 0) hv).trans rfl
      have FEW : Hid (acc.length ≤ N) := hid hG0.few
      have CN := hid hcN
      have S2c := S2
      obtain ⟨s20, s21, s22⟩ := S2c
      have hcB : (c : Int) ≤ 1099511627776 := by have := HNs.out; omega
      clear G3 X3 b3 b23 XB0 M2 g1 g2 k1 k2 hv hv0 hv1 hr0 hr sS hrok hcN
      cases hin : rIn acc (x.name, ago) with
      | false =>
        obtain rfl : c = 0 := hc0.2 hin
        have OWN : Hid (ownRefs x ago acc = acc ++ [(x.name, ago)]) := hid (by rw [OWN0.out]; unfold addR; rw [hin]; rfl)
        simp only [show ((0 : Nat) : Int) = 0 from rfl, Int.zero_add] at l0 m1 l1 s1 l2
        have hw1 : IntKind.i64.wrap 1 = 1 := by decide
        have b7 := (Below.refl W2.heap.size W2).alloc (Nat.le_refl _) (.cells #[.string x.name, .int .i64 (ago : Int)] 51)
        have eadd : addR acc (x.name, ago) = acc ++ [(x.name, ago)] := by unfold addR; rw [hin]; rfl
        have GP7h := GP.out.step b7
        rw [eadd] at GP7h
        have GP7 := hid GP7h
        clear GP7h eadd
        have HV7 := hid ((b7.block _ (Array.getElem?_eq_some_iff.1 HV.out).1).trans HV.out)
        have HR7 := hid (ownsRow_below HR.out b7)
        have XB7 := hid ((b7.block _ (Array.getElem?_eq_some_iff.1 XB.out).1).trans XB.out)
        have LTB := hid (Array.getElem?_eq_some_iff.1 XB7.out).1
        have FEW2 : Hid (acc.length + 1 ≤ N + 1) := hid (Nat.succ_le_succ FEW.out)
        have ORD := hid (GP7.out.ord.2.2.2.2.2.2.2.2)
        have FEW : Hid (acc.length + 1 ≤ 1099511627776) := hid (by have := FEW.out; have := HNs.out; have := cnt_pos (k + 1) x; omega)
        clear b7
        refine wp_region_held_drew (S := fun V => V.cell? ⟨bs, 0, none⟩ = some (.map (some mb)) ∧ V.cell? ⟨w2.heap.size, 0, none⟩ = some (.string x.name) ∧ V.cell? ⟨w2.heap.size, 1, none⟩ = some (.int .i64 (ago : Int))) (by kernel_rfl) ?_ (fun hHeld => ?_)
        · exact S0
        refine wpAnyH_take (i := 0) (oi := { dst := some 19, op := Go.Op.load 74 (Go.Operand.tmp 2), type := 74, pos := _, after := #[], guard := none }) (v := ?_) rfl (by kernel_rfl) (by kernel_rfl) (by kernel_rfl) (fun _ _ _ h => h) (Or.inl ⟨by rfl, ?_⟩) (by assumption) ?_
        rotate_left
        · intro w hSw; (try dsimp only at hSw); go_simp <;> with_reducible rfl
        simp only [Act.put, List.setIfInBounds_toArray, List.set_cons_zero, List.set_cons_succ]
        refine wpAnyH_take (i := 1) (oi := { dst := some 20, op := Go.Op.load 51 (Go.Operand.tmp 7), type := 51, pos := _, after := #[], guard := none }) (v := ?_) rfl (by kernel_rfl) (by kernel_rfl) (by kernel_rfl) (fun _ _ _ h => h) (Or.inl ⟨by rfl, ?_⟩) (by assumption) ?_
        rotate_left
        · intro w hSw; (try dsimp only at hSw); go_simp <;> with_reducible rfl
        simp only [Act.put, List.setIfInBounds_toArray, List.set_cons_zero, List.set_cons_succ]
        refine wpAnyH_ready (rs := [2, 4]) (by kernel_rfl) (by simp) ?_
        refine AllReadyH.cons (o := { dst := some 21, op := Go.Op.lookup 74 (Go.Operand.tmp 19) (Go.Operand.tmp 20) false, type := 3, pos := _, after := #[{ on := 0, ground := Go.Ground.data }, { on := 1, ground := Go.Ground.data }], guard := none }) rfl (fun K hK => ?_) (AllReadyH.cons (o := { dst := some 23, op := Go.Op.mapEntry 74 (Go.Operand.tmp 19) (Go.Operand.tmp 20), type := 0, pos := _, after := #[{ on := 0, ground := Go.Ground.data }, { on := 1, ground := Go.Ground.data }, { on := 0, ground := Go.Ground.phase }, { on := 1, ground := Go.Ground.phase }, { on := 2, ground := Go.Ground.textOnly Go.Departure.mapOpAssignEntry }, { on := 3, ground := Go.Ground.textOnly Go.Departure.mapOpAssignEntry }], guard := none }) rfl (fun K hK => ?_) AllReadyH.nil)
        · go_simp
          refine hK.out _ _ S0 (fun _ => ?_)
          clear hK K
          refine wpAnyH_take (i := 3) (oi := { dst := some 22, op := Go.Op.binOp Go.BinOp.add 3 (Go.Operand.tmp 21) (Go.Operand.const (Go.Value.int Go.IntKind.i64 1)) 3, type := 3, pos := _, after := #[{ on := 2, ground := Go.Ground.data }], guard := none }) (v := ?_) rfl (by kernel_rfl) (by kernel_rfl) (by kernel_rfl) (fun _ _ _ h => h) (Or.inl ⟨by rfl, ?_⟩) (by assumption) ?_
          rotate_left
          · intro w hSw; (try dsimp only at hSw); go_simp <;> with_reducible rfl
          simp only [Act.put, List.setIfInBounds_toArray, List.set_cons_zero, List.set_cons_succ]
          refine wpAnyH_ready (rs := [4]) (by kernel_rfl) (by simp) ?_
          refine AllReadyH.cons (o := { dst := some 23, op := Go.Op.mapEntry 74 (Go.Operand.tmp 19) (Go.Operand.tmp 20), type := 0, pos := _, after := #[{ on := 0, ground := Go.Ground.data }, { on := 1, ground := Go.Ground.data }, { on := 0, ground := Go.Ground.phase }, { on := 1, ground := Go.Ground.phase }, { on := 2, ground := Go.Ground.textOnly Go.Departure.mapOpAssignEntry }, { on := 3, ground := Go.Ground.textOnly Go.Departure.mapOpAssignEntry }], guard := none }) rfl (fun K hK => ?_) AllReadyH.nil
          go_simp
          refine hK.out _ _ S1 (fun _ => ?_)
          clear hK K
          refine wpAnyH_take (i := 5) (oi := { dst := some 24, op := Go.Op.extract (Go.Operand.tmp 23) 1, type := 3, pos := _, after := #[{ on := 4, ground := Go.Ground.data }], guard := none }) (v := ?_) rfl (by kernel_rfl) (by kernel_rfl) (by kernel_rfl) (fun _ _ _ h => h) (Or.inl ⟨by rfl, ?_⟩) (by assumption) ?_
          rotate_left
          · intro w hSw; (try dsimp only at hSw); go_simp <;> with_reducible rfl
          simp only [Act.put, List.setIfInBounds_toArray, List.set_cons_zero, List.set_cons_succ]
          refine wpAnyH_ready (rs := [6]) (by kernel_rfl) (by simp) ?_
          refine AllReadyH.cons (o := { dst := none, op := Go.Op.entryStore 74 (Go.Operand.tmp 19) (Go.Operand.tmp 24) (Go.Operand.tmp 22), type := 0, pos := _, after := #[{ on := 0, ground := Go.Ground.data }, { on := 5, ground := Go.Ground.data }, { on := 3, ground := Go.Ground.data }, { on := 4, ground := Go.Ground.chain }, { on := 0, ground := Go.Ground.phase }, { on := 1, ground := Go.Ground.phase }, { on := 2, ground := Go.Ground.phase }, { on := 3, ground := Go.Ground.phase }, { on := 4, ground := Go.Ground.phase }, { on := 5, ground := Go.Ground.phase }], guard := none }) rfl (fun K hK => ?_) AllReadyH.nil
          go_simp
          refine hK.out _ _ S2 (fun _ => ?_)
          clear hK K
          refine wpAnyH_done (by kernel_rfl) ?_ _
          go_wp2_with (first
            | (obtain ⟨ie, hie, hz, hsz⟩ := inf51; refine wpList_buildSlice rfl 47 51 1 _ rfl (rV (x.name, ago)) ie (.agg #[.string ByteArray.empty, .int .i64 0]) Tryd.underlying47 hie hz (by rw [hsz]; decide) (by rw [hsz]; decide) (by rw [hsz]; simp only [List.map_toArray, List.map_cons, List.map_nil]; exact fill51 (x.name, ago)) ?_; clear hie hz hsz)
            | (at_builtin; refine wpList_append_own _ rfl (.tmp 29) (.tmp 31) 47 rfl b0 51 i0 (.agg #[.string ByteArray.empty, .int .i64 0]) 2 24 Tryd.underlying47 hi hi0 hi1 hi2 rfl (by decide) _ _ _ rfl HR7.out ⟨W2.heap.size, 0, none⟩ 1 1 [.string x.name, .int .i64 (ago : Int)] rfl rfl (two_new _ _ _) (by simp [Value.oneCell']) (by have := FEW.out; unfold maxLen; omega) (by have := FEW.out; omega) ORD.out ?_; intro v' w' hown1 hgrow1 _; obtain ⟨gv, cv, rfl⟩ := own_slice hown1; obtain ⟨hbl, gi⟩ := GP7.out.push (r := (x.name, ago)) HV7.out HR7.out hgrow1 hown1 FEW2.out; have t0 : w'.cell? ⟨bl, 0, none⟩ = some lv0 := (cell_of_row _ _ _ _ 47 (0, 0) hbl).trans rfl; have t1 : w'.frozen? ⟨bl, 0, none⟩ = false := frozen_of_row _ _ _ _ _ hbl; have GF := hid gi; have XF := hid ((Below.heap_setCell w' ⟨bl, 0, none⟩ (.slice (some ⟨gv, 0, none⟩) (acc.length + 1) cv) W.heap.size NB.out).trans ((hgrow1.block _ LTB.out NEB.out).trans XB7.out)); clear hown1 hgrow1 gi))
          go_meet
          case rel => exact ⟨by rw [NA.out], by rw [OWN.out]; exact GF, XF⟩
        · go_simp
          refine hK.out _ _ S1 (fun _ => ?_)
          clear hK K
          refine wpAnyH_take (i := 5) (oi := { dst := some 24, op := Go.Op.extract (Go.Operand.tmp 23) 1, type := 3, pos := _, after := #[{ on := 4, ground := Go.Ground.data }], guard := none }) (v := ?_) rfl (by kernel_rfl) (by kernel_rfl) (by kernel_rfl) (fun _ _ _ h => h) (Or.inl ⟨by rfl, ?_⟩) (by assumption) ?_
          rotate_left
          · intro w hSw; (try dsimp only at hSw); go_simp <;> with_reducible rfl
          simp only [Act.put, List.setIfInBounds_toArray, List.set_cons_zero, List.set_cons_succ]
          refine wpAnyH_ready (rs := [2]) (by kernel_rfl) (by simp) ?_
          refine AllReadyH.cons (o := { dst := some 21, op := Go.Op.lookup 74 (Go.Operand.tmp 19) (Go.Operand.tmp 20) false, type := 3, pos := _, after := #[{ on := 0, ground := Go.Ground.data }, { on := 1, ground := Go.Ground.data }], guard := none }) rfl (fun K hK => ?_) AllReadyH.nil
          go_simp
          refine hK.out _ _ S1 (fun _ => ?_)
          clear hK K
          refine wpAnyH_take (i := 3) (oi := { dst := some 22, op := Go.Op.binOp Go.BinOp.add 3 (Go.Operand.tmp 21) (Go.Operand.const (Go.Value.int Go.IntKind.i64 1)) 3, type := 3, pos := _, after := #[{ on := 2, ground := Go.Ground.data }], guard := none }) (v := ?_) rfl (by kernel_rfl) (by kernel_rfl) (by kernel_rfl) (fun _ _ _ h => h) (Or.inl ⟨by rfl, ?_⟩) (by assumption) ?_
          rotate_left
          · intro w hSw; (try dsimp only at hSw); go_simp <;> with_reducible rfl
          simp only [Act.put, List.setIfInBounds_toArray, List.set_cons_zero, List.set_cons_succ]
          refine wpAnyH_ready (rs := [6]) (by kernel_rfl) (by simp) ?_
          refine AllReadyH.cons (o := { dst := none, op := Go.Op.entryStore 74 (Go.Operand.tmp 19) (Go.Operand.tmp 24) (Go.Operand.tmp 22), type := 0, pos := _, after := #[{ on := 0, ground := Go.Ground.data }, { on := 5, ground := Go.Ground.data }, { on := 3, ground := Go.Ground.data }, { on := 4, ground := Go.Ground.chain }, { on := 0, ground := Go.Ground.phase }, { on := 1, ground := Go.Ground.phase }, { on := 2, ground := Go.Ground.phase }, { on := 3, ground := Go.Ground.phase }, { on := 4, ground := Go.Ground.phase }, { on := 5, ground := Go.Ground.phase }], guard := none }) rfl (fun K hK => ?_) AllReadyH.nil
          go_simp
          refine hK.out _ _ S2 (fun _ => ?_)
          clear hK K
          refine wpAnyH_done (by kernel_rfl) ?_ _
          go_wp2_with (first
            | (obtain ⟨ie, hie, hz, hsz⟩ := inf51; refine wpList_buildSlice rfl 47 51 1 _ rfl (rV (x.name, ago)) ie (.agg #[.string ByteArray.empty, .int .i64 0]) Tryd.underlying47 hie hz (by rw [hsz]; decide) (by rw [hsz]; decide) (by rw [hsz]; simp only [List.map_toArray, List.map_cons, List.map_nil]; exact fill51 (x.name, ago)) ?_; clear hie hz hsz)
            | (at_builtin; refine wpList_append_own _ rfl (.tmp 29) (.tmp 31) 47 rfl b0 51 i0 (.agg #[.string ByteArray.empty, .int .i64 0]) 2 24 Tryd.underlying47 hi hi0 hi1 hi2 rfl (by decide) _ _ _ rfl HR7.out ⟨W2.heap.size, 0, none⟩ 1 1 [.string x.name, .int .i64 (ago : Int)] rfl rfl (two_new _ _ _) (by simp [Value.oneCell']) (by have := FEW.out; unfold maxLen; omega) (by have := FEW.out; omega) ORD.out ?_; intro v' w' hown1 hgrow1 _; obtain ⟨gv, cv, rfl⟩ := own_slice hown1; obtain ⟨hbl, gi⟩ := GP7.out.push (r := (x.name, ago)) HV7.out HR7.out hgrow1 hown1 FEW2.out; have t0 : w'.cell? ⟨bl, 0, none⟩ = some lv0 := (cell_of_row _ _ _ _ 47 (0, 0) hbl).trans rfl; have t1 : w'.frozen? ⟨bl, 0, none⟩ = false := frozen_of_row _ _ _ _ _ hbl; have GF := hid gi; have XF := hid ((Below.heap_setCell w' ⟨bl, 0, none⟩ (.slice (some ⟨gv, 0, none⟩) (acc.length + 1) cv) W.heap.size NB.out).trans ((hgrow1.block _ LTB.out NEB.out).trans XB7.out)); clear hown1 hgrow1 gi))
          go_meet
          case rel => exact ⟨by rw [NA.out], by rw [OWN.out]; exact GF, XF⟩
      | true =>
        have OWN : Hid (ownRefs x ago acc = acc) := hid (by rw [OWN0.out]; unfold addR; rw [hin]; rfl)
        have GPo : Hid (GI w0 bs bl bg mb b0 acc acc (N + 1) W2) := by
          have h := GP.out
          have e : addR acc (x.name, ago) = acc := by unfold addR; rw [hin]; rfl
          rw [e] at h
          exact hid h
        have hc1 : 1 ≤ c := by
          by_cases e : c = 0
          · rw [hc0.1 e] at hin; cases hin
          · omega
        have hc1' : (1 : Int) ≤ (c : Int) := by omega
        have hcc : (((c : Int) + 1) == 1) = false := by simp; omega
        have hw1 : IntKind.i64.wrap ((c : Int) + 1) = (c : Int) + 1 := by rw [IntKind.wrap_i64]; omega
        refine wp_region_held_drew (S := fun V => V.cell? ⟨bs, 0, none⟩ = some (.map (some mb)) ∧ V.cell? ⟨w2.heap.size, 0, none⟩ = some (.string x.name) ∧ V.cell? ⟨w2.heap.size, 1, none⟩ = some (.int .i64 (ago : Int))) (by kernel_rfl) ?_ (fun hHeld => ?_)
        · exact S0
        refine wpAnyH_take (i := 0) (oi := { dst := some 19, op := Go.Op.load 74 (Go.Operand.tmp 2), type := 74, pos := _, after := #[], guard := none }) (v := ?_) rfl (by kernel_rfl) (by kernel_rfl) (by kernel_rfl) (fun _ _ _ h => h) (Or.inl ⟨by rfl, ?_⟩) (by assumption) ?_
        rotate_left
        · intro w hSw; (try dsimp only at hSw); go_simp <;> with_reducible rfl
        simp only [Act.put, List.setIfInBounds_toArray, List.set_cons_zero, List.set_cons_succ]
        refine wpAnyH_take (i := 1) (oi := { dst := some 20, op := Go.Op.load 51 (Go.Operand.tmp 7), type := 51, pos := _, after := #[], guard := none }) (v := ?_) rfl (by kernel_rfl) (by kernel_rfl) (by kernel_rfl) (fun _ _ _ h => h) (Or.inl ⟨by rfl, ?_⟩) (by assumption) ?_
        rotate_left
        · intro w hSw; (try dsimp only at hSw); go_simp <;> with_reducible rfl
        simp only [Act.put, List.setIfInBounds_toArray, List.set_cons_zero, List.set_cons_succ]
        refine wpAnyH_ready (rs := [2, 4]) (by kernel_rfl) (by simp) ?_
        refine AllReadyH.cons (o := { dst := some 21, op := Go.Op.lookup 74 (Go.Operand.tmp 19) (Go.Operand.tmp 20) false, type := 3, pos := _, after := #[{ on := 0, ground := Go.Ground.data }, { on := 1, ground := Go.Ground.data }], guard := none }) rfl (fun K hK => ?_) (AllReadyH.cons (o := { dst := some 23, op := Go.Op.mapEntry 74 (Go.Operand.tmp 19) (Go.Operand.tmp 20), type := 0, pos := _, after := #[{ on := 0, ground := Go.Ground.data }, { on := 1, ground := Go.Ground.data }, { on := 0, ground := Go.Ground.phase }, { on := 1, ground := Go.Ground.phase }, { on := 2, ground := Go.Ground.textOnly Go.Departure.mapOpAssignEntry }, { on := 3, ground := Go.Ground.textOnly Go.Departure.mapOpAssignEntry }], guard := none }) rfl (fun K hK => ?_) AllReadyH.nil)
        · go_simp
          refine hK.out _ _ S0 (fun _ => ?_)
          clear hK K
          refine wpAnyH_take (i := 3) (oi := { dst := some 22, op := Go.Op.binOp Go.BinOp.add 3 (Go.Operand.tmp 21) (Go.Operand.const (Go.Value.int Go.IntKind.i64 1)) 3, type := 3, pos := _, after := #[{ on := 2, ground := Go.Ground.data }], guard := none }) (v := ?_) rfl (by kernel_rfl) (by kernel_rfl) (by kernel_rfl) (fun _ _ _ h => h) (Or.inl ⟨by rfl, ?_⟩) (by assumption) ?_
          rotate_left
          · intro w hSw; (try dsimp only at hSw); go_simp <;> with_reducible rfl
          simp only [Act.put, List.setIfInBounds_toArray, List.set_cons_zero, List.set_cons_succ]
          refine wpAnyH_ready (rs := [4]) (by kernel_rfl) (by simp) ?_
          refine AllReadyH.cons (o := { dst := some 23, op := Go.Op.mapEntry 74 (Go.Operand.tmp 19) (Go.Operand.tmp 20), type := 0, pos := _, after := #[{ on := 0, ground := Go.Ground.data }, { on := 1, ground := Go.Ground.data }, { on := 0, ground := Go.Ground.phase }, { on := 1, ground := Go.Ground.phase }, { on := 2, ground := Go.Ground.textOnly Go.Departure.mapOpAssignEntry }, { on := 3, ground := Go.Ground.textOnly Go.Departure.mapOpAssignEntry }], guard := none }) rfl (fun K hK => ?_) AllReadyH.nil
          go_simp
          refine hK.out _ _ S1 (fun _ => ?_)
          clear hK K
          refine wpAnyH_take (i := 5) (oi := { dst := some 24, op := Go.Op.extract (Go.Operand.tmp 23) 1, type := 3, pos := _, after := #[{ on := 4, ground := Go.Ground.data }], guard := none }) (v := ?_) rfl (by kernel_rfl) (by kernel_rfl) (by kernel_rfl) (fun _ _ _ h => h) (Or.inl ⟨by rfl, ?_⟩) (by assumption) ?_
          rotate_left
          · intro w hSw; (try dsimp only at hSw); go_simp <;> with_reducible rfl
          simp only [Act.put, List.setIfInBounds_toArray, List.set_cons_zero, List.set_cons_succ]
          refine wpAnyH_ready (rs := [6]) (by kernel_rfl) (by simp) ?_
          refine AllReadyH.cons (o := { dst := none, op := Go.Op.entryStore 74 (Go.Operand.tmp 19) (Go.Operand.tmp 24) (Go.Operand.tmp 22), type := 0, pos := _, after := #[{ on := 0, ground := Go.Ground.data }, { on := 5, ground := Go.Ground.data }, { on := 3, ground := Go.Ground.data }, { on := 4, ground := Go.Ground.chain }, { on := 0, ground := Go.Ground.phase }, { on := 1, ground := Go.Ground.phase }, { on := 2, ground := Go.Ground.phase }, { on := 3, ground := Go.Ground.phase }, { on := 4, ground := Go.Ground.phase }, { on := 5, ground := Go.Ground.phase }], guard := none }) rfl (fun K hK => ?_) AllReadyH.nil
          go_simp
          refine hK.out _ _ S2 (fun _ => ?_)
          clear hK K
          refine wpAnyH_done (by kernel_rfl) ?_ _
          go_wp2
          go_meet
          case rel => exact ⟨by rw [NA.out], by rw [OWN.out]; exact GPo, XB⟩
        · go_simp
          refine hK.out _ _ S1 (fun _ => ?_)
          clear hK K
          refine wpAnyH_take (i := 5) (oi := { dst := some 24, op := Go.Op.extract (Go.Operand.tmp 23) 1, type := 3, pos := _, after := #[{ on := 4, ground := Go.Ground.data }], guard := none }) (v := ?_) rfl (by kernel_rfl) (by kernel_rfl) (by kernel_rfl) (fun _ _ _ h => h) (Or.inl ⟨by rfl, ?_⟩) (by assumption) ?_
          rotate_left
          · intro w hSw; (try dsimp only at hSw); go_simp <;> with_reducible rfl
          simp only [Act.put, List.setIfInBounds_toArray, List.set_cons_zero, List.set_cons_succ]
          refine wpAnyH_ready (rs := [2]) (by kernel_rfl) (by simp) ?_
          refine AllReadyH.cons (o := { dst := some 21, op := Go.Op.lookup 74 (Go.Operand.tmp 19) (Go.Operand.tmp 20) false, type := 3, pos := _, after := #[{ on := 0, ground := Go.Ground.data }, { on := 1, ground := Go.Ground.data }], guard := none }) rfl (fun K hK => ?_) AllReadyH.nil
          go_simp
          refine hK.out _ _ S1 (fun _ => ?_)
          clear hK K
          refine wpAnyH_take (i := 3) (oi := { dst := some 22, op := Go.Op.binOp Go.BinOp.add 3 (Go.Operand.tmp 21) (Go.Operand.const (Go.Value.int Go.IntKind.i64 1)) 3, type := 3, pos := _, after := #[{ on := 2, ground := Go.Ground.data }], guard := none }) (v := ?_) rfl (by kernel_rfl) (by kernel_rfl) (by kernel_rfl) (fun _ _ _ h => h) (Or.inl ⟨by rfl, ?_⟩) (by assumption) ?_
          rotate_left
          · intro w hSw; (try dsimp only at hSw); go_simp <;> with_reducible rfl
          simp only [Act.put, List.setIfInBounds_toArray, List.set_cons_zero, List.set_cons_succ]
          refine wpAnyH_ready (rs := [6]) (by kernel_rfl) (by simp) ?_
          refine AllReadyH.cons (o := { dst := none, op := Go.Op.entryStore 74 (Go.Operand.tmp 19) (Go.Operand.tmp 24) (Go.Operand.tmp 22), type := 0, pos := _, after := #[{ on := 0, ground := Go.Ground.data }, { on := 5, ground := Go.Ground.data }, { on := 3, ground := Go.Ground.data }, { on := 4, ground := Go.Ground.chain }, { on := 0, ground := Go.Ground.phase }, { on := 1, ground := Go.Ground.phase }, { on := 2, ground := Go.Ground.phase }, { on := 3, ground := Go.Ground.phase }, { on := 4, ground := Go.Ground.phase }, { on := 5, ground := Go.Ground.phase }], guard := none }) rfl (fun K hK => ?_) AllReadyH.nil
          go_simp
          refine hK.out _ _ S2 (fun _ => ?_)
          clear hK K
          refine wpAnyH_done (by kernel_rfl) ?_ _
          go_wp2
          go_meet
          case rel => exact ⟨by rw [NA.out], by rw [OWN.out]; exact GPo, XB⟩
    · by_cases h19 : x.op = 19
      · have NA : Hid (nextAgo x ago = ago + 1) := hid (by unfold nextAgo; rw [if_pos h19])
        have OWN : Hid (ownRefs x ago acc = acc) := hid (by unfold ownRefs; rw [if_neg h3])
        have hop3 : ((x.op : Int) == 3) = false := by simp; omega
        have hop19 : ((x.op : Int) == 19) = true := by simp [h19]
        have hab : (ago : Int) ≤ 1099511627776 := by omega
        have GF := hid (G5.out.mono (Nat.le_succ N))
        clear ih hc hs hS hG hG0 b5 hop hn hnm hlen hcap hago hN hNm h3 h19 hK1 G5
        go_wp2
        go_meet
        case rel => exact ⟨by rw [NA.out]; go_num, by rw [OWN.out]; exact GF, X5h⟩
      · have NA : Hid (nextAgo x ago = ago) := hid (by unfold nextAgo; rw [if_neg h19])
        have OWN : Hid (ownRefs x ago acc = acc) := hid (by unfold ownRefs; rw [if_neg h3])
        have hop3 : ((x.op : Int) == 3) = false := by simp; omega
        have hop19 : ((x.op : Int) == 19) = false := by simp; omega
        have GF := hid (G5.out.mono (Nat.le_succ N))
        clear ih hc hs hS hG hG0 b5 hop hn hnm hlen hcap hago hN hNm h3 h19 hK1 G5
        go_wp2
        go_meet
        case rel => exact ⟨by rw [NA.out], by rw [OWN.out]; exact GF, X5h⟩
/-- The closure of Refs, whatever it is called with. -/
theorem gather_any : ∀ k, GatC k
  | 0 => fun _ _ _ _ _ _ _ _ _ _ _ _ _ h => h.elim
  | k + 1 => gather_of k (gather_any k)
end Go.Proofs.YtkieljleopbhoaaDoor.Lex
namespace Go.Proofs.YtkieljleopbhoaaDoor.Lex
open Go.ChangeShapes Go.WideShapes Go.ChangeAt Go.RowKit Go.Joins Go.WideMaps Go.WideElems Go.Maps
theorem push_old {w : World} {b : Nat} {o o' : Obj} (h : w.heap[b]? = some o) : (w.alloc o').heap[b]? = some o := (Below.heap_alloc _ _ _ (Array.getElem?_eq_some_iff.1 h).1).trans h
theorem push_new (w : World) (o : Obj) (n : Nat) (h : w.heap.size = n) : (w.alloc o).heap[n]? = some o := by subst h; exact (MapKept.heap_alloc w o).1
theorem gi_start (w : World) (c : Array Value) : GI w (w.heap.size + 1 + 1 + 1) (w.heap.size + 1) (w.heap.size + 1 + 1 + 1 + 1) (w.heap.size + 1 + 1) (w.heap.size + 5) [] [] 0 (((((w.alloc (.cells c 25)).alloc (.cells #[.slice none 0 0] 47)).alloc (.map #[] 0)).alloc (.cells #[.map (some (w.heap.size + 1 + 1))] 74)).alloc (.cells #[.func (.func 37) #[] #[ptr (w.heap.size + 1 + 1 + 1), ptr (w.heap.size + 1), ptr (w.heap.size + 1 + 1 + 1 + 1)]] 75)) := by
  have s1 : (w.alloc (.cells c 25)).heap.size = w.heap.size + 1 := by simp
  have s2 : ((w.alloc (.cells c 25)).alloc (.cells #[.slice none 0 0] 47)).heap.size = w.heap.size + 1 + 1 := by simp
  have s3 : (((w.alloc (.cells c 25)).alloc (.cells #[.slice none 0 0] 47)).alloc (.map #[] 0)).heap.size = w.heap.size + 1 + 1 + 1 := by simp
  have s4 : ((((w.alloc (.cells c 25)).alloc (.cells #[.slice none 0 0] 47)).alloc (.map #[] 0)).alloc (.cells #[.map (some (w.heap.size + 1 + 1))] 74)).heap.size = w.heap.size + 1 + 1 + 1 + 1 := by simp
  have b1 := (Below.refl w.heap.size w).alloc (Nat.le_refl _) (.cells c 25)
  have b2 := bstep b1 ((Below.refl _ _).alloc (Nat.le_refl _) (.cells #[.slice none 0 0] 47))
  have b3 := bstep b2 ((Below.refl _ _).alloc (Nat.le_refl _) (.map #[] 0))
  have b4 := bstep b3 ((Below.refl _ _).alloc (Nat.le_refl _) (.cells #[.map (some (w.heap.size + 1 + 1))] 74))
  have b5 := bstep b4 ((Below.refl _ _).alloc (Nat.le_refl _) (.cells #[.func (.func 37) #[] #[ptr (w.heap.size + 1 + 1 + 1), ptr (w.heap.size + 1), ptr (w.heap.size + 1 + 1 + 1 + 1)]] 75))
  refine ⟨b5, push_old (push_new _ _ _ s3), push_new _ _ _ s4, ⟨_, push_old (push_old (push_old (push_new _ _ _ s1))), ⟨rfl, .inl ⟨rfl, rfl⟩⟩⟩, SeenM.none _ _ (push_old (push_old (push_new _ _ _ s2))), Nat.le_refl _, ⟨by omega, by omega, by omega, by omega, by omega, by omega, by omega, by omega, by simp⟩, ⟨by omega, by omega, by omega, by omega, by omega, by omega⟩⟩
set_option maxRecDepth 100000 in
set_option maxHeartbeats 1000000 in
theorem refs (k : Nat) (x : Ex) (s : Value) (w : World) (hS : St w x s) (hNm : NmOk k x) (hk : k ≤ 1099511627776) (hc : cnt k x ≤ 1099511627776) : Calls Tryd.prog 20 #[exV x s] w fun e w' => ∃ v, e = .returned v ∧ w'.ownsRow w.heap.size 51 2 v (gat k x 0 []).length (refsV (gat k x 0 [])) ∧ Below w.heap.size w w' := by
  obtain ⟨ao, cap, sl, rfl, _⟩ := hS.out
  have hmm := @run_makeMap Tryd.prog
  have hmf : ∀ (fn : Fn) (first cap : Array Value) (w : World), (Instr.makeFunc fn first cap).run Tryd.prog w = .ok (.func fn first cap) w := fun _ _ _ _ => rfl
  have c37 := gather_any k x (.slice ao x.args.length cap) 0 w _ _ _ _ _ _ 0 [] hS hNm (by omega) (by omega) (gi_start w (ex4 x (.slice ao x.args.length cap)))
  generalize hL : gat k x 0 [] = L at *
  generalize hN : cnt k x = N at *
  clear hS hNm hk hc hL hN
  go_enter Tryd.func20, Tryd.ntmps20
  go_wp2_with (go_at_call 37; refine c37.mono ?_; rintro e w2 ⟨rfl, g2⟩; obtain ⟨v, hv, hr⟩ := g2.list; have t0 : w2.cell? ⟨w.heap.size + 1, 0, none⟩ = some v := (cell_of_row _ _ _ _ 47 (0, 0) hv).trans rfl; have HR := hid hr; have HB := hid g2.below; clear g2 hv hr c37)
  go_ret
  exact ⟨v, rfl, ownsRow_mono HR.out (by omega), HB.out⟩
end Go.Proofs.YtkieljleopbhoaaDoor.Lex
namespace Go.Proofs.YtkieljleopbhoaaDoor.Lex
open Go.ChangeShapes Go.WideShapes Go.ChangeAt Go.RowKit Go.Joins
def RfAt (w : World) (v : Value) (L : List Rf) : Prop :=
  ∃ a cap, v = .slice a L.length cap ∧ (L.length = 0 ∨ ∃ g, a = some ⟨g, 0, none⟩ ∧ ∀ i (h : i < L.length), w.cell? ⟨g, i * 2, none⟩ = some (.string L[i].1) ∧ w.cell? ⟨g, i * 2 + 1, none⟩ = some (.int .i64 (L[i].2 : Int)))
theorem refsV_at (L : List Rf) (i : Nat) (hi : i < L.length) : (refsV L)[2 * i]? = some (.string L[i].1) ∧ (refsV L)[2 * i + 1]? = some (.int .i64 (L[i].2 : Int)) := by
  induction L generalizing i with
  | nil => simp at hi
  | cons t ts ih =>
    have e : refsV (t :: ts) = [.string t.1, .int .i64 (t.2 : Int)] ++ refsV ts := by simp [refsV]
    rw [e]
    cases i with
    | zero => exact ⟨rfl, rfl⟩
    | succ i =>
      have := ih i (by simpa using hi)
      have hl : ([.string t.1, .int .i64 (t.2 : Int)] : List Value).length = 2 := rfl
      refine ⟨?_, ?_⟩
      · rw [List.getElem?_append_right (by omega), hl, show 2 * (i + 1) - 2 = 2 * i by omega]; simpa using this.1
      · rw [List.getElem?_append_right (by omega), hl, show 2 * (i + 1) + 1 - 2 = 2 * i + 1 by omega]; simpa using this.2
theorem RfAt.of_own {w : World} {B : Nat} {v : Value} {L : List Rf} (h : w.ownsRow B 51 2 v L.length (refsV L)) : RfAt w v L := by
  rcases h.2 with ⟨rfl, h0⟩ | ⟨g, cap, cur, rfl, hg0, hg, rest⟩
  · exact ⟨none, 0, by rw [h0], .inl h0⟩
  · refine ⟨_, cap, rfl, .inr ⟨g, rfl, fun i hi => ?_⟩⟩
    obtain ⟨a, b⟩ := refsV_at L i hi
    refine ⟨?_, ?_⟩
    · rw [h.cellAt _ (by omega), Nat.mul_comm]; exact a
    · rw [h.cellAt _ (by omega), Nat.mul_comm]; exact b
theorem RfAt.keep {w W : World} {v : Value} {L : List Rf} (h : RfAt w v L) (b : Below w.heap.size w W) : RfAt W v L := by
  obtain ⟨a, cap, rfl, hc⟩ := h
  refine ⟨a, cap, rfl, ?_⟩
  rcases hc with h0 | ⟨g, ha, hc⟩
  · exact .inl h0
  · exact .inr ⟨g, ha, fun i hi => ⟨cell_kept (hc i hi).1 b, cell_kept (hc i hi).2 b⟩⟩
set_option maxRecDepth 100000 in
set_option maxHeartbeats 1000000 in
theorem same_refs (u v : Value) (L : List Rf) (w : World) (hu : RfAt w u L) (hv : RfAt w v L) (hl : L.length ≤ 1099511627776) :
    Calls Tryd.prog 22 #[u, v] w fun e w' => e = .returned (.bool true) ∧ Below w.heap.size w w' := by
  obtain ⟨a, cap, rfl, ha⟩ := hu
  obtain ⟨b, cap', rfl, hb⟩ := hv
  have hne : ((L.length : Int) != (L.length : Int)) = false := by simp
  go_enter Tryd.func22, Tryd.ntmps22
  go_wp2
  go_loopw [5] (fun i wr => ∃ k n : Nat, k ≤ L.length ∧ i = .int .i64 k ∧ wr = w.drewN n) (fun i _ => L.length - (intOf i).toNat)
  case atStart => exact ⟨0, 0, Nat.zero_le _, rfl, rfl⟩
  case round =>
    obtain ⟨k, n, hk, rfl, rfl⟩ := hrel
    by_cases hlt : k < L.length
    · obtain ⟨g, rfl, hg⟩ := ha.resolve_left (by omega)
      obtain ⟨g', rfl, hg'⟩ := hb.resolve_left (by omega)
      obtain ⟨x0, x1⟩ := hg k (by omega)
      obtain ⟨y0, y1⟩ := hg' k (by omega)
      have hlt' : (k : Int) < (L.length : Int) := by omega
      have hk0 : (0 : Int) ≤ (k : Int) := by omega
      clear hg hg' ha hb
      generalize L[k].1 = K at x0 y0
      generalize L[k].2 = A at x1 y1
      go_wp2
      go_quiet (fail)
      go_wp2
      go_roundw
      case rel => exact ⟨k + 1, n + nq, by omega, by go_num, rfl⟩
      case measure => simp [intOf]; omega
    · go_wp2
      go_ret
      exact ⟨rfl, below_drewN (Below.refl _ _) n⟩
end Go.Proofs.YtkieljleopbhoaaDoor.Lex
namespace Go.Proofs.YtkieljleopbhoaaDoor.Lex
open Go.RowKit
theorem isRes_eq (s : ByteArray) : isRes s = resL.any fun x => x.data.toList == s.data.toList := by
  unfold isRes
  simp only [ByteArray.toList_eq]
/-- A name, by its bytes alone. -/
def isNameD (s : ByteArray) : Bool := decide (0 < s.size) && (decide (s.size ≤ 40) && (decide (wordLen s.data.toList = s.size) && !resL.any fun x => x.data.toList == s.data.toList))
theorem isName_eq (s : ByteArray) : isName s = isNameD s := by unfold isName isNameD; rw [isRes_eq]
def fieldsD (op : Nat) (n : Int) (nm : ByteArray) (len : Nat) : Bool :=
  if op = 1 then decide (0 ≤ n) && (decide (nm.size = 0) && decide (len = 0))
  else if op = 2 then (decide (n = 0) || decide (n = 1)) && (decide (nm.size = 0) && decide (len = 0))
  else if op = 3 then decide (n = 0) && (isNameD nm && decide (len = 0))
  else decide (0 < parts op) && (decide (n = 0) && (decide (nm.size = 0) && decide (len = parts op)))
theorem fields_eq (op : Nat) (n : Int) (nm : ByteArray) (len : Nat) : fieldsOk op n nm len = fieldsD op n nm len := by unfold fieldsOk fieldsD; rw [isName_eq]
def szD : Nat → Nat → Ex → Option Nat
  | 0, _, _ => none
  | d + 1, most, x => if most = 0 ∨ fieldsD x.op x.n x.name x.args.length = false then none else szL (szD d) most 1 x.args
theorem szD_eq : ∀ (d : Nat), sz d = szD d
  | 0 => rfl
  | d + 1 => by
    funext most x
    rw [sz, szD, szD_eq d, fields_eq]
theorem chk_eq (x : Ex) : chk x = (szD 32 200 x).isSome := by unfold chk; rw [szD_eq]
theorem read_wr {x : Ex} {w : World} {s : Value} (h : chk x = true) (hS : St w x s) : readX (wr x) = some x := by
  obtain ⟨ts, e1, e2⟩ := back h hS
  unfold readX
  rw [e1]
  simp only
  rw [e2]
  simp [h]
abbrev nmE (c : UInt8) : Ex := ⟨3, 0, ⟨#[c]⟩, []⟩
abbrev opE (op : Nat) (l : List Ex) : Ex := ⟨op, 0, ByteArray.empty, l⟩
abbrev exA : Ex := nmE 97
abbrev exB : Ex := nmE 98
abbrev exC : Ex := nmE 99
abbrev e1X : Ex := opE 18 [exA, opE 18 [exB, exC]]
abbrev e2X : Ex := opE 7 [opE 7 [exA, exB], exC]
abbrev e3X : Ex := opE 4 [opE 4 [exA]]
abbrev e4X : Ex := opE 8 [exA, opE 6 [exB, ⟨1, 1, ByteArray.empty, []⟩]]
abbrev e5X : Ex := opE 17 [exA, exB, opE 18 [exC, exA]]
theorem chk1 : chk e1X = true := by rw [chk_eq]; decide +kernel
theorem chk2 : chk e2X = true := by rw [chk_eq]; decide +kernel
theorem chk3 : chk e3X = true := by rw [chk_eq]; decide +kernel
theorem chk4 : chk e4X = true := by rw [chk_eq]; decide +kernel
theorem chk5 : chk e5X = true := by rw [chk_eq]; decide +kernel
theorem itoa1 : Lib.itoa 1 = [49] := by rw [itoa_dig (by omega)]; decide
theorem wr1 : wr e1X = [97, 32, 45, 62, 32, 98, 32, 45, 62, 32, 99] := by decide +kernel
theorem wr2 : wr e2X = [97, 32, 45, 32, 98, 32, 45, 32, 99] := by decide +kernel
theorem wr3 : wr e3X = [45, 32, 45, 97] := by decide +kernel
theorem wr4 : wr e4X = [97, 32, 42, 32, 40, 98, 32, 43, 32, 49, 41] := by
  have h : wr ⟨1, 1, ByteArray.empty, []⟩ = [49] := by rw [wr_leaf rfl, if_pos rfl]; exact itoa1
  rw [wr_two (a := exA) (b := opE 6 [exB, ⟨1, 1, ByteArray.empty, []⟩]) rfl, wr_two (x := opE 6 [exB, ⟨1, 1, ByteArray.empty, []⟩]) (a := exB) (b := ⟨1, 1, ByteArray.empty, []⟩) rfl, h]
  decide +kernel
theorem wr5 : wr e5X = [105, 102, 32, 97, 32, 116, 104, 101, 110, 32, 98, 32, 101, 108, 115, 101, 32, 99, 32, 45, 62, 32, 97] := by decide +kernel
/-- Of one part an addition may not be; a number below nought neither. -/
theorem chkN1 : chk (opE 6 [exA]) = false := by rw [chk_eq]; decide +kernel
theorem chkN2 : chk ⟨1, -1, ByteArray.empty, []⟩ = false := by rw [chk_eq]; decide +kernel
theorem nameA (c : UInt8) (h : c = 97 ∨ c = 98 ∨ c = 99) : isName ⟨#[c]⟩ = true := by rw [isName_eq]; rcases h with rfl | rfl | rfl <;> decide +kernel
/-- a < b < c is not all read. -/
theorem noLt : readX [97, 32, 60, 32, 98, 32, 60, 32, 99] = none := by
  have ht : toks 0 [97, 32, 60, 32, 98, 32, 60, 32, 99] = .ok [⟨1, [97], 0⟩, ⟨3, [60], 2⟩, ⟨1, [98], 4⟩, ⟨3, [60], 6⟩, ⟨1, [99], 8⟩] := by
    rw [toks_some (k := 1) (n := 1) (by simp) (by decide), toks_some (k := 0) (n := 1) (by simp) (by decide), toks_some (k := 3) (n := 1) (by simp) (by decide), toks_some (k := 0) (n := 1) (by simp) (by decide), toks_some (k := 1) (n := 1) (by simp) (by decide), toks_some (k := 0) (n := 1) (by simp) (by decide), toks_some (k := 3) (n := 1) (by simp) (by decide), toks_some (k := 0) (n := 1) (by simp) (by decide), toks_some (k := 1) (n := 1) (by simp) (by decide)]
    simp [toks_nil, ahead]
  have j13 : (jR 5).op = 13 := rfl
  have ja : jAt ⟨3, sgn [60]⟩ = some (jR 5) := by rw [jAt_eq]; rfl
  let ts : List Mark := [⟨1, sgn [97]⟩, ⟨3, sgn [60]⟩, ⟨1, sgn [98]⟩, ⟨3, sgn [60]⟩, ⟨1, sgn [99]⟩]
  have hb : P ts 4 2 = .ok (exB, 3) := by
    rw [P_atom (by intro h; omega), atom_name (ts := ts) (p := 2) (nm := ⟨#[98]⟩) rfl (nameA 98 (.inr (.inl rfl))), Res.go_ok]
    exact Lp_stop (j := jR 5) ja (.inl (by decide))
  have hp : P ts 0 0 = .ok (opE 13 [exA, exB], 3) := by
    rw [P_atom (by rw [isMk_eq]; decide), atom_name (ts := ts) (p := 0) (nm := ⟨#[97]⟩) rfl (nameA 97 (.inl rfl)), Res.go_ok, Lp_go (ts := ts) (a := 0) (r := 7) (p := 0 + 1) (j := jR 5) ja (by decide) (by decide)]
    rw [show (jR 5).second = 4 from rfl, hb, Res.go_ok]
    exact Lp_stop (j := jR 5) ja (.inr (by decide))
  unfold readX
  rw [ht]
  simp only
  rw [show List.map tokM _ = ts from rfl, hp]
  simp
/-- 1 + is nothing. -/
theorem noPlus : P [⟨2, sgn [49]⟩, ⟨3, sgn [43]⟩] 0 0 = .error (5, 2) := by
  have ja : jAt ⟨3, sgn [43]⟩ = some (jR 7) := by rw [jAt_eq]; rfl
  have h2 : P [⟨2, sgn [49]⟩, ⟨3, sgn [43]⟩] 5 2 = .error (5, 2) := by
    rw [P_atom (by intro h; omega)]
    have a : ∀ k t, k ≠ 0 → isMk (markAt [⟨2, sgn [49]⟩, ⟨3, sgn [43]⟩] 2) k t = false := fun k t hk => mk_no _ _ _ (by show (0 : Nat) ≠ k; omega)
    unfold atomR
    simp only
    rw [a _ _ (by omega), a _ _ (by omega), a _ _ (by omega), a _ _ (by omega), a _ _ (by omega), a _ _ (by omega)]
    rfl
  have hn := num_dig (sgn [49]) 1 (by omega) (by decide)
  rw [P_atom (by rw [isMk_eq]; decide), atom_num (s := sgn [49]) rfl hn.2, Res.go_ok, Lp_go (ts := [⟨2, sgn [49]⟩, ⟨3, sgn [43]⟩]) (a := 0) (r := 7) (p := 0 + 1) (j := jR 7) ja (by decide) (by decide)]
  rw [show (jR 7).second = 5 from rfl, h2]
  rfl
abbrev eR : Ex := opE 6 [exA, opE 19 [opE 6 [exA, opE 19 [exB]]]]
theorem gatR : gat 6 eR 0 [] = [(⟨#[97]⟩, 0), (⟨#[97]⟩, 1), (⟨#[98]⟩, 2)] := by rfl
theorem cntR : cnt 6 eR ≤ 1099511627776 := by decide
theorem nmR : NmOk 6 eR := by
  simp [NmOk]
  decide
end Go.Proofs.YtkieljleopbhoaaDoor.Lex
