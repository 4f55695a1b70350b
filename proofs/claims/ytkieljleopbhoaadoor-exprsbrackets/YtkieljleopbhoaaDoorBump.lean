/-
  One more is counted.
-/
import Derived.Test.YtkieljleopbhoaaDoorSeen
namespace Go.Proofs.YtkieljleopbhoaaDoor.Lex
open Go.ChangeShapes Go.WideShapes Go.ChangeAt Go.RowKit Go.Joins Go.WideMaps Go.WideElems Go.Maps
def rIn (acc : List Rf) (r : Rf) : Bool := acc.any fun q => q.1.data.toList == r.1.data.toList && q.2 == r.2
def addR (acc : List Rf) (r : Rf) : List Rf := if rIn acc r then acc else acc ++ [r]
theorem rIn_mem {acc : List Rf} {r : Rf} : rIn acc r = true ↔ r ∈ acc := by
  unfold rIn
  rw [List.any_eq_true]
  constructor
  · rintro ⟨q, hq, e⟩
    simp only [Bool.and_eq_true, beq_iff_eq] at e
    have : q = r := Prod.ext (by
      obtain ⟨⟨⟨l⟩⟩, n⟩ := q
      obtain ⟨⟨⟨l'⟩⟩, n'⟩ := r
      simp only at e ⊢
      rw [e.1]) e.2
    rw [← this]
    exact hq
  · intro h
    exact ⟨r, h, by simp⟩
theorem modify_last {es : Array MapEntry} {x : MapEntry} (f : MapEntry → MapEntry) : (es.push x).modify es.size f = es.push (f x) := by
  apply Array.ext
  · simp
  · intro i h1 h2
    have hi : i < es.size + 1 := by simpa using h2
    by_cases e : es.size = i
    · subst e
      rw [Array.getElem_modify_self]
      simp
    · rw [Array.getElem_modify_of_ne e, Array.getElem_push_lt (by omega), Array.getElem_push_lt (by omega)]
theorem find_last {es : Array MapEntry} {x : MapEntry} {p : MapEntry → Bool} (h1 : ∀ e ∈ es.toList, p e = false) (h2 : p x = true) : (es.push x).findIdx? p = some es.size := by
  rw [Array.findIdx?_eq_some_iff_getElem]
  refine ⟨by simp, by simpa using h2, fun j hj => ?_⟩
  rw [Array.getElem_push_lt hj]
  have := h1 es[j] (by simp)
  simp [this]
theorem born_at {es : Array MapEntry} {j : Nat} {e0 : MapEntry} (h : es.toList[j]? = some e0) (hn : (es.toList.map (·.born)).Nodup) : es.findIdx? (fun e => (e.born : Int) == (e0.born : Int)) = some j := by
  obtain ⟨hj, ej⟩ := List.getElem?_eq_some_iff.1 h
  have hj' : j < es.size := by simpa using hj
  rw [Array.findIdx?_eq_some_iff_getElem]
  refine ⟨hj', ?_, fun i hi => ?_⟩
  · have : es[j] = e0 := by simpa using ej
    simp [this]
  · have hne := (List.pairwise_iff_getElem.1 hn) i j (by simp; omega) (by simp; omega) hi
    simp only [List.getElem_map, ej] at hne
    simp only [Array.getElem_toList] at hne
    simp
    omega
theorem modify_same {es : Array MapEntry} {j : Nat} {e0 : MapEntry} (h : es.toList[j]? = some e0) (f : MapEntry → MapEntry) (hf : f e0 = e0) : es.modify j f = es := by
  obtain ⟨hj, ej⟩ := List.getElem?_eq_some_iff.1 h
  apply Array.ext
  · simp
  · intro i h1 h2
    by_cases e : j = i
    · subst e
      rw [Array.getElem_modify_self]
      have : es[j] = e0 := by simpa using ej
      rw [this, hf]
    · rw [Array.getElem_modify_of_ne e]
theorem heap_block {w : World} {b : Nat} {o : Obj} (h : b < w.heap.size) : (ChangeMaps.setBlock w b o).heap[b]? = some o := by
  simp [ChangeMaps.setBlock, h]
set_option maxRecDepth 100000 in
theorem SeenM.bump {acc : List Rf} {N mb : Nat} {w : World} (h : SeenM acc N mb w) (hN : N < 1099511627776) {r : Rf} (hr : RfOk r) : ∃ (c : Nat) (W1 W2 : World) (born : Nat), c ≤ N ∧ (c = 0 ↔ rIn acc r = false) ∧ (Instr.lookup 74 (.map (some mb)) (rKey r) false).run Tryd.prog w = .ok (.int .i64 (c : Int)) w ∧
    (Instr.mapEntry 74 (.map (some mb)) (rKey r)).run Tryd.prog w = .ok (.tuple #[.int .i64 (c : Int), .int .i64 (born : Int)]) W1 ∧ (Instr.lookup 74 (.map (some mb)) (rKey r) false).run Tryd.prog W1 = .ok (.int .i64 (c : Int)) W1 ∧
    (Instr.entryStore 74 (.map (some mb)) (.int .i64 (born : Int)) (.int .i64 ((c : Int) + 1))).run Tryd.prog W1 = .ok () W2 ∧ (Instr.lookup 74 (.map (some mb)) (rKey r) false).run Tryd.prog W2 = .ok (.int .i64 ((c : Int) + 1)) W2 ∧ SeenM (addR acc r) (N + 1) mb W2 ∧ w.grownBy W1 (some mb) ∧ W1.grownBy W2 (some mb) := by
  obtain ⟨es, clock, hh, F, hs, h1, h2⟩ := h
  obtain ⟨l, hl⟩ := rKey_is hr
  have hlt := (Array.getElem?_eq_some_iff.1 hh).1
  cases hin : rIn acc r with
  | false =>
    have hno : ∀ x ∈ es.toList, x.key ≠ rKey r := fun x hx e => by
      obtain ⟨q, hq, ek, _⟩ := h1 x hx
      have e2 := rKey_inj (ek.symm.trans e)
      rw [e2, ← rIn_mem, hin] at hq
      cases hq
    have fitP : ∀ v, Fit (H := Unit) Tryd.prog 51 RA (es.push ⟨rKey r, v, clock⟩) (clock + 1) := fun v => ⟨by simp; unfold maxLen; omega, MapKept.stamped_push F.stamped hno, fun x hx => by
      simp only [Array.toList_push, List.mem_append, List.mem_singleton] at hx
      rcases hx with hx | rfl
      · exact F.reads x hx
      · exact ⟨_, rd_mk hl rfl⟩⟩
    have hh1 : (ChangeMaps.setBlock w mb (.map (es.push ⟨rKey r, .int .i64 0, clock⟩) (clock + 1))).heap[mb]? = some (.map (es.push ⟨rKey r, .int .i64 0, clock⟩) (clock + 1)) := heap_block hlt
    have hlt1 := (Array.getElem?_eq_some_iff.1 hh1).1
    have hh2 : (ChangeMaps.setBlock (ChangeMaps.setBlock w mb (.map (es.push ⟨rKey r, .int .i64 0, clock⟩) (clock + 1))) mb (.map (es.push ⟨rKey r, .int .i64 1, clock⟩) (clock + 1))).heap[mb]? = some (.map (es.push ⟨rKey r, .int .i64 1, clock⟩) (clock + 1)) := heap_block hlt1
    refine ⟨0, _, _, clock, Nat.zero_le _, by simp, look_none hh F hr hno, ?_, look_one hh1 (fitP _) hr (x := ⟨rKey r, .int .i64 0, clock⟩) (by simp) rfl, ?_, look_one hh2 (fitP _) hr (x := ⟨rKey r, .int .i64 1, clock⟩) (by simp) rfl, ⟨_, _, hh2, fitP _, by simp; omega, ?_, ?_⟩, grown_setBlock _, grown_setBlock _⟩
    · rcases keyed51.find w hl es.toList F.keys with ⟨f1, _⟩ | ⟨j, e, _, f2, f3⟩
      · simp [Instr.mapEntry, run_underlying Tryd.underlying74, MapKept.run_getObj_map hh, keyed51.check w false hl, f1, MapKept.run_setObj_map _ hh, Result.andThen, ChangeMaps.setBlock, goInt]
      · exact (hno e (List.mem_of_getElem? f2) f3).elim
    · have hf := find_last (es := es) (x := ⟨rKey r, .int .i64 0, clock⟩) (p := fun e => (e.born : Int) == (clock : Int)) (fun e he => by have := F.stamped.1 e he; simp; omega) (by simp)
      simp [Instr.entryStore, MapKept.run_getObj_map hh1, asInt, asIntOf, hf, MapKept.run_setObj_map _ hh1, Result.andThen, modify_last]
      rfl
    · intro x hx
      simp only [Array.toList_push, List.mem_append, List.mem_singleton] at hx
      unfold addR
      rw [hin]
      rcases hx with hx | rfl
      · obtain ⟨q, hq, ek, c, c1, c2, ev⟩ := h1 x hx
        exact ⟨q, by simp [hq], ek, c, c1, by omega, ev⟩
      · exact ⟨r, by simp, rfl, 1, by omega, by omega, rfl⟩
    · intro q hq
      unfold addR at hq
      rw [hin] at hq
      simp only [Bool.false_eq_true, if_false, List.mem_append, List.mem_singleton] at hq
      simp only [Array.toList_push, List.mem_append, List.mem_singleton]
      rcases hq with hq | rfl
      · obtain ⟨x, hx, ek⟩ := h2 q hq
        exact ⟨x, .inl hx, ek⟩
      · exact ⟨_, .inr rfl, rfl⟩
  | true =>
    obtain ⟨x0, hx0, ek0⟩ := h2 r (rIn_mem.1 hin)
    rcases keyed51.find w hl es.toList F.keys with ⟨_, f2⟩ | ⟨j, e0, f1, f2, f3⟩
    · exact (f2 x0 hx0 ek0).elim
    · have he0 := List.mem_of_getElem? f2
      obtain ⟨q, hq, ek, c, c1, c2, ev⟩ := h1 e0 he0
      have hj : es[j]? = some e0 := by simpa using f2
      have hms : es.modify j (fun e => { e with key := rKey r }) = es := modify_same f2 _ (by rw [← f3])
      have hh1 : (ChangeMaps.setBlock w mb (.map es clock)).heap[mb]? = some (.map es clock) := heap_block hlt
      have hlt1 := (Array.getElem?_eq_some_iff.1 hh1).1
      have hh2 : (ChangeMaps.setBlock (ChangeMaps.setBlock w mb (.map es clock)) mb (.map (es.modify j (fun e => { e with val := .int .i64 ((c : Int) + 1) })) clock)).heap[mb]? = some (.map (es.modify j (fun e => { e with val := .int .i64 ((c : Int) + 1) })) clock) := heap_block hlt1
      have hlist : (es.modify j (fun e => { e with val := .int .i64 ((c : Int) + 1) })).toList = es.toList.set j { e0 with val := .int .i64 ((c : Int) + 1) } := by rw [Array.toList_modify, ChangeMaps.modify_eq_set _ _ _ _ f2]
      have hjl : j < es.toList.length := (List.getElem?_eq_some_iff.1 f2).1
      have fit2 : Fit (H := Unit) Tryd.prog 51 RA (es.modify j (fun e => { e with val := .int .i64 ((c : Int) + 1) })) clock := ⟨by simpa using F.size, MapKept.stamped_modify F.stamped _ _ (fun _ _ => rfl) (fun _ _ _ => rfl), fun x hx => by
        rw [hlist] at hx
        rcases List.mem_or_eq_of_mem_set hx with hx | rfl
        · exact F.reads x hx
        · refine ⟨(l, .nil), ?_⟩
          show (keyOf Tryd.prog 51 e0.key).bind _ = _
          rw [f3, hl]
          rfl⟩
      have hmem : ({ e0 with val := .int .i64 ((c : Int) + 1) } : MapEntry) ∈ (es.modify j (fun e => { e with val := .int .i64 ((c : Int) + 1) })).toList := by
        rw [hlist]
        exact List.mem_iff_getElem.2 ⟨j, by simpa using hjl, by simp⟩
      refine ⟨c, _, _, e0.born, c2, ⟨fun e => by omega, fun e => by cases e⟩, by rw [look_one hh F hr he0 f3, ev], ?_, by rw [look_one hh1 F hr he0 f3, ev], ?_, look_one hh2 fit2 hr hmem f3, ⟨_, _, hh2, fit2, by simp; omega, ?_, ?_⟩, grown_setBlock _, grown_setBlock _⟩
      · simp [Instr.mapEntry, run_underlying Tryd.underlying74, MapKept.run_getObj_map hh, keyed51.check w false hl, f1, hj, f3, keyed51.stays w hl, MapKept.run_setObj_map _ hh, Result.andThen, ChangeMaps.setBlock, goInt, hms, ev]
      · have hf := born_at f2 F.stamped.2.1
        simp [Instr.entryStore, MapKept.run_getObj_map hh1, asInt, asIntOf, hf, MapKept.run_setObj_map _ hh1, Result.andThen]
        rfl
      · intro x hx
        unfold addR
        rw [hin, if_pos rfl]
        rw [hlist] at hx
        rcases List.mem_or_eq_of_mem_set hx with hx | rfl
        · obtain ⟨q', hq', ek', c', c1', c2', ev'⟩ := h1 x hx
          exact ⟨q', hq', ek', c', c1', by omega, ev'⟩
        · exact ⟨q, hq, ek, c + 1, by omega, by omega, by simp⟩
      · intro q' hq'
        unfold addR at hq'
        rw [hin, if_pos rfl] at hq'
        obtain ⟨x, hx, ekx⟩ := h2 q' hq'
        obtain ⟨i, hi, ei⟩ := List.getElem_of_mem hx
        by_cases hij : j = i
        · subst hij
          refine ⟨_, hmem, ?_⟩
          have : e0 = x := by rw [List.getElem?_eq_getElem hi, ei] at f2; injection f2 with f2; exact f2.symm
          rw [this]
          exact ekx
        · refine ⟨x, ?_, ekx⟩
          rw [hlist]
          exact List.mem_iff_getElem.2 ⟨i, by simpa using hi, by rw [List.getElem_set_ne hij]; exact ei⟩
end Go.Proofs.YtkieljleopbhoaaDoor.Lex
