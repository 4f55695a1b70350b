/-
  has: is a text one of some; a set of names in memory.
-/
import Derived.Test.YtgkbbdenmgienaaDoorG9
import Derived.Test.YtgkbbdenmgienaaDoorG2
namespace Go.Proofs.YtgkbbdenmgienaaDoor.Lex
open Go.ChangeShapes Go.WideShapes Go.ChangeAt Go.RowKit Go.Joins Go.WideMaps Go.WideElems Go.Maps
def hasF (l : List ByteArray) (s : ByteArray) : Bool := l.any fun x => x.data.toList == s.data.toList
theorem hasF_iff {l : List ByteArray} {s : ByteArray} : hasF l s = true ↔ s ∈ l := by
  unfold hasF
  rw [List.any_eq_true]
  constructor
  · rintro ⟨x, hx, e⟩
    have : x = s := bytes_eq (by simpa using e)
    rw [← this]
    exact hx
  · intro h
    exact ⟨s, h, by simp⟩
theorem TxR.form {W : World} {v : Value} {l : List ByteArray} (h : TxR W v l) : ∃ a c, v = .slice a l.length c ∧ (l.length = 0 ∨ ∃ g, a = some ⟨g, 0, none⟩ ∧ ∀ i (h : i < l.length), W.cell? ⟨g, i, none⟩ = some (.string l[i])) := by
  rcases h with ⟨rfl, rfl⟩ | ⟨g, c, rfl, hc⟩
  · exact ⟨none, 0, rfl, .inl rfl⟩
  · exact ⟨_, c, rfl, .inr ⟨g, rfl, fun i hi => hc i _ (by simp [txC, hi])⟩⟩
set_option maxRecDepth 100000 in
set_option maxHeartbeats 1000000 in
theorem has_ (l : List ByteArray) (v : Value) (s : ByteArray) (w : World) (h : TxR w v l) (hl : l.length ≤ 1000000) : Calls Tryd.prog 12 #[v, .string s] w fun e w' => e = .returned (.bool (hasF l s)) ∧ w' = w := by
  obtain ⟨a, c, rfl, hc⟩ := h.form
  have HC := hid hc
  clear hc h
  go_enter Tryd.func12, Tryd.ntmps12
  go_wp2_with (fail)
  go_loopw [5] (fun i wr => ∃ k : Nat, k ≤ l.length ∧ i = .int .i64 (k : Int) ∧ Hid (hasF (l.take k) s = false) ∧ wr = w) (fun i _ => l.length - (intOf i).toNat)
  case atStart => exact ⟨0, Nat.zero_le _, rfl, hid rfl, rfl⟩
  case round =>
    obtain ⟨k, hk, rfl, hF, rfl⟩ := hrel
    by_cases hkl : k < l.length
    · have hkl' : (k : Int) < (l.length : Int) := by omega
      have hk0 : (0 : Int) ≤ (k : Int) := by omega
      obtain ⟨g, rfl, hcc⟩ := HC.out.resolve_left (by omega)
      have x0 := hcc k hkl
      clear hcc
      have HT : Hid (hasF (l.take (k + 1)) s = (l[k].data.toList == s.data.toList)) := hid (by have := hF.out; unfold hasF at this ⊢; rw [List.take_succ_eq_append_getElem hkl, List.any_append, this]; simp)
      have HA : Hid ((l[k].data.toList == s.data.toList) = true → hasF l s = true) := hid (fun h => List.any_eq_true.2 ⟨_, List.getElem_mem hkl, h⟩)
      generalize l[k] = y at *
      cases hy : (y.data.toList == s.data.toList) with
      | true =>
        have hY := hid (HA.out hy)
        have he : (y.toList == s.toList) = true := by rw [ByteArray.toList_eq, ByteArray.toList_eq]; exact hy
        clear hy HA HT
        go_wp2
        go_ret
        exact ⟨by rw [hY.out]; rfl, rfl⟩
      | false =>
        have hY := hid hy
        have he : (y.toList == s.toList) = false := by rw [ByteArray.toList_eq, ByteArray.toList_eq]; exact hy
        clear hy HA
        go_wp2
        go_roundw
        case rel => exact ⟨k + 1, by omega, by go_num, hid (by rw [HT.out]; exact hY.out), trivial⟩
        case measure => simp [intOf]; omega
    · have hkl' : ¬ (k : Int) < (l.length : Int) := by omega
      have hA : Hid (hasF l s = false) := hid (by have := hF.out; rw [List.take_of_length_le (by omega)] at this; exact this)
      go_wp2
      go_ret
      exact ⟨by rw [hA.out]; rfl, rfl⟩
/-- A set of names in memory: a map of yes. -/
def SetK (W : World) (mb : Nat) (K : List ByteArray) : Prop := ∃ es clock, W.heap[mb]? = some (.map es clock) ∧ Fit Tryd.prog 9 RA es clock ∧ es.toList.map (·.key) = K.map Value.string ∧ K.Nodup
theorem SetK.lt {W : World} {mb : Nat} {K : List ByteArray} (h : SetK W mb K) : mb < W.heap.size := by
  obtain ⟨es, clock, h1, _⟩ := h
  exact (Array.getElem?_eq_some_iff.1 h1).1
theorem SetK.keep {W W' : World} {mb : Nat} {K : List ByteArray} (h : SetK W mb K) (hb : Below W.heap.size W W') : SetK W' mb K := by
  have hl := h.lt
  obtain ⟨es, clock, h1, h2⟩ := h
  exact ⟨es, clock, (hb.block _ hl).trans h1, h2⟩
theorem SetK.new (W : World) : SetK (W.alloc (.map #[] 0)) W.heap.size [] := ⟨#[], 0, heap_alloc_new _ _, ⟨by simp, ⟨fun _ h => by simp at h, by simp, by simp⟩, fun _ h => by simp at h⟩, rfl, List.nodup_nil⟩
theorem SetK.len {W : World} {mb : Nat} {K : List ByteArray} (h : SetK W mb K) (ty : TypeId) : (Builtin.len_ #[33] ty #[.map (some mb)]).run Tryd.prog W = .ok (.int .i64 (K.length : Int)) W := by
  obtain ⟨es, clock, h1, h2, h3, _⟩ := h
  have e : es.size = K.length := by
    have := congrArg List.length h3
    simpa using this
  simp [Builtin.len_, run_underlying Tryd.underlying33, MapKept.run_getObj_map h1, Result.andThen, goInt, e]
theorem keyedS : KeyLaw Tryd.prog 9 := string_law Tryd.underlying9
set_option maxRecDepth 100000 in
theorem SetK.put {W : World} {mb : Nat} {K : List ByteArray} (h : SetK W mb K) {s : ByteArray} (hs : s.size ≤ 1000000) (hK : K.length ≤ 1000000) :
    ∃ W' K', (Instr.mapUpdate 33 (.map (some mb)) (.string s) (.bool true)).run Tryd.prog W = .ok () W' ∧ SetK W' mb K' ∧ W.grownBy W' (some mb) ∧ K'.length ≤ K.length + 1 ∧ ∀ x, x ∈ K' ↔ x ∈ K ∨ x = s := by
  obtain ⟨es, clock, hh, F, hk, hn⟩ := h
  have hlt := (Array.getElem?_eq_some_iff.1 hh).1
  have hl := key9 (s := s) (by omega)
  have hsz : es.size = K.length := by
    have := congrArg List.length hk
    simpa using this
  have inj : ∀ a b : ByteArray, Value.string a = Value.string b → a = b := fun a b e => by injection e
  rcases keyedS.find W hl es.toList F.keys with ⟨f1, f2⟩ | ⟨j, e0, f1, f2, f3⟩
  · have hno : s ∉ K := fun hm => by
      have : Value.string s ∈ es.toList.map (·.key) := by rw [hk]; exact List.mem_map.2 ⟨s, hm, rfl⟩
      obtain ⟨x, hx, e⟩ := List.mem_map.1 this
      exact f2 x hx e
    have fit2 : Fit (H := Unit) Tryd.prog 9 RA (es.push ⟨.string s, .bool true, clock⟩) (clock + 1) := ⟨by simp; unfold maxLen; omega, MapKept.stamped_push F.stamped f2, fun x hx => by
      simp only [Array.toList_push, List.mem_append, List.mem_singleton] at hx
      rcases hx with hx | rfl
      · exact F.reads x hx
      · exact ⟨_, rd_mk hl rfl⟩⟩
    refine ⟨ChangeMaps.setBlock W mb (.map (es.push ⟨.string s, .bool true, clock⟩) (clock + 1)), K ++ [s], ?_, ⟨_, _, heap_block hlt, fit2, by simp [hk], ?_⟩, grown_setBlock _, by simp, fun x => by simp⟩
    · simp [Instr.mapUpdate, run_underlying Tryd.underlying33, MapKept.run_getObj_map hh, keyedS.check W false hl, f1, MapKept.run_setObj_map _ hh, Result.andThen, ChangeMaps.setBlock]
    · rw [List.nodup_append]
      exact ⟨hn, by simp, fun a ha b hb e => hno (by rw [← List.mem_singleton.1 hb, ← e]; exact ha)⟩
  · have hj : es[j]? = some e0 := by simpa using f2
    have he0 := List.mem_of_getElem? f2
    have hin : s ∈ K := by
      have : e0.key ∈ es.toList.map (·.key) := List.mem_map.2 ⟨e0, he0, rfl⟩
      rw [hk, f3] at this
      obtain ⟨x, hx, e⟩ := List.mem_map.1 this
      rw [← inj _ _ e]
      exact hx
    have hlist : (es.modify j (fun e' => { e' with key := .string s, val := .bool true })).toList = es.toList.set j { e0 with key := .string s, val := .bool true } := by rw [Array.toList_modify, ChangeMaps.modify_eq_set _ _ _ _ f2]
    have hkeys : (es.modify j (fun e' => { e' with key := .string s, val := .bool true })).toList.map (·.key) = K.map Value.string := by
      rw [hlist, List.map_set, hk]
      apply set_self
      rw [← hk, List.getElem?_map, f2]
      simp [f3]
    have fit2 : Fit (H := Unit) Tryd.prog 9 RA (es.modify j (fun e' => { e' with key := .string s, val := .bool true })) clock := ⟨by simpa using F.size, MapKept.stamped_modify F.stamped _ _ (fun _ _ => rfl) (fun e _ he => by
      have : e = e0 := by rw [hj] at he; exact (Option.some.inj he).symm
      rw [this, f3]), fun x hx => by
      rw [hlist] at hx
      rcases List.mem_or_eq_of_mem_set hx with hx | rfl
      · exact F.reads x hx
      · exact ⟨_, rd_mk hl rfl⟩⟩
    refine ⟨ChangeMaps.setBlock W mb (.map (es.modify j (fun e' => { e' with key := .string s, val := .bool true })) clock), K, ?_, ⟨_, _, heap_block hlt, fit2, hkeys, hn⟩, grown_setBlock _, by omega, fun x => ⟨.inl, fun h => h.elim id (fun e => e ▸ hin)⟩⟩
    simp [Instr.mapUpdate, run_underlying Tryd.underlying33, MapKept.run_getObj_map hh, keyedS.check W false hl, f1, hj, f3, keyedS.stays W hl, MapKept.run_setObj_map _ hh, Result.andThen, ChangeMaps.setBlock]
end Go.Proofs.YtgkbbdenmgienaaDoor.Lex
