/-
  A program all of whose names are one station's: plain mathematics.
  Rows of heads and of flows that are copied, and turned.
  A program whose rows are copied and turned, while that is done.
  A byte that came in, as a number.
  A program whose rows are copied and turned: what a walk meets.
  The walk of CutsNear.
-/
import Derived.Test.YtgkbbdenmgienaaDoorG9
import Derived.Deep.AppendLies
import Derived.Maps.AppendAt
import Derived.Laws.AppendOwnNone
import Derived.Test.YtgkbbdenmgienaaDoorG3
namespace Go.Proofs.YtgkbbdenmgienaaDoor.Lex
def setH (s : Int) (x : Hd) : Hd := { x with st := s }
def setF (s : Int) (x : Fl) : Fl := { x with st := s }
/-- All names are one station's. -/
def near (p : Pg) (s : Int) : Pg := ⟨p.st, p.ins.map (setH s), p.flows.map (setF s), p.outs⟩
theorem near_things (p : Pg) (s : Int) : ∀ x ∈ thingsL (near p s), x.2.st = s := by
  intro x hx
  rcases List.mem_append.1 hx with hx | hx
  · obtain ⟨y, hy, rfl⟩ := List.mem_map.1 hx
    obtain ⟨z, _, rfl⟩ := List.mem_map.1 hy
    rfl
  · obtain ⟨i, hi, rfl⟩ := List.mem_map.1 hx
    have hi' := List.mem_range.1 hi
    dsimp only
    rw [List.getElem?_eq_getElem hi']
    have : (near p s).flows[i] = setF s (p.flows[i]'(by simpa [near] using hi')) := by simp [near]
    show ((near p s).flows[i]).hd.st = s
    rw [this]
    rfl
theorem near_decl_ne {p : Pg} {s t : Int} (h : t ≠ s) : declL (near p s) t = [] := by
  rw [List.eq_nil_iff_forall_not_mem]
  intro nm hn
  obtain ⟨x, hx, _, e⟩ := declL_mem.1 hn
  exact h (e.symm.trans (near_things p s x hx))
theorem near_decl (p : Pg) (s : Int) : declL (near p s) s = p.ins.map (·.name) ++ p.flows.map (·.name) := by
  unfold declL inN flN near
  congr 1
  · rw [List.filter_eq_self.2 (fun x hx => by obtain ⟨y, _, rfl⟩ := List.mem_map.1 hx; simp [setH]), List.map_map]
    rfl
  · rw [List.filter_eq_self.2 (fun x hx => by obtain ⟨y, _, rfl⟩ := List.mem_map.1 hx; simp [setF]), List.map_map]
    rfl
theorem near_ak {p : Pg} {s : Int} {nm : ByteArray} {y : Ak} (hy : y ∈ akOf (akAll (near p s)) nm) : y.st = s := by
  obtain ⟨x, hx, rfl⟩ := List.mem_map.1 hy
  have hx := (List.mem_filter.1 hx).1
  obtain ⟨k, hk, hx⟩ := List.mem_flatMap.1 hx
  have hk := List.mem_range.1 hk
  rw [akL_at hk] at hx
  obtain ⟨r, hr, rfl⟩ := List.mem_map.1 hx
  have : (near p s).flows[k] = setF s (p.flows[k]'(by simpa [near] using hk)) := by simp [near]
  show (near p s).flows[k].st = s
  rw [this]
  rfl
theorem near_sends (p : Pg) (s t : Int) : sendsA (near p s) t = [] := by
  unfold sendsA
  split
  · rw [List.eq_nil_iff_forall_not_mem]
    intro nm hn
    obtain ⟨h1, h2⟩ := List.mem_filter.1 hn
    obtain ⟨x, hx, _, e⟩ := declL_mem.1 h1
    have e2 := near_things p s x hx
    obtain ⟨y, hy, hf⟩ := anyL_iff.1 h2
    have e3 := near_ak hy
    unfold farB at hf
    rw [e3, ← e, e2] at hf
    simp at hf
  · rfl
theorem near_need {p : Pg} {s : Int} (hE : nmErr (near p s) = 0) (t : Int) : needL (near p s) t = [] := by
  rw [List.eq_nil_iff_forall_not_mem]
  intro nm hn
  obtain ⟨x, hx, _, hne, ha⟩ := (need_iff hE).1 hn
  obtain ⟨y, hy, hh⟩ := anyL_iff.1 ha
  have e2 := near_things p s x hx
  have e3 := near_ak hy
  unfold hereB at hh
  have : y.st = t := by simpa using hh
  exact hne (by rw [e2, ← this, e3])
theorem near_needs {p : Pg} {s : Int} (hE : nmErr (near p s) = 0) (t : Int) : needsA (near p s) t = [] := by
  unfold needsA
  split
  · exact near_need hE t
  · rfl
theorem near_places_ne {p : Pg} {s t : Int} (hE : nmErr (near p s) = 0) (l : List Int) (h : t ≠ s) : placesL (near p s) l t = [] := by
  unfold placesL allN_
  rw [near_decl_ne h, near_need hE]
  rfl
theorem near_places {p : Pg} {s : Int} (hE : nmErr (near p s) = 0) (l : List Int) : placesL (near p s) l s = (p.ins.map (·.name) ++ p.flows.map (·.name)).map (plcF (near p s) l s) := by
  unfold placesL allN_
  rw [near_decl, near_need hE, List.append_nil]
theorem near_far {p : Pg} {s : Int} (l : List Int) {nm : ByteArray} (h : nm ∈ p.ins.map (·.name) ++ p.flows.map (·.name)) : (plcF (near p s) l s nm).far = false := by
  have h1 : nm ∈ declL (near p s) s := by rw [near_decl]; exact h
  obtain ⟨x, hx, e, _⟩ := declL_mem.1 h1
  obtain ⟨y, hy⟩ := thing_found hx
  rw [e] at hy
  have e2 := near_things p s y (findT_mem hy).1
  unfold plcF
  rw [hy]
  show (!(y.2.st == s)) = false
  rw [e2]
  simp
end Go.Proofs.YtgkbbdenmgienaaDoor.Lex
namespace Go.Proofs.YtgkbbdenmgienaaDoor.Lex
open Go.ChangeShapes Go.WideShapes Go.ChangeAt Go.RowKit Go.Joins
theorem infF51 : (Tryd.prog.info? 51).map (fun i => (i.zero, i.size, i.bytes)) = some (some (.agg #[.string ByteArray.empty, .int .u8 0, .int .i64 0, .int .i64 0, .int .u8 0, .int .i64 0, .string ByteArray.empty, .slice none 0 0]), 8, 96) := by kernel_rfl
theorem infH45 : (Tryd.prog.info? 45).map (fun i => (i.zero, i.size, i.bytes)) = some (some (.agg #[.string ByteArray.empty, .int .u8 0, .int .i64 0]), 3, 32) := by kernel_rfl
/-- The flows, each with the parts of its body. -/
def prs (l : List Fl) (SL : Nat → Value) : List (Fl × Value) := l.mapIdx fun i f => (f, SL i)
theorem prs_len (l : List Fl) (SL : Nat → Value) : (prs l SL).length = l.length := by unfold prs; simp
theorem prs_fst (l : List Fl) (SL : Nat → Value) : (prs l SL).map (·.1) = l := by
  unfold prs
  refine List.ext_getElem (by simp) fun i h1 h2 => ?_
  simp
theorem prs_at (l : List Fl) (SL : Nat → Value) (i : Nat) (h : i < l.length) : (prs l SL)[i]'(by rw [prs_len]; exact h) = (l[i], SL i) := by unfold prs; simp
/-- The cells of so many flows. -/
def flC (l : List (Fl × Value)) : List Value := (l.map fun q => flL q.1 q.2).flatten
theorem flC_len (l : List (Fl × Value)) : (flC l).length = l.length * 8 := by
  unfold flC
  rw [flat_len (c := 8) (fun e he => by obtain ⟨q, _, rfl⟩ := List.mem_map.1 he; rfl), List.length_map]
theorem flC_at (l : List (Fl × Value)) {i j : Nat} (hi : i < l.length) (hj : j < 8) : (flC l)[i * 8 + j]? = (flL l[i].1 l[i].2)[j]? := by
  have := flat_at (c := 8) (es := l.map fun q => flL q.1 q.2) (i := i) (e := flL l[i].1 l[i].2) (j := j) (rest := []) (fun e he => by obtain ⟨q, _, rfl⟩ := List.mem_map.1 he; rfl) (by simp [hi]) hj
  rw [List.append_nil] at this
  exact this
theorem flC_one (l : List (Fl × Value)) (hS : ∀ q ∈ l, q.2.oneCell' = true) : ∀ u ∈ flC l, u.oneCell' = true := fun u hu => by
  obtain ⟨e, he, hu⟩ := List.mem_flatten.1 hu
  obtain ⟨q, hq, rfl⟩ := List.mem_map.1 he
  have := hS q hq
  simp at hu
  rcases hu with rfl | rfl | rfl | rfl | rfl | rfl | rfl | rfl <;> first | rfl | exact this
theorem st_one {W : World} {x : Ex} {s : Value} (h : St W x s) : s.oneCell' = true := by
  obtain ⟨_, _, _, rfl, _⟩ := h.out
  rfl
/-- Flows that lie there are what is copied. -/
theorem news_flows {W : World} {l : List Fl} {SL : Nat → Value} {fb fo : Nat} (h : ∀ i (h : i < l.length), FlCells W fb (fo + i * 8) l[i] (SL i)) : ∀ j u, (flC (prs l SL))[j]? = some u → W.cell? ((⟨fb, fo, none⟩ : Addr).add j) = some u := fun j u hu => by
  have hj : j < l.length * 8 := by
    have := (List.getElem?_eq_some_iff.1 hu).1
    rwa [flC_len, prs_len] at this
  obtain ⟨i, r, hr, rfl⟩ : ∃ i r, r < 8 ∧ j = i * 8 + r := ⟨j / 8, j % 8, Nat.mod_lt _ (by omega), by omega⟩
  have hi : i < l.length := by omega
  rw [flC_at _ (by rw [prs_len]; exact hi) hr, prs_at l SL i hi] at hu
  rw [Addr.add_mid, show fo + (i * 8 + r) = fo + i * 8 + r by omega]
  obtain ⟨q0, q1, q2, q3, q4, q5, q6, q7⟩ := h i hi
  rcases (by omega : r = 0 ∨ r = 1 ∨ r = 2 ∨ r = 3 ∨ r = 4 ∨ r = 5 ∨ r = 6 ∨ r = 7) with rfl | rfl | rfl | rfl | rfl | rfl | rfl | rfl
  · rw [Nat.add_zero, q0]; exact hu
  · rw [q1]; exact hu
  · rw [q2]; exact hu
  · rw [q3]; exact hu
  · rw [q4]; exact hu
  · rw [q5]; exact hu
  · rw [q6]; exact hu
  · rw [q7]; exact hu
/-- Flows that stand in an own row. -/
theorem flows_own {W : World} {base g cap : Nat} (l : List (Fl × Value)) (h : W.ownsRow base 51 8 (.slice (some ⟨g, 0, none⟩) l.length cap) l.length (flC l)) (hok : ∀ q ∈ l, q.1.ok) (hS : ∀ q ∈ l, St W q.1.body q.2) (hl : l.length ≤ 1000000) : FlowsAt W (l.map (·.1)) (.slice (some ⟨g, 0, none⟩) l.length cap) := by
  have hcap : l.length ≤ cap := by
    rcases h.2 with ⟨h, _⟩ | ⟨g', c', cur, e, _, _, h1, _⟩
    · cases h
    · injection e with _ _ e3
      subst e3
      exact h1
  refine ⟨_, cap, fun i => ((l[i]?).map (·.2)).getD N0, by rw [List.length_map], by rw [List.length_map]; omega, by rw [List.length_map]; omega, ?_, .inr ⟨g, 0, rfl, fun i hi => ?_⟩, fun i hi => ?_⟩
  · intro x hx
    obtain ⟨q, hq, rfl⟩ := List.mem_map.1 hx
    exact hok q hq
  · have hi' : i < l.length := by simpa using hi
    have q : ∀ j, j < 8 → W.cell? ⟨g, 0 + i * 8 + j, none⟩ = (flL l[i].1 l[i].2)[j]? := fun j hj => by
      rw [Nat.zero_add]
      exact (h.cellAt (i * 8 + j) (by omega)).trans (flC_at l hi' hj)
    have e : ((l[i]?).map (·.2)).getD N0 = l[i].2 := by simp [hi']
    have e2 : (l.map (·.1))[i] = l[i].1 := by simp
    rw [e2]
    simp only [e]
    exact ⟨q 0 (by omega), q 1 (by omega), q 2 (by omega), q 3 (by omega), q 4 (by omega), q 5 (by omega), q 6 (by omega), q 7 (by omega)⟩
  · have hi' : i < l.length := by simpa using hi
    have e : ((l[i]?).map (·.2)).getD N0 = l[i].2 := by simp [hi']
    have e2 : (l.map (·.1))[i] = l[i].1 := by simp
    rw [e2]
    simp only [e]
    exact hS _ (List.getElem_mem hi')
theorem flat_set {c : Nat} : ∀ (es : List (List Value)) (i j : Nat) (u : Value) (h : i < es.length), (∀ e ∈ es, e.length = c) → j < c → es.flatten.set (i * c + j) u = (es.set i ((es[i]).set j u)).flatten
  | a :: t, 0, j, u, _, hc, hj => by
    have ha := hc a (by simp)
    show (a ++ t.flatten).set (0 * c + j) u = (a.set j u :: t).flatten
    rw [Nat.zero_mul, Nat.zero_add, List.set_append_left _ _ (by omega)]
    rfl
  | a :: t, i + 1, j, u, h, hc, hj => by
    have ha := hc a (by simp)
    have ih := flat_set t i j u (by simpa using h) (fun e he => hc e (by simp [he])) hj
    show (a ++ t.flatten).set ((i + 1) * c + j) u = (a :: t.set i ((t[i]'(by simpa using h)).set j u)).flatten
    rw [List.set_append_right _ _ (by rw [ha, Nat.add_mul]; omega)]
    have e : (i + 1) * c + j - a.length = i * c + j := by rw [ha, Nat.add_mul]; omega
    rw [e, ih]
    rfl
theorem own_setn {e : TypeId} {w : World} {lo n c0 : Nat} {v : Value} {xs : List Value} (h : w.ownsRow lo e c0 v n xs) {b c i : Nat} (hv : v = .slice (some ⟨b, 0, none⟩) n c) (x : Value) : (w.setCell ⟨b, i, none⟩ x).ownsRow lo e c0 v n (xs.set i x) := by
  obtain ⟨h1, ⟨h2, _⟩ | ⟨g, cap, cur, e2, hg, hr, hc, hm, hs, ht⟩⟩ := h
  · rw [h2] at hv; cases hv
  · rw [hv] at e2
    injection e2 with e3 _ e4
    injection e3 with e3
    injection e3 with e3
    subst e3 e4
    refine ⟨by rw [List.length_set]; exact h1, .inr ⟨b, c, cur.setIfInBounds i x, hv, hg, ?_, hc, hm, by simpa using hs, ?_⟩⟩
    · rw [setCell_eq_setRow w b i cur e (0, 0) x hr]
      exact setRow_heap _ _ _ _ _ _ hr
    · rw [← ht, Array.toList_setIfInBounds, List.take_set]
/-- The cells of so many heads. -/
def hdC (l : List Hd) : List Value := (l.map hdL).flatten
theorem hdC_len (l : List Hd) : (hdC l).length = l.length * 3 := by
  unfold hdC
  rw [flat_len (c := 3) (fun e he => by obtain ⟨q, _, rfl⟩ := List.mem_map.1 he; rfl), List.length_map]
theorem hdC_at (l : List Hd) {i j : Nat} (hi : i < l.length) (hj : j < 3) : (hdC l)[i * 3 + j]? = (hdL l[i])[j]? := by
  have := flat_at (c := 3) (es := l.map hdL) (i := i) (e := hdL l[i]) (j := j) (rest := []) (fun e he => by obtain ⟨q, _, rfl⟩ := List.mem_map.1 he; rfl) (by simp [hi]) hj
  rw [List.append_nil] at this
  exact this
theorem hdC_one (l : List Hd) : ∀ u ∈ hdC l, u.oneCell' = true := fun u hu => by
  obtain ⟨e, he, hu⟩ := List.mem_flatten.1 hu
  obtain ⟨q, _, rfl⟩ := List.mem_map.1 he
  simp at hu
  rcases hu with rfl | rfl | rfl <;> rfl
theorem news_ins {W : World} {l : List Hd} {b o : Nat} (h : ∀ i (h : i < l.length), HdCells W b (o + i * 3) l[i]) : ∀ j u, (hdC l)[j]? = some u → W.cell? ((⟨b, o, none⟩ : Addr).add j) = some u := fun j u hu => by
  have hj : j < l.length * 3 := by
    have := (List.getElem?_eq_some_iff.1 hu).1
    rwa [hdC_len] at this
  obtain ⟨i, r, hr, rfl⟩ : ∃ i r, r < 3 ∧ j = i * 3 + r := ⟨j / 3, j % 3, Nat.mod_lt _ (by omega), by omega⟩
  have hi : i < l.length := by omega
  rw [hdC_at _ hi hr] at hu
  have e : (⟨b, o, none⟩ : Addr).add (i * 3 + r) = ⟨b, o + i * 3 + r, none⟩ := by unfold Addr.add; split <;> simp_all <;> omega
  rw [e]
  obtain ⟨q0, q1, q2⟩ := h i hi
  rcases (by omega : r = 0 ∨ r = 1 ∨ r = 2) with rfl | rfl | rfl
  · rw [Nat.add_zero, q0]; exact hu
  · rw [q1]; exact hu
  · rw [q2]; exact hu
theorem ins_own {W : World} {base : Nat} {v : Value} (l : List Hd) (h : W.ownsRow base 45 3 v l.length (hdC l)) (hok : ∀ x ∈ l, x.ok) (hl : l.length ≤ 1000000) : InsAt W l v := by
  rcases h.2 with ⟨rfl, h0⟩ | ⟨g, cap, cur, rfl, _, _, h1, _⟩
  · exact ⟨none, 0, by rw [h0], by omega, by omega, hok, .inl h0⟩
  · refine ⟨_, cap, rfl, by omega, h1, hok, .inr ⟨g, 0, rfl, fun i hi => ?_⟩⟩
    have q : ∀ j, j < 3 → W.cell? ⟨g, 0 + i * 3 + j, none⟩ = (hdL l[i])[j]? := fun j hj => by
      rw [Nat.zero_add]
      exact (h.cellAt (i * 3 + j) (by omega)).trans (hdC_at l hi hj)
    exact ⟨q 0 (by omega), q 1 (by omega), q 2 (by omega)⟩
theorem flows_ownv {W : World} {base : Nat} {v : Value} (l : List (Fl × Value)) (h : W.ownsRow base 51 8 v l.length (flC l)) (hok : ∀ q ∈ l, q.1.ok) (hS : ∀ q ∈ l, St W q.1.body q.2) (hl : l.length ≤ 1000000) : FlowsAt W (l.map (·.1)) v := by
  rcases h.2 with ⟨rfl, h0⟩ | ⟨g, cap, cur, rfl, _⟩
  · have e : l = [] := List.eq_nil_of_length_eq_zero h0
    subst e
    exact ⟨none, 0, fun _ => N0, rfl, by simp, Nat.le_refl _, fun _ h => (by cases h), .inl rfl, fun i hi => absurd hi (by simp)⟩
  · exact flows_own l h hok hS hl
/-- The first heads are turned. -/
def insK (s : Int) (k : Nat) (l : List Hd) : List Hd := (l.take k).map (setH s) ++ l.drop k
def flsK (s : Int) (k : Nat) (l : List (Fl × Value)) : List (Fl × Value) := (l.take k).map (fun q => (setF s q.1, q.2)) ++ l.drop k
theorem insK_len (s : Int) (k : Nat) (l : List Hd) : (insK s k l).length = l.length := by unfold insK; simp; omega
theorem flsK_len (s : Int) (k : Nat) (l : List (Fl × Value)) : (flsK s k l).length = l.length := by unfold flsK; simp; omega
theorem insK_succ (s : Int) {k : Nat} (l : List Hd) (h : k < l.length) : (hdC (insK s k l)).set (k * 3 + 2) (.int .i64 s) = hdC (insK s (k + 1) l) := by
  unfold hdC
  have hk : k < (insK s k l).length := by rw [insK_len]; exact h
  rw [flat_set (c := 3) _ k 2 _ (by simpa using hk) (fun e he => by obtain ⟨q, _, rfl⟩ := List.mem_map.1 he; rfl) (by omega)]
  congr 1
  have e0 : (insK s k l)[k]? = some l[k] := by
    unfold insK
    rw [List.getElem?_append_right (by simp; omega)]
    simp [Nat.min_eq_left (Nat.le_of_lt h), h]
  have e1 : (insK s k l)[k] = l[k] := Option.some.inj ((List.getElem?_eq_getElem hk).symm.trans e0)
  have e2 : insK s (k + 1) l = (insK s k l).set k (setH s l[k]) := by
    unfold insK
    rw [List.take_succ_eq_append_getElem h, List.map_append, List.set_append_right _ _ (by simp; omega)]
    have e3 : k - ((l.take k).map (setH s)).length = 0 := by simp; omega
    rw [e3]
    simp
    rw [List.drop_eq_getElem_cons h]
    rfl
  rw [e2, List.map_set]
  congr 1
  rw [List.getElem_map, e1]
  rfl
theorem flsK_succ (s : Int) {k : Nat} (l : List (Fl × Value)) (h : k < l.length) : (flC (flsK s k l)).set (k * 8 + 2) (.int .i64 s) = flC (flsK s (k + 1) l) := by
  unfold flC
  have hk : k < (flsK s k l).length := by rw [flsK_len]; exact h
  rw [flat_set (c := 8) _ k 2 _ (by simpa using hk) (fun e he => by obtain ⟨q, _, rfl⟩ := List.mem_map.1 he; rfl) (by omega)]
  congr 1
  have e0 : (flsK s k l)[k]? = some l[k] := by
    unfold flsK
    rw [List.getElem?_append_right (by simp; omega)]
    simp [Nat.min_eq_left (Nat.le_of_lt h), h]
  have e1 : (flsK s k l)[k] = l[k] := Option.some.inj ((List.getElem?_eq_getElem hk).symm.trans e0)
  have e2 : flsK s (k + 1) l = (flsK s k l).set k (setF s l[k].1, l[k].2) := by
    unfold flsK
    rw [List.take_succ_eq_append_getElem h, List.map_append, List.set_append_right _ _ (by simp; omega)]
    have e3 : k - ((l.take k).map (fun q : Fl × Value => (setF s q.1, q.2))).length = 0 := by simp; omega
    rw [e3]
    simp
    rw [List.drop_eq_getElem_cons h]
    rfl
  rw [e2, List.map_set]
  congr 1
  rw [List.getElem_map, e1]
  rfl
theorem insK_all (s : Int) (l : List Hd) : insK s l.length l = l.map (setH s) := by unfold insK; simp
theorem flsK_all (s : Int) (l : List (Fl × Value)) : (flsK s l.length l).map (·.1) = (l.map (·.1)).map (setF s) := by unfold flsK; simp
end Go.Proofs.YtgkbbdenmgienaaDoor.Lex
namespace Go.Proofs.YtgkbbdenmgienaaDoor.Lex
open Go.ChangeShapes Go.WideShapes Go.ChangeAt Go.RowKit Go.Joins
theorem run_append_nn {P : Program} (w : World) (t ty e : TypeId) (i : TypeInfo) (c : Nat) (ht : P.underlying t = some (.slice e)) (hi : P.info? e = some i) : (Builtin.append_ #[t, t] ty #[.slice none 0 0, .slice none 0 c]).run P w = .ok (.slice none 0 0) w := by
  simp [Builtin.append_, run_underlying ht, sizeOf, typeInfo, hi, Builtin.lenOf, Builtin.firstCells]
theorem append_ins {W : World} {l : List Hd} {v : Value} (h : InsAt W l v) (hl : l.length ≤ 1000000) (base : Nat) (hb : base ≤ W.heap.size) : ∃ v' W', (Builtin.append_ #[22, 22] 22 #[.slice none 0 0, v]).run Tryd.prog W = .ok v' W' ∧ W'.ownsRow base 45 3 v' l.length (hdC l) ∧ W.grownBy W' none := by
  obtain ⟨i0, hi, hz0, hz1, hz2⟩ := info_parts infH45
  obtain ⟨ao, cap, rfl, _, _, _, hc⟩ := h
  cases ao with
  | none =>
    have h0 : l.length = 0 := hc.elim id (fun ⟨b, o, e, _⟩ => by cases e)
    have e : l = [] := List.eq_nil_of_length_eq_zero h0
    subst e
    exact ⟨_, _, run_append_nn W 22 22 45 i0 cap Tryd.underlying22 hi, ⟨rfl, .inl ⟨rfl, rfl⟩⟩, World.grownBy.refl _ _⟩
  | some ad =>
    have hnews : ∀ j u, (hdC l)[j]? = some u → W.cell? (ad.add j) = some u := by
      rcases hc with h0 | ⟨b, o, e, hc⟩
      · have e : l = [] := List.eq_nil_of_length_eq_zero h0
        subst e
        intro j u hj
        simp [hdC] at hj
      · obtain rfl := Option.some.inj e
        exact news_ins hc
    obtain ⟨v', w', hr, h2, h3, _, _⟩ := run_append_own_at (P := Tryd.prog) (w := W) base 22 22 45 i0 _ 3 32 Tryd.underlying22 hi hz0 hz1 hz2 rfl (by decide) (.slice none 0 0) 0 [] ⟨rfl, .inl ⟨rfl, rfl⟩⟩ ad l.length cap (hdC l) (hdC_len l) hnews (hdC_one l) (by unfold maxLen; omega) (by omega) hb
    refine ⟨v', w', hr, ?_, h3⟩
    simpa using h2
theorem append_fls {W : World} {l : List Fl} {v : Value} (h : FlowsAt W l v) (hl : l.length ≤ 1000000) (base : Nat) (hb : base ≤ W.heap.size) : ∃ SL v' W', (Builtin.append_ #[23, 23] 23 #[.slice none 0 0, v]).run Tryd.prog W = .ok v' W' ∧ W'.ownsRow base 51 8 v' l.length (flC (prs l SL)) ∧ W.grownBy W' none ∧ ∀ i (h : i < l.length), St W l[i].body (SL i) := by
  obtain ⟨i0, hi, hz0, hz1, hz2⟩ := info_parts infF51
  obtain ⟨ao, cap, SL, rfl, _, _, _, hc, hS⟩ := h
  have hone : ∀ u ∈ flC (prs l SL), u.oneCell' = true := flC_one _ (fun q hq => by
    obtain ⟨i, hi, rfl⟩ := List.getElem_of_mem hq
    rw [prs_len] at hi
    rw [prs_at l SL i hi]
    exact st_one (hS i hi))
  cases ao with
  | none =>
    have h0 : l.length = 0 := hc.elim id (fun ⟨b, o, e, _⟩ => by cases e)
    have e : l = [] := List.eq_nil_of_length_eq_zero h0
    subst e
    exact ⟨SL, _, _, run_append_nn W 23 23 51 i0 cap Tryd.underlying23 hi, ⟨rfl, .inl ⟨rfl, rfl⟩⟩, World.grownBy.refl _ _, hS⟩
  | some ad =>
    have hnews : ∀ j u, (flC (prs l SL))[j]? = some u → W.cell? (ad.add j) = some u := by
      rcases hc with h0 | ⟨b, o, e, hc⟩
      · have e : l = [] := List.eq_nil_of_length_eq_zero h0
        subst e
        intro j u hj
        simp [flC, prs] at hj
      · obtain rfl := Option.some.inj e
        exact news_flows hc
    obtain ⟨v', w', hr, h2, h3, _, _⟩ := run_append_own_at (P := Tryd.prog) (w := W) base 23 23 51 i0 _ 8 96 Tryd.underlying23 hi hz0 hz1 hz2 rfl (by decide) (.slice none 0 0) 0 [] ⟨rfl, .inl ⟨rfl, rfl⟩⟩ ad l.length cap (flC (prs l SL)) (by rw [flC_len, prs_len]) hnews hone (by unfold maxLen; omega) (by omega) hb
    refine ⟨SL, v', w', hr, ?_, h3, hS⟩
    simpa using h2
/-- The rows that are turned, in the program's variable. -/
structure NrI (w : World) (st : Int) (v1 v2 C : Value) (lI : List Hd) (lF : List (Fl × Value)) (W : World) : Prop where
  box : W.heap[w.heap.size]? = some (.cells #[.int .i64 st, v1, v2, C] 26 (0, 0))
  ri : W.ownsRow (w.heap.size + 1) 45 3 v1 lI.length (hdC lI)
  rf : W.ownsRow (w.heap.size + 1) 51 8 v2 lF.length (flC lF)
  below : Below w.heap.size w W
theorem NrI.keep {w W W' : World} {st : Int} {v1 v2 C : Value} {lI : List Hd} {lF : List (Fl × Value)} (h : NrI w st v1 v2 C lI lF W) (hb : Below W.heap.size W W') : NrI w st v1 v2 C lI lF W' := ⟨keep_row h.box hb, own_same h.ri (fun b e => hb.block b (h.ri.lt b e).2), own_same h.rf (fun b e => hb.block b (h.rf.lt b e).2), h.below.trans (hb.mono h.below.size)⟩
theorem NrI.putI {w W : World} {st s : Int} {v2 C : Value} {g n c k : Nat} {l : List Hd} {lF : List (Fl × Value)} (h : NrI w st (.slice (some ⟨g, 0, none⟩) n c) v2 C (insK s k l) lF W) (hn : n = l.length) (hk : k < l.length) : NrI w st (.slice (some ⟨g, 0, none⟩) n c) v2 C (insK s (k + 1) l) lF (W.setCell ⟨g, k * 3 + 2, none⟩ (.int .i64 s)) := by
  have hg := h.ri.lt g rfl
  subst hn
  have h1 := h.ri
  rw [insK_len] at h1
  refine ⟨(Below.heap_setCell _ _ _ _ (by simp; omega)).trans h.box, ?_, own_same h.rf (fun b e => Below.heap_setCell _ _ _ _ (fun e2 => own_kind h.ri h.rf (by decide) rfl (by rw [e]; simp at e2; rw [e2]))), h.below.setCell (p := ⟨g, k * 3 + 2, none⟩) (by simp; omega) _⟩
  rw [insK_len, ← insK_succ s l hk]
  exact own_setn h1 rfl _
theorem NrI.putF {w W : World} {st s : Int} {v1 C : Value} {g n c k : Nat} {lI : List Hd} {l : List (Fl × Value)} (h : NrI w st v1 (.slice (some ⟨g, 0, none⟩) n c) C lI (flsK s k l) W) (hn : n = l.length) (hk : k < l.length) : NrI w st v1 (.slice (some ⟨g, 0, none⟩) n c) C lI (flsK s (k + 1) l) (W.setCell ⟨g, k * 8 + 2, none⟩ (.int .i64 s)) := by
  have hg := h.rf.lt g rfl
  subst hn
  have h1 := h.rf
  rw [flsK_len] at h1
  refine ⟨(Below.heap_setCell _ _ _ _ (by simp; omega)).trans h.box, own_same h.ri (fun b e => Below.heap_setCell _ _ _ _ (fun e2 => own_kind h.rf h.ri (by decide) rfl (by rw [e]; simp at e2; rw [e2]))), ?_, h.below.setCell (p := ⟨g, k * 8 + 2, none⟩) (by simp; omega) _⟩
  rw [flsK_len, ← flsK_succ s l hk]
  exact own_setn h1 rfl _
theorem own_cellf {e : TypeId} {w : World} {lo n c0 : Nat} {xs : List Value} {g c : Nat} (h : w.ownsRow lo e c0 (.slice (some ⟨g, 0, none⟩) n c) n xs) {j : Nat} (hj : j < n * c0) : (∃ u, w.cell? ⟨g, j, none⟩ = some u) ∧ w.frozen? ⟨g, j, none⟩ = false := by
  refine ⟨?_, ?_⟩
  · have := World.ownsRow.cellAt h j hj
    rw [this]
    have hl := h.1
    exact ⟨_, List.getElem?_eq_getElem (by omega)⟩
  · rcases h.2 with ⟨e2, _⟩ | ⟨g2, c2, cur, e2, _, hr, _⟩
    · cases e2
    · injection e2 with e3
      injection e3 with e3
      injection e3 with e3
      subst e3
      exact frozen_of_row _ _ _ _ _ hr
/-- All are turned: a program whose names are all one station's. -/
theorem NrI.done {w W : World} {p : Pg} {s : Int} {v1 v2 A B C : Value} {SL : Nat → Value} (h : NrI w p.st v1 v2 C (insK s p.ins.length p.ins) (flsK s (prs p.flows SL).length (prs p.flows SL)) W) (hP : PgAt w p A B C) (hR : TabR w) (hJ : TabJ w) (hs : 1 ≤ s ∧ s ≤ p.st) (hS : ∀ i (h : i < p.flows.length), St w p.flows[i].body (SL i)) (hi : p.ins.length ≤ 1000000) (hf : p.flows.length ≤ 1000000) : FV w (near p s) v1 v2 C W := by
  have hst := hP.st
  obtain ⟨_, _, _, _, _, hoki, _⟩ := hP.ins
  obtain ⟨_, _, _, _, _, _, hokf, _⟩ := hP.flows
  have h1 := h.ri
  rw [insK_all] at h1
  have h2 := flows_ownv (flsK s (prs p.flows SL).length (prs p.flows SL)) h.rf (fun q hq => ?_) (fun q hq => ?_) (by rw [flsK_len, prs_len]; exact hf)
  · rw [flsK_all, prs_fst] at h2
    exact ⟨h.box, { ins := ins_own _ h1 (fun x hx => by obtain ⟨y, hy, rfl⟩ := List.mem_map.1 hx; have := hoki y hy; exact ⟨this.1, this.2.1, by show (-9223372036854775808 : Int) ≤ s ∧ s ≤ 9223372036854775807; omega⟩) (by show (p.ins.map (setH s)).length ≤ _; simpa using hi), flows := h2, outs := hP.outs.keep h.below, st := hst }, hR.below h.below, hJ.below h.below, h.below⟩
  · have e : flsK s (prs p.flows SL).length (prs p.flows SL) = (prs p.flows SL).map fun q => (setF s q.1, q.2) := by unfold flsK; simp
    rw [e] at hq
    obtain ⟨y, hy, rfl⟩ := List.mem_map.1 hq
    obtain ⟨i, hi2, rfl⟩ := List.getElem_of_mem hy
    rw [prs_len] at hi2
    rw [prs_at p.flows SL i hi2]
    have := hokf _ (List.getElem_mem hi2)
    exact ⟨this.1, this.2.1, by show (-9223372036854775808 : Int) ≤ s ∧ s ≤ 9223372036854775807; omega, this.2.2.2⟩
  · have e : flsK s (prs p.flows SL).length (prs p.flows SL) = (prs p.flows SL).map fun q => (setF s q.1, q.2) := by unfold flsK; simp
    rw [e] at hq
    obtain ⟨y, hy, rfl⟩ := List.mem_map.1 hq
    obtain ⟨i, hi2, rfl⟩ := List.getElem_of_mem hy
    rw [prs_len] at hi2
    rw [prs_at p.flows SL i hi2]
    exact (hS i hi2).keep h.below
end Go.Proofs.YtgkbbdenmgienaaDoor.Lex
namespace Go.Proofs.YtgkbbdenmgienaaDoor.Lex
theorem nat_c {n : Int} (h : (Lit.int .u8 n).wf = true) : ∃ k : Nat, k < 256 ∧ n = (k : Int) := by
  simp [Lit.wf, IntKind.min, IntKind.max, IntKind.signed, IntKind.bits] at h
  exact ⟨n.toNat, by omega, by omega⟩
end Go.Proofs.YtgkbbdenmgienaaDoor.Lex
namespace Go.Proofs.YtgkbbdenmgienaaDoor.Lex
open Go.ChangeShapes Go.WideShapes Go.ChangeAt Go.RowKit Go.Joins
theorem append_fls2 {w W : World} {l : List Fl} {v : Value} (h : FlowsAt w l v) (hw : Below w.heap.size w W) (hl : l.length ≤ 1000000) (base : Nat) (hb : base ≤ W.heap.size) : ∃ SL v' W', (Builtin.append_ #[23, 23] 23 #[.slice none 0 0, v]).run Tryd.prog W = .ok v' W' ∧ W'.ownsRow base 51 8 v' (prs l SL).length (flC (prs l SL)) ∧ W.grownBy W' none ∧ ∀ i (h : i < l.length), St w l[i].body (SL i) := by
  obtain ⟨i0, hi, hz0, hz1, hz2⟩ := info_parts infF51
  obtain ⟨ao, cap, SL, rfl, _, _, _, hc, hS⟩ := h
  have hone : ∀ u ∈ flC (prs l SL), u.oneCell' = true := flC_one _ (fun q hq => by
    obtain ⟨i, hi, rfl⟩ := List.getElem_of_mem hq
    rw [prs_len] at hi
    rw [prs_at l SL i hi]
    exact st_one (hS i hi))
  cases ao with
  | none =>
    have h0 : l.length = 0 := hc.elim id (fun ⟨b, o, e, _⟩ => by cases e)
    have e : l = [] := List.eq_nil_of_length_eq_zero h0
    subst e
    exact ⟨SL, _, _, run_append_nn W 23 23 51 i0 cap Tryd.underlying23 hi, ⟨rfl, .inl ⟨rfl, rfl⟩⟩, World.grownBy.refl _ _, hS⟩
  | some ad =>
    have hnews : ∀ j u, (flC (prs l SL))[j]? = some u → W.cell? (ad.add j) = some u := by
      rcases hc with h0 | ⟨b, o, e, hc⟩
      · have e : l = [] := List.eq_nil_of_length_eq_zero h0
        subst e
        intro j u hj
        simp [flC, prs] at hj
      · obtain rfl := Option.some.inj e
        exact news_flows (fun i hi => (hc i hi).keep hw)
    obtain ⟨v', w', hr, h2, h3, _, _⟩ := run_append_own_at (P := Tryd.prog) (w := W) base 23 23 51 i0 _ 8 96 Tryd.underlying23 hi hz0 hz1 hz2 rfl (by decide) (.slice none 0 0) 0 [] ⟨rfl, .inl ⟨rfl, rfl⟩⟩ ad l.length cap (flC (prs l SL)) (by rw [flC_len, prs_len]) hnews hone (by unfold maxLen; omega) (by omega) hb
    refine ⟨SL, v', w', hr, ?_, h3, hS⟩
    rw [prs_len]
    simpa using h2
theorem own_form {W : World} {B e s n : Nat} {v : Value} {xs : List Value} (h : W.ownsRow B e s v n xs) : ∃ a c, v = .slice a n c ∧ (n = 0 ∨ ∃ g, a = some ⟨g, 0, none⟩) := by
  rcases h.2 with ⟨rfl, h0⟩ | ⟨g, c, cur, rfl, _⟩
  · exact ⟨none, 0, by rw [h0], .inl h0⟩
  · exact ⟨_, c, rfl, .inr ⟨g, rfl⟩⟩
/-- The heads are copied. -/
structure NrH (w : World) (p : Pg) (A B C v1 : Value) (W : World) : Prop where
  box : W.heap[w.heap.size]? = some (.cells #[.int .i64 p.st, v1, B, C] 26 (0, 0))
  ri : W.ownsRow (w.heap.size + 1) 45 3 v1 p.ins.length (hdC p.ins)
  below : Below w.heap.size w W
theorem NrH.mk' {w W W' : World} {p : Pg} {A B C v1 : Value} (h : FV w p A B C W) (hr : W'.ownsRow (w.heap.size + 1) 45 3 v1 p.ins.length (hdC p.ins)) (hg : W.grownBy W' none) : NrH w p A B C v1 (W'.setCell ⟨w.heap.size, 1, none⟩ v1) := by
  have hlt := (Array.getElem?_eq_some_iff.1 h.row).1
  have hrow : W'.heap[w.heap.size]? = some (.cells (pgC p A B C) 26 (0, 0)) := (hg.block _ hlt (fun e => by cases e)).trans h.row
  exact ⟨heap_setCell_same W' w.heap.size 1 _ 26 v1 hrow, own_same hr (fun b e => Below.heap_setCell _ _ _ _ (by have := (hr.lt b e).1; show b ≠ w.heap.size; omega)), (h.below.grown hg h.below.size (fun x e => by cases e)).setCell (p := ⟨w.heap.size, 1, none⟩) (Nat.le_refl _) v1⟩
theorem NrH.flows {w W W' : World} {p : Pg} {A B C v1 v2 : Value} {SL : Nat → Value} (h : NrH w p A B C v1 W) (hr : W'.ownsRow (w.heap.size + 1) 51 8 v2 (prs p.flows SL).length (flC (prs p.flows SL))) (hg : W.grownBy W' none) (s : Int) : NrI w p.st v1 v2 C (insK s 0 p.ins) (flsK s 0 (prs p.flows SL)) (W'.setCell ⟨w.heap.size, 2, none⟩ v2) := by
  have hlt := (Array.getElem?_eq_some_iff.1 h.box).1
  have hrow : W'.heap[w.heap.size]? = some (.cells #[.int .i64 p.st, v1, B, C] 26 (0, 0)) := (hg.block _ hlt (fun e => by cases e)).trans h.box
  have hI : W'.ownsRow (w.heap.size + 1) 45 3 v1 p.ins.length (hdC p.ins) := own_same h.ri (fun b e => hg.block b (h.ri.lt b e).2 (fun e2 => by cases e2))
  exact ⟨heap_setCell_same W' w.heap.size 2 _ 26 v2 hrow, own_same hI (fun b e => Below.heap_setCell _ _ _ _ (by have := (hI.lt b e).1; show b ≠ w.heap.size; omega)), own_same hr (fun b e => Below.heap_setCell _ _ _ _ (by have := (hr.lt b e).1; show b ≠ w.heap.size; omega)), (h.below.grown hg h.below.size (fun x e => by cases e)).setCell (p := ⟨w.heap.size, 2, none⟩) (Nat.le_refl _) v2⟩
/-- What a program with all its names at one station says of every station. -/
structure NrQ (q : Pg) (s : Int) : Prop where
  sends : ∀ t, sendsA q t = []
  needs : nmErr q = 0 → ∀ t, needsA q t = []
  ne : nmErr q = 0 → ∀ l t, t ≠ s → placesL q l t = []
  pl : nmErr q = 0 → ∀ l, placesL q l s = (q.ins.map (·.name) ++ q.flows.map (·.name)).map (plcF q l s)
  far : ∀ l nm, nm ∈ q.ins.map (·.name) ++ q.flows.map (·.name) → (plcF q l s nm).far = false
theorem nrQ (p : Pg) (s : Int) : NrQ (near p s) s := by
  have e1 : (near p s).ins.map (·.name) = p.ins.map (·.name) := by
    show (p.ins.map (setH s)).map (·.name) = _
    rw [List.map_map]; rfl
  have e2 : (near p s).flows.map (·.name) = p.flows.map (·.name) := by
    show (p.flows.map (setF s)).map (·.name) = _
    rw [List.map_map]; rfl
  refine ⟨near_sends p s, fun h t => near_needs h t, fun h l t ht => near_places_ne h l ht, fun h l => ?_, fun l nm hn => ?_⟩
  · rw [e1, e2]; exact near_places h l
  · rw [e1, e2] at hn; exact near_far l hn
theorem NrQ.len {q : Pg} {s : Int} (h : NrQ q s) (hE : nmErr q = 0) (l : List Int) : (placesL q l s).length = q.ins.length + q.flows.length := by
  rw [h.pl hE]; simp
theorem NrQ.pfar {q : Pg} {s : Int} (h : NrQ q s) (hE : nmErr q = 0) (l : List Int) {m : Nat} (hm : m < (placesL q l s).length) : (placesL q l s)[m].far = false := by
  have hy := List.getElem_mem hm
  generalize (placesL q l s)[m] = y at hy
  rw [h.pl hE] at hy
  obtain ⟨nm, hn, rfl⟩ := List.mem_map.1 hy
  exact h.far l nm hn
theorem NrQ.pname {q : Pg} {s : Int} (h : NrQ q s) (hE : nmErr q = 0) (l : List Int) : (placesL q l s).map (·.name) = q.ins.map (·.name) ++ q.flows.map (·.name) := by
  rw [h.pl hE, List.map_map]
  exact List.map_id'' (fun _ => rfl) _
theorem NrQ.nameI {q : Pg} {s : Int} (h : NrQ q s) (hE : nmErr q = 0) (l : List Int) {m : Nat} (hm : m < (placesL q l s).length) (hi : m < q.ins.length) : (placesL q l s)[m].name = q.ins[m].name := by
  have e := congrArg (fun x => x[m]?) (h.pname hE l)
  simp [hi, List.getElem?_append, hm] at e
  exact e
theorem NrQ.nameF {q : Pg} {s : Int} (h : NrQ q s) (hE : nmErr q = 0) (l : List Int) {m j : Nat} (hm : m < (placesL q l s).length) (hj : m = q.ins.length + j) (hf : j < q.flows.length) : (placesL q l s)[m].name = q.flows[j].name := by
  subst hj
  have e := congrArg (fun x => x[q.ins.length + j]?) (h.pname hE l)
  simp [hm, hf] at e
  exact e
theorem ins_cell {W : World} {l : List Hd} {g c m : Nat} (h : InsAt W l (.slice (some ⟨g, 0, none⟩) l.length c)) (hm : m < l.length) : W.cell? ⟨g, m * 3, none⟩ = some (.string l[m].name) := by
  obtain ⟨ao, cap, e, _, _, _, hc⟩ := h
  injection e with e1 _ e2
  subst e1
  obtain ⟨b, o, e3, hc⟩ := hc.resolve_left (by omega)
  injection e3 with e3
  injection e3 with e4 e5
  subst e4 e5
  have := (hc m hm).1
  rwa [Nat.zero_add] at this
theorem fls_cell {W : World} {l : List Fl} {g c m : Nat} (h : FlowsAt W l (.slice (some ⟨g, 0, none⟩) l.length c)) (hm : m < l.length) : W.cell? ⟨g, m * 8, none⟩ = some (.string l[m].name) := by
  obtain ⟨ao, cap, SL, e, _, _, _, hc, _⟩ := h
  injection e with e1 _ e2
  subst e1
  obtain ⟨b, o, e3, hc⟩ := hc.resolve_left (by omega)
  injection e3 with e3
  injection e3 with e4 e5
  subst e4 e5
  have := (hc m hm).1
  rwa [Nat.zero_add] at this
/-- Over the stations: the program, how late its flows are. -/
structure NrL (w : World) (q : Pg) (A B C : Value) (b : Nat) (l : List Int) (W : World) : Prop where
  fv : FV w q A B C W
  lat : Rowl W b l
theorem NrL.keep {w W W' : World} {q : Pg} {A B C : Value} {b : Nat} {l : List Int} (h : NrL w q A B C b l W) (hb : Below W.heap.size W W') : NrL w q A B C b l W' := ⟨h.fv.keep hb, keep_row h.lat hb⟩
/-- Within a station: what it keeps too. -/
structure NrP (w : World) (q : Pg) (A B C : Value) (b : Nat) (l : List Int) (pb : Nat) (pv : Value) (P : List Plc) (W : World) : Prop where
  m : NrL w q A B C b l W
  p : RowP W pb pv P
theorem NrP.keep {w W W' : World} {q : Pg} {A B C : Value} {b pb : Nat} {l : List Int} {pv : Value} {P : List Plc} (h : NrP w q A B C b l pb pv P W) (hb : Below W.heap.size W W') : NrP w q A B C b l pb pv P W' := ⟨h.m.keep hb, own_same h.p (fun x e => hb.block x (World.ownsRow.lt h.p x e).2)⟩
theorem NrP.pcell {w W : World} {q : Pg} {A B C : Value} {b pb : Nat} {l : List Int} {P : List Plc} {g c n : Nat} (h : NrP w q A B C b l pb (.slice (some ⟨g, 0, none⟩) n c) P W) (hn : n = P.length) {m : Nat} (hm : m < P.length) : W.cell? ⟨g, m * 6, none⟩ = some (.string P[m].name) ∧ W.cell? ⟨g, m * 6 + 3, none⟩ = some (.bool P[m].far) := by
  subst hn
  have z : ∀ j, j < 6 → W.cell? ⟨g, m * 6 + j, none⟩ = (plcC P[m])[j]? := fun j hj => by rw [World.ownsRow.cellAt h.p _ (by omega), plsC_at P m hm j hj]
  exact ⟨z 0 (by omega), z 3 (by omega)⟩
end Go.Proofs.YtgkbbdenmgienaaDoor.Lex
namespace Go.Proofs.YtgkbbdenmgienaaDoor.Lex
open Go.ChangeShapes Go.WideShapes Go.ChangeAt Go.RowKit Go.Joins
attribute [local go_sem] Oper.semAt_some
set_option maxRecDepth 100000 in
set_option maxHeartbeats 32000000 in
theorem walk4 (p : Pg) (a : Nat) (w : World) (A B C : Value) (hP : PgAt w p A B C) (ha : a < 2 ^ 8) (hR : TabR w) (hJ : TabJ w) : Calls Tryd.prog 4 #[pgV p A B C, .int .u8 (a : Int)] w fun e w' => e = .returned (.bool true) ∧ Below w.heap.size w w' := by
  obtain ⟨A0, A1, rfl, _⟩ := hP.ins
  obtain ⟨B0, B1, _, rfl, _⟩ := hP.flows
  obtain ⟨C0, C1, rfl, _⟩ := hP.outs
  have X0 := hid (FV.new hP hR hJ)
  have HPW := hid hP
  have HRW := hid hR
  have HJW := hid hJ
  have hpst := hP.st
  clear hP hR hJ
  go_enter Tryd.func4, Tryd.ntmps4
  obtain ⟨r0, r1, r2, r3⟩ := row4 X0.out.row
  go_wp2_with (fail)
  refine (great p _ _ _ _ X0.out.P).mono ?_
  rintro e w1 ⟨⟨gr, rfl, hgr⟩, hb1⟩
  have X1 := hid (X0.out.keep hb1)
  have HGR := hid hgr
  clear hb1 X0 hgr r0 r1 r2 r3
  obtain ⟨s0, s1, s2, s3⟩ := row4 X1.out.row
  cases gr with
  | true =>
    go_wp2_with (fail)
    refine (lives _ X1.out.R X1.out.J).mono ?_
    rintro e wz ⟨rfl, hbz⟩
    have BZ := hid (X1.out.below.trans (hbz.mono X1.out.below.size))
    clear hbz
    go_wp2_with (fail)
    go_ret
    exact ⟨rfl, BZ.out⟩
  | false =>
    obtain ⟨hgi, hgf, _⟩ := HGR.out rfl
    by_cases hs : p.st < 1
    · -- no station
      go_wp2_with (fail)
      refine (lives _ X1.out.R X1.out.J).mono ?_
      rintro e wz ⟨rfl, hbz⟩
      have BZ := hid (X1.out.below.trans (hbz.mono X1.out.below.size))
      clear hbz
      go_wp2_with (fail)
      go_ret
      exact ⟨rfl, BZ.out⟩
    · obtain ⟨st, hst⟩ : ∃ st : Nat, p.st = (st : Int) := ⟨p.st.toNat, by omega⟩
      have hast : a % st < st := Nat.mod_lt _ (by omega)
      have hwa : IntKind.i64.wrap (a : Int) = (a : Int) := by rw [IntKind.wrap_i64]; omega
      obtain ⟨sr, hsr⟩ : ∃ sr, sr = a % st := ⟨_, rfl⟩
      rw [← hsr] at hast
      obtain ⟨ST, hSTe⟩ : ∃ ST : Int, ST = 1 + (sr : Int) := ⟨_, rfl⟩
      have hST : IntKind.i64.wrap (1 + (sr : Int)) = ST := by rw [hSTe, IntKind.wrap_i64]; omega
      have hstn : Int.tmod (a : Int) p.st = (sr : Int) := by rw [hst, hsr]; exact (Int.ofNat_tmod a st).symm
      have hstn2 : (a : Int) % p.st = (sr : Int) := by rw [hst, hsr]; exact (Int.natCast_emod a st).symm
      have hst0 : ¬ p.st = 0 := by omega
      have HSTB := hid (show 1 ≤ ST ∧ ST ≤ p.st by omega)
      obtain ⟨v1, W1, hr1, ho1, hg1⟩ := append_ins X1.out.P.ins (by omega) (w.heap.size + 1) (by have := (Array.getElem?_eq_some_iff.1 X1.out.row).1; omega)
      obtain ⟨va, vc, rfl, hv1⟩ := own_form ho1
      have HV1 := hid hv1
      clear hv1
      have H1 := hid (NrH.mk' X1.out ho1 hg1)
      have hrB1 : W1.heap[w.heap.size]? = some (.cells (pgC p (.slice A0 p.ins.length A1) (.slice B0 p.flows.length B1) (.slice C0 p.outs.length C1)) 26 (0, 0)) := (hg1.block _ (Array.getElem?_eq_some_iff.1 X1.out.row).1 (fun e => by cases e)).trans X1.out.row
      obtain ⟨b0, c1, b2, b3⟩ := row4 hrB1
      have f1 := frozen_of_row W1 w.heap.size 1 _ 26 hrB1
      have HGI := hid hgi
      have HGF := hid hgf
      clear ho1 hg1 hrB1 hsr hSTe hst hast
      have hSf := append_fls2 (w := w) (W := W1.setCell ⟨w.heap.size, 1, none⟩ (.slice va p.ins.length vc)) HPW.out.flows H1.out.below (by omega) (w.heap.size + 1) (by have := (Array.getElem?_eq_some_iff.1 H1.out.box).1; omega)
      obtain ⟨SL, v2, W3, hr2, ho2, hg2, hSL⟩ := hSf
      obtain ⟨ua, uc, rfl, hv2⟩ := own_form ho2
      rw [prs_len] at hr2 hv2
      have HV2 := hid hv2
      have HSL := hid hSL
      have hrB2 : W3.heap[w.heap.size]? = some (.cells #[.int .i64 p.st, (.slice va p.ins.length vc), .slice B0 p.flows.length B1, (.slice C0 p.outs.length C1)] 26 (0, 0)) := (hg2.block _ (Array.getElem?_eq_some_iff.1 H1.out.box).1 (fun e => by cases e)).trans H1.out.box
      have c2 := (row4 hrB2).2.2.1
      have f2 := frozen_of_row W3 w.heap.size 2 _ 26 hrB2
      have I0 := hid (H1.out.flows ho2 hg2 ST)
      rw [prs_len] at I0
      clear hv2 hSL hrB2 ho2 hg2
      go_wp2_with (at_builtin; first | refine Lib.wpList_append_run _ rfl _ _ _ _ rfl _ _ rfl rfl _ _ hr1 ?_ | refine Lib.wpList_append_run _ rfl _ _ _ _ rfl _ _ rfl rfl _ _ hr2 ?_)
      clear hr1 hr2 b0 c1 b2 b3 c2 f1 f2 s0 s1 s2 s3
      go_loopw [6] (fun i wr => ∃ k : Nat, k ≤ p.ins.length ∧ i = .int .i64 (k : Int) ∧ Hid (NrI w p.st (.slice va p.ins.length vc) (.slice ua p.flows.length uc) (.slice C0 p.outs.length C1) (insK ST k p.ins) (flsK ST 0 (prs p.flows SL)) wr)) (fun i _ => p.ins.length - (intOf i).toNat)
      case atStart => exact ⟨0, Nat.zero_le _, rfl, I0⟩
      case round =>
        obtain ⟨k, hk, rfl, HI⟩ := hrel
        obtain ⟨s0, s1, s2, s3⟩ := row4 HI.out.box
        by_cases hkl : k < p.ins.length
        · have hkl' : (k : Int) < (p.ins.length : Int) := by omega
          have hk0 : (0 : Int) ≤ (k : Int) := by omega
          obtain ⟨g1, rfl⟩ := HV1.out.resolve_left (by omega)
          have hRI := HI.out.ri
          rw [insK_len] at hRI
          obtain ⟨⟨u, cu⟩, fu⟩ := own_cellf (j := k * 3 + 2) hRI (by omega)
          clear hRI
          go_wp2_with (fail)
          go_roundw
          case rel => exact ⟨k + 1, by omega, by go_num, hid (HI.out.putI rfl hkl)⟩
          case measure => simp [intOf]; omega
        · have hkl' : ¬ (k : Int) < (p.ins.length : Int) := by omega
          have hke : k = p.ins.length := by omega
          subst hke
          go_wp2_with (fail)
          go_loopw [7] (fun i wr => ∃ k : Nat, k ≤ p.flows.length ∧ i = .int .i64 (k : Int) ∧ Hid (NrI w p.st (.slice va p.ins.length vc) (.slice ua p.flows.length uc) (.slice C0 p.outs.length C1) (insK ST p.ins.length p.ins) (flsK ST k (prs p.flows SL)) wr)) (fun i _ => p.flows.length - (intOf i).toNat)
          case atStart => exact ⟨0, Nat.zero_le _, rfl, HI⟩
          case round =>
            obtain ⟨k, hk, rfl, HJ⟩ := hrel
            obtain ⟨s0, s1, s2, s3⟩ := row4 HJ.out.box
            by_cases hkl : k < p.flows.length
            · have hkl' : (k : Int) < (p.flows.length : Int) := by omega
              have hk0 : (0 : Int) ≤ (k : Int) := by omega
              obtain ⟨g1, rfl⟩ := HV2.out.resolve_left (by omega)
              have hRF := HJ.out.rf
              rw [flsK_len, prs_len] at hRF
              obtain ⟨⟨u, cu⟩, fu⟩ := own_cellf (j := k * 8 + 2) hRF (by omega)
              clear hRF
              go_wp2_with (fail)
              go_roundw
              case rel => exact ⟨k + 1, by omega, by go_num, hid (HJ.out.putF (prs_len _ _).symm (by rw [prs_len]; exact hkl))⟩
              case measure => simp [intOf]; omega
            · have hkl' : ¬ (k : Int) < (p.flows.length : Int) := by omega
              have hke : k = p.flows.length := by omega
              subst hke
              have HJ2 : Hid (NrI w p.st (.slice va p.ins.length vc) (.slice ua p.flows.length uc) (.slice C0 p.outs.length C1) (insK ST p.ins.length p.ins) (flsK ST (prs p.flows SL).length (prs p.flows SL)) wr) := hid (by rw [prs_len]; exact HJ.out)
              have Q0 := hid (HJ2.out.done HPW.out HRW.out HJW.out HSTB.out HSL.out (by have := HGI.out; omega) (by have := HGF.out; omega))
              have HQ := hid (nrQ p ST)
              have hqi : (near p ST).ins.length = p.ins.length := by show (p.ins.map (setH ST)).length = _; simp
              have hqf : (near p ST).flows.length = p.flows.length := by show (p.flows.map (setF ST)).length = _; simp
              have HQI := hid hqi
              have HQF := hid hqf
              clear hqi hqf hst0 hST hstn hstn2 hwa hpst I0 HI HJ HJ2 HSTB
              generalize near p ST = q at *
              clear s0 s1 s2 s3
              obtain ⟨s0, s1, s2, s3⟩ := row4 Q0.out.row
              go_wp2_with (fail)
              refine (of_l q _ _ _ _ Q0.out.P Q0.out.R Q0.out.J).mono ?_
              rintro e w5 ⟨hO, hb5⟩
              have Q5 := hid (Q0.out.keep hb5)
              clear hb5 Q0 s0 s1 s2 s3
              obtain ⟨s0, s1, s2, s3⟩ := row4 Q5.out.row
              obtain ⟨lv, E, rfl, hcase⟩ : ∃ lv E, e = .returned (.tuple #[lv, .int .i64 E]) ∧ ((E ≠ 0) ∨ ∃ l b, E = 0 ∧ nmErr q = 0 ∧ ofL q = some l ∧ lv = .slice (some ⟨b, 0, none⟩) q.flows.length q.flows.length ∧ Rowl w5 b l ∧ l.length = q.flows.length ∧ Fine l) := by
                rcases hO with ⟨hE, h⟩ | ⟨hE, _, h⟩ | ⟨l, b, hE, hl, h, hbw, hrw, hlen, hfine⟩
                · exact ⟨_, _, h, .inl hE⟩
                · exact ⟨_, _, h, .inl (by omega)⟩
                · exact ⟨_, _, h, .inr ⟨l, b, rfl, hE, hl, rfl, hrw, hlen, hfine⟩⟩
              clear hO
              rcases hcase with hE | ⟨l, b, rfl, hE, hl, rfl, hrw, hlen, hfine⟩
              · have hE' : (E != 0) = true := by simpa using hE
                clear hE
                go_wp2_with (fail)
                refine (lives _ Q5.out.R Q5.out.J).mono ?_
                rintro e wz ⟨rfl, hbz⟩
                have BZ := hid (Q5.out.below.trans (hbz.mono Q5.out.below.size))
                clear hbz
                go_wp2_with (fail)
                go_ret
                exact ⟨rfl, BZ.out⟩
              · have HE := hid hE
                have HLT := hid (of_late hE hl hfine).1
                have HLN := hid hlen
                obtain ⟨n, hn, hn8⟩ : ∃ n : Nat, q.st = (n : Int) ∧ n ≤ 8 := by
                  have h := (nmErr_zero hE).1
                  unfold pgOk inR at h
                  simp only [Bool.and_eq_true, decide_eq_true_eq] at h
                  exact ⟨q.st.toNat, by omega, by omega⟩
                have HNN := hid hn
                have L0 : Hid (NrL w q (.slice va p.ins.length vc) (.slice ua p.flows.length uc) (.slice C0 p.outs.length C1) b l w5) := hid ⟨Q5.out, hrw⟩
                clear hE hl hlen hrw hfine hn
                go_wp2_with (fail)
                clear s0 s1 s2 s3
                go_loopw [10] (fun si wr => ∃ k : Nat, k ≤ n ∧ si = .int .i64 ((k : Int) + 1) ∧ Hid (NrL w q (.slice va p.ins.length vc) (.slice ua p.flows.length uc) (.slice C0 p.outs.length C1) b l wr)) (fun si _ => n + 1 - (intOf si).toNat)
                case atStart => exact ⟨0, Nat.zero_le _, rfl, L0⟩
                case round =>
                  obtain ⟨k, hk, rfl, HI⟩ := hrel
                  obtain ⟨s0, s1, s2, s3⟩ := row4 HI.out.fv.row
                  by_cases hlt : k < n
                  · have hlt' : decide ((k : Int) + 1 ≤ q.st) = true := by have := HNN.out; simp; omega
                    have HST : Hid (stOk q ((k : Int) + 1) = true) := hid (by have := HNN.out; have := HE.out; unfold stOk; simp; omega)
                    have hia := HI.out.lat.at (by have := HLN.out; have := HGF.out; have := HQF.out; omega)
                    rw [HLN.out] at hia
                    have HIA := hid hia
                    clear hia
                    go_wp2_with (fail)
                    refine (places_ q l _ ((k : Int) + 1) _ _ _ _ HI.out.fv.P HI.out.fv.R HI.out.fv.J HIA.out).mono ?_
                    rintro e w6 ⟨hPE, hb6⟩
                    obtain ⟨pv, rfl, hrow6⟩ : ∃ r, e = .returned (.tuple #[r, .int .i64 0]) ∧ RowP w6 wr.heap.size r (placesL q l ((k : Int) + 1)) := by
                      rcases hPE with ⟨h, _⟩ | ⟨_, h, _⟩ | ⟨_, _, h⟩
                      · rw [HST.out] at h; cases h
                      · rw [HLT.out] at h; cases h
                      · exact h
                    obtain ⟨pb, hpb⟩ : ∃ pb, pb = wr.heap.size := ⟨_, rfl⟩
                    rw [← hpb] at hrow6
                    clear hpb
                    obtain ⟨P, hP⟩ : ∃ P, P = placesL q l ((k : Int) + 1) := ⟨_, rfl⟩
                    rw [← hP] at hrow6
                    have HP := hid hP
                    obtain ⟨pa, pc, rfl, hpa⟩ := own_form hrow6
                    have HPA := hid hpa
                    have S6 : Hid (NrP w q (.slice va p.ins.length vc) (.slice ua p.flows.length uc) (.slice C0 p.outs.length C1) b l pb (.slice pa P.length pc) P w6) := hid ⟨HI.out.keep hb6, hrow6⟩
                    obtain ⟨np, hnp⟩ : ∃ np, np = P.length := ⟨_, rfl⟩
                    rw [← hnp] at HPA S6
                    rw [← hnp]
                    have HNP := hid hnp
                    clear hP hpa hPE hrow6 hb6 HI hnp s0 s1 s2 s3
                    obtain ⟨s0, s1, s2, s3⟩ := row4 S6.out.m.fv.row
                    go_wp2_with (fail)
                    refine (sends_ q ((k : Int) + 1) _ _ _ _ S6.out.m.fv.P S6.out.m.fv.R S6.out.m.fv.J).mono ?_
                    rintro e w7 ⟨r7, rfl, hrow7, hb7⟩
                    rw [HQ.out.sends] at hrow7
                    obtain ⟨a7, c7, rfl, _⟩ := own_form hrow7
                    have S7 := hid (S6.out.keep hb7)
                    clear hrow7 hb7 S6 s0 s1 s2 s3
                    obtain ⟨s0, s1, s2, s3⟩ := row4 S7.out.m.fv.row
                    go_wp2_with (fail)
                    refine (needsf_ q ((k : Int) + 1) _ _ _ _ S7.out.m.fv.P S7.out.m.fv.R S7.out.m.fv.J).mono ?_
                    rintro e w8 ⟨r8, rfl, hrow8, hb8⟩
                    rw [HQ.out.needs HE.out] at hrow8
                    obtain ⟨a8, c8, rfl, _⟩ := own_form hrow8
                    have S8 := hid (S7.out.keep hb8)
                    clear hrow8 hb8 S7 s0 s1 s2 s3
                    obtain ⟨s0, s1, s2, s3⟩ := row4 S8.out.m.fv.row
                    by_cases hks : (k : Int) + 1 = ST
                    · subst hks
                      have HNE : Hid (np = p.ins.length + p.flows.length) := hid (by rw [HNP.out, HP.out, HQ.out.len HE.out, HQI.out, HQF.out])
                      have hwn : IntKind.i64.wrap ((p.ins.length : Int) + (p.flows.length : Int)) = (np : Int) := by
                        have h1 := HNE.out
                        have h2 := HGI.out
                        have h3 := HGF.out
                        rw [IntKind.wrap_i64]; omega
                      go_wp2_with (fail)
                      clear s0 s1 s2 s3 hwn
                      obtain ⟨wq, hwq⟩ : ∃ wq, wq = wr := ⟨_, rfl⟩
                      subst wr
                      go_loopw [13] (fun i wr => ∃ m : Nat, m ≤ np ∧ i = .int .i64 (m : Int) ∧ Hid (NrP w q (.slice va p.ins.length vc) (.slice ua p.flows.length uc) (.slice C0 p.outs.length C1) b l pb (.slice pa np pc) P wr)) (fun i _ => np - (intOf i).toNat)
                      case atStart => exact ⟨0, Nat.zero_le _, rfl, S8⟩
                      case round =>
                        obtain ⟨m, hm0, rfl, SJ⟩ := hrel
                        obtain ⟨s0, s1, s2, s3⟩ := row4 SJ.out.m.fv.row
                        by_cases hm : m < np
                        · have hm' : (m : Int) < (np : Int) := by omega
                          have hmi : (0 : Int) ≤ (m : Int) := by omega
                          obtain ⟨pg, rfl⟩ := HPA.out.resolve_left (by omega)
                          have hnp := HNP.out
                          have hne := HNE.out
                          have hmP : m < P.length := by omega
                          have hmQ : m < (placesL q l ((k : Int) + 1)).length := by have h := hmP; rw [HP.out] at h; exact h
                          obtain ⟨hc1, hc2⟩ := SJ.out.pcell HNP.out hmP
                          have hfar : P[m].far = false := by
                            have h := HQ.out.pfar HE.out l hmQ
                            simpa only [← HP.out] using h
                          rw [hfar] at hc2
                          by_cases hi : m < p.ins.length
                          · have hi' : (m : Int) < (p.ins.length : Int) := by omega
                            obtain ⟨g1, rfl⟩ := HV1.out.resolve_left (by omega)
                            have hiq : m < q.ins.length := by rw [HQI.out]; exact hi
                            have hcI := ins_cell (l := q.ins) (by rw [HQI.out]; exact SJ.out.m.fv.P.ins) hiq
                            have hnm : P[m].name = q.ins[m].name := by
                              have h := HQ.out.nameI HE.out l hmQ hiq
                              simpa only [← HP.out] using h
                            rw [hnm] at hc1
                            generalize (q.ins[m]'hiq).name = Z at *
                            clear hnm hfar hnp hne
                            go_wp2_with (fail)
                            go_roundw
                            case rel => exact ⟨m + 1, by omega, by go_num, SJ⟩
                            case measure => simp [intOf]; omega
                          · have hi' : ¬ (m : Int) < (p.ins.length : Int) := by omega
                            obtain ⟨j, hj⟩ : ∃ j, m = p.ins.length + j := ⟨m - p.ins.length, by omega⟩
                            obtain ⟨g2, rfl⟩ := HV2.out.resolve_left (by omega)
                            have hjq : j < q.flows.length := by rw [HQF.out]; omega
                            have hcF := fls_cell (l := q.flows) (by rw [HQF.out]; exact SJ.out.m.fv.P.flows) hjq
                            have hnm : P[m].name = q.flows[j].name := by
                              have h := HQ.out.nameF HE.out l hmQ (by rw [HQI.out]; exact hj) hjq
                              simpa only [← HP.out] using h
                            rw [hnm] at hc1
                            have hjw : IntKind.i64.wrap ((m : Int) - (p.ins.length : Int)) = (j : Int) := by
                              have h2 := HGI.out
                              have h3 := HGF.out
                              rw [IntKind.wrap_i64]; omega
                            have hj0 : (0 : Int) ≤ (j : Int) := by omega
                            have hjl : (j : Int) < (p.flows.length : Int) := by have := HNE.out; omega
                            generalize (q.flows[j]'hjq).name = Z at *
                            have hm48 : m ≤ 48 := by have h1 := HGI.out; have h2 := HGF.out; omega
                            clear hnm hfar hnp hne hj
                            go_wp2_with (fail)
                            go_roundw
                            case rel => exact ⟨m + 1, by omega, by go_num, SJ⟩
                            case measure => simp [intOf]; omega
                        · have hm' : ¬ (m : Int) < (np : Int) := by omega
                          go_wp2_with (fail)
                          go_roundw
                          case rel => exact ⟨k + 1, by omega, by go_num, hid SJ.out.m⟩
                          case measure => simp [intOf]; omega
                    · have hks1 : ((k : Int) + 1 != ST) = true := by simpa using hks
                      have hks2 : ((k : Int) + 1 == ST) = false := by simpa using hks
                      have hnp0 : np = 0 := by rw [HNP.out, HP.out, HQ.out.ne HE.out l _ hks]; rfl
                      have M8 := hid S8.out.m
                      clear HNP S8
                      subst hnp0
                      go_wp2_with (fail)
                      clear s0 s1 s2 s3
                      obtain ⟨wq, hwq⟩ : ∃ wq, wq = wr := ⟨_, rfl⟩
                      subst wr
                      go_loopw [13] (fun i wr => i = .int .i64 0 ∧ Hid (NrL w q (.slice va p.ins.length vc) (.slice ua p.flows.length uc) (.slice C0 p.outs.length C1) b l wr)) (fun _ _ => 0)
                      case atStart => exact ⟨rfl, M8⟩
                      case round =>
                        obtain ⟨rfl, SJ⟩ := hrel
                        go_wp2_with (fail)
                        go_roundw
                        case rel => exact ⟨k + 1, by omega, by go_num, SJ⟩
                        case measure => simp [intOf]; omega
                  · have hlt' : decide ((k : Int) + 1 ≤ q.st) = false := by have := HNN.out; simp; omega
                    have HIF := hid HI.out.fv
                    go_wp2_with (fail)
                    refine (lives _ HIF.out.R HIF.out.J).mono ?_
                    rintro e wz ⟨rfl, hbz⟩
                    have BZ := hid (HIF.out.below.trans (hbz.mono HIF.out.below.size))
                    clear hbz
                    go_wp2_with (fail)
                    go_ret
                    exact ⟨rfl, BZ.out⟩

end Go.Proofs.YtgkbbdenmgienaaDoor.Lex
