/-
  One more flow behind all, that nobody else needs: the circle that is told stays.
  What is told of a circle: each flow needs the next one, none is there twice.
  A program with one flow more behind all: what is checked, and the circle that is told.
  A byte that came in, as a number.
  One flow more behind all: the walk of the law.
  One flow more behind all: the walk of the law.
-/
import Derived.Test.YtjdlmhkfaodkgaaDoorG6
import Derived.Test.YtjdlmhkfaodkgaaDoorG9
import Derived.Test.YtjdlmhkfaodkgaaDoorG1
import Derived.Test.YtjdlmhkfaodkgaaDoorG10
import Derived.Test.YtjdlmhkfaodkgaaDoorG5
namespace Go.Proofs.YtjdlmhkfaodkgaaDoor.Lex
theorem stp_none {who : Nat → List Nat} {n a : Nat} (hn : ∀ z, ∀ y ∈ who z, y < n) (ha : a < n) {y : Nat} : stp who n a y = none ↔ ∀ k, ¬ Rch who k a y := by
  constructor
  · intro h k hk
    obtain ⟨d, _, hd⟩ := dst_of k hk
    rw [(stp_spec hn ha y d).2 hd] at h
    cases h
  · intro h
    cases e : stp who n a y with
    | none => rfl
    | some d => exact (h d ((stp_spec hn ha y d).1 e).1).elim
theorem stp_more {rows who rows' who' : Nat → List Nat} {n home : Nat} (hn : ∀ z, ∀ y ∈ rows z, y < n) (hw : ∀ z, ∀ y ∈ who z, y < n) (hr : ∀ i j, j ∈ rows i ↔ i ∈ who j)
    (hw' : ∀ z, ∀ y ∈ who' z, y < n + 1) (hr' : ∀ i j, j ∈ rows' i ↔ i ∈ who' j) (he : ∀ z, z < n → rows' z = rows z) (hh : home < n) (y : Nat) (hy : y < n) : stp who' (n + 1) home y = stp who n home y := by
  have key : ∀ k, Rch who' k home y ↔ Rch who k home y := fun k => by
    rw [rch_back hr', rch_back hr]
    exact rch_more hn he k y home hy
  cases e : stp who n home y with
  | none =>
    rw [stp_none hw' (by omega)]
    intro k hk
    exact (stp_none hw hh).1 e k ((key k).1 hk)
  | some d =>
    rw [stp_spec hw' (by omega)]
    obtain ⟨h1, h2⟩ := (stp_spec hw hh y d).1 e
    exact ⟨(key d).2 h1, fun k hk => h2 k ((key k).1 hk)⟩
theorem nearN_more {st st' : Nat → Option Nat} {ys : List Nat} (h : ∀ y ∈ ys, st' y = st y) : nearN st' ys = nearN st ys := by
  unfold nearN
  rw [near_more st st' ys none h]
theorem go_more {rows who rows' who' : Nat → List Nat} {n home : Nat} (hn : ∀ z, ∀ y ∈ rows z, y < n) (hw : ∀ z, ∀ y ∈ who z, y < n) (hr : ∀ i j, j ∈ rows i ↔ i ∈ who j)
    (hw' : ∀ z, ∀ y ∈ who' z, y < n + 1) (hr' : ∀ i j, j ∈ rows' i ↔ i ∈ who' j) (he : ∀ z, z < n → rows' z = rows z) (hh : home < n) :
    ∀ (d x f f' : Nat), x < n → stp who n home x = some d → d ≤ f → d ≤ f' → goR rows' (stp who' (n + 1) home) home f' x = goR rows (stp who n home) home f x
  | 0, x, f, f', hx, hs, _, _ => by
    have e : home = x := ((stp_spec hw hh x 0).1 hs).1
    subst e
    cases f <;> cases f' <;> simp [goR]
  | d + 1, x, f, f', hx, hs, hf, hf' => by
    obtain ⟨f, rfl⟩ : ∃ g, f = g + 1 := ⟨f - 1, by omega⟩
    obtain ⟨f', rfl⟩ : ∃ g, f' = g + 1 := ⟨f' - 1, by omega⟩
    obtain ⟨h1, h2, h3⟩ := next_near hw hh hr hs
    rw [goR, goR, if_neg h1, if_neg h1, he x hx, nearN_more (fun y hy => stp_more hn hw hr hw' hr' he hh y (hn x y hy))]
    rw [go_more hn hw hr hw' hr' he hh d _ f f' (hn x _ h2) h3 (by omega) (by omega)]
theorem circ_more {rows who rows' who' : Nat → List Nat} {n home : Nat} (hn : ∀ z, ∀ y ∈ rows z, y < n) (hw : ∀ z, ∀ y ∈ who z, y < n) (hr : ∀ i j, j ∈ rows i ↔ i ∈ who j)
    (hw' : ∀ z, ∀ y ∈ who' z, y < n + 1) (hr' : ∀ i j, j ∈ rows' i ↔ i ∈ who' j) (he : ∀ z, z < n → rows' z = rows z) (hh : home < n) (hl : leadB rows n home = true) : circ rows' who' (n + 1) home = circ rows who n home := by
  unfold circ
  rw [he home hh, nearN_more (fun y hy => stp_more hn hw hr hw' hr' he hh y (hn home y hy))]
  obtain ⟨k0, hk0⟩ := (lead_spec hn hh).1 hl
  obtain ⟨c, hc, hcr⟩ := (rch_front k0 home home).1 hk0
  obtain ⟨e, _, hde⟩ := dst_of k0 ((rch_back hr k0 home c).2 hcr)
  obtain ⟨m, n1, n2, _⟩ := near_some hc ((stp_spec hw hh c e).2 hde)
  have hz := hn home _ n1
  have hm : m ≤ n := by
    have hlen : (stp who n home (nearN (stp who n home) (rows home))) = some m := n2
    have hway := go_way hw hh hr m _ m hlen (Nat.le_refl _)
    generalize goR rows (stp who n home) home m (nearN (stp who n home) (rows home)) = G at hway
    have hnd : G.Nodup := by
      rw [List.nodup_iff_pairwise_ne, List.pairwise_iff_getElem]
      intro i j hi hj hij e
      have a := hway.at_ i hi
      have b := hway.at_ j hj
      rw [e, b] at a
      injection a with a
      have := hway.len
      omega
    have hsm : ∀ y ∈ G, y < n := fun y hy => by
      obtain ⟨i, hi, rfl⟩ := List.getElem_of_mem hy
      have a := (stp_spec hw hh _ _).1 (hway.at_ i hi)
      have := hway.len
      obtain ⟨q, hq⟩ : ∃ q, m - i = q + 1 := ⟨m - i - 1, by omega⟩
      rw [hq] at a
      obtain ⟨c, _, hc⟩ := a.1
      exact hw _ _ hc
    have := nodup_le n G hnd hsm
    rw [hway.len] at this
    exact this
  rw [go_more hn hw hr hw' hr' he hh m _ n (n + 1) hz n2 hm (by omega)]
end Go.Proofs.YtjdlmhkfaodkgaaDoor.Lex
namespace Go.Proofs.YtjdlmhkfaodkgaaDoor.Lex
theorem find_place {p : Pg} {s : ByteArray} {z : Int × Hd} (h : findT (thingsL p) s = some z) (hz : 0 ≤ z.1) : ∃ k, ∃ hk : k < p.flows.length, z = ((k : Int), p.flows[k].hd) ∧ (p.flows[k].name.toList == s.toList) = true := by
  have h1 := List.mem_of_find?_eq_some h
  have h2 := List.find?_some h
  unfold thingsL at h1
  rcases List.mem_append.1 h1 with h1 | h1
  · obtain ⟨x, _, rfl⟩ := List.mem_map.1 h1
    have h3 : (0 : Int) ≤ -1 := hz
    omega
  · obtain ⟨k, hk, rfl⟩ := List.mem_map.1 h1
    have hk := List.mem_range.1 hk
    simp only [List.getElem?_eq_getElem hk, Option.map_some, Option.getD_some] at h2 ⊢
    exact ⟨k, hk, rfl, h2⟩
theorem need_name {p : Pg} {i j : Nat} (h : j ∈ rowsP p i) : ∃ hi : i < p.flows.length, ∃ hj : j < p.flows.length, ∃ r ∈ gat 32 p.flows[i].body 0 [], r.2 = 0 ∧ (r.1.toList == p.flows[j].name.toList) = true := by
  obtain ⟨hi, hj⟩ := (rowsP_mem p i j).1 h
  refine ⟨hi, rowsP_lt p i j h, ?_⟩
  have hz2 : (j : Int) ∈ nb p (gat 32 p.flows[i].body 0 []) := List.mem_mergeSort.1 hj
  obtain ⟨r, hr, e⟩ := List.mem_filterMap.1 hz2
  refine ⟨r, hr, ?_⟩
  unfold nb1 at e
  split at e
  · cases e
  · next h0 =>
    cases hf : findT (thingsL p) r.1 with
    | none => rw [hf] at e; cases e
    | some z =>
      rw [hf] at e
      simp only at e
      split at e
      · next hz =>
        injection e with e
        obtain ⟨k, hk, rfl, hn⟩ := find_place hf hz
        obtain rfl : k = j := by simp at e; omega
        refine ⟨by omega, ?_⟩
        simp only [beq_iff_eq] at hn ⊢
        exact hn.symm
      · cases e
theorem name_at {p : Pg} {z : Nat} (h : z < p.flows.length) : nameAt p (z : Int) = p.flows[z].name := by
  unfold nameAt
  rw [Int.toNat_natCast, List.getElem?_eq_getElem h]
  rfl
theorem findC_at {p : Pg} {i : Nat} (h : i < (findC p).length) : ∃ h1 : i < (circP p).length, ∃ h2 : (circP p)[i] < p.flows.length, (findC p)[i] = p.flows[(circP p)[i]].name := by
  have h1 : i < (circP p).length := by simpa [findC] using h
  have h2 := circP_lt _ (List.getElem_mem h1)
  refine ⟨h1, h2, ?_⟩
  rw [← name_at h2]
  simp [findC]
def CirOk (p : Pg) (l : List Nat) : Prop := l.Nodup ∧ ∀ i (h : i < l.length), l[(i + 1) % l.length]'(Nat.mod_lt _ (by omega)) ∈ rowsP p l[i]
theorem circP_spec (p : Pg) : CirOk p (circP p) := by
  unfold circP
  cases h : findI p with
  | none => exact ⟨by simp, fun i hi => by simp at hi⟩
  | some k =>
    obtain ⟨h1, h2⟩ := findI_at h
    have hc := circ_spec (rowsP_lt p) (whoP_lt p) h1 (rows_who p) h2
    exact ⟨hc.nodup, hc.step⟩
theorem findC_len (p : Pg) : (findC p).length = (circP p).length := by simp [findC]
/-- One needs the next one. -/
theorem round_next {p : Pg} (hz : nmErr p = 0) {i : Nat} (h : i < (findC p).length) : ∃ f g x y, ∃ hf : f < p.flows.length, findT (thingsL p) (findC p)[i] = some (((f : Nat) : Int), x) ∧ findT (thingsL p) ((findC p)[(i + 1) % (findC p).length]'(Nat.mod_lt _ (by omega))) = some (((g : Nat) : Int), y) ∧ chk p.flows[f].body = true ∧ ∃ r ∈ gat 32 p.flows[f].body 0 [], r.2 = 0 ∧ (r.1.toList == ((findC p)[(i + 1) % (findC p).length]'(Nat.mod_lt _ (by omega))).toList) = true := by
  obtain ⟨h1, h2⟩ := nmErr_zero hz
  obtain ⟨c1, c2, e1⟩ := findC_at h
  obtain ⟨d1, d2, e2⟩ := findC_at (p := p) (i := (i + 1) % (findC p).length) (Nat.mod_lt _ (by omega))
  have hs := (circP_spec p).2 i c1
  have e3 : (circP p)[(i + 1) % (circP p).length]'(Nat.mod_lt _ (by omega)) = (circP p)[(i + 1) % (findC p).length] := by
    congr 1
    rw [findC_len]
  rw [e3] at hs
  obtain ⟨_, _, hr⟩ := need_name hs
  refine ⟨(circP p)[i], (circP p)[(i + 1) % (findC p).length], (p.flows[(circP p)[i]]).hd, (p.flows[(circP p)[(i + 1) % (findC p).length]]).hd, c2, ?_, ?_, pgOk_chk h1 _ (List.getElem_mem c2), ?_⟩
  · rw [e1]; exact find_flow_ok h2 _ c2
  · rw [e2]; exact find_flow_ok h2 _ d2
  · rw [e2]; exact hr
theorem round_once {p : Pg} (hz : nmErr p = 0) {i k : Nat} (h : i < (findC p).length) (hk : k < i) : ((findC p)[k].toList == (findC p)[i].toList) = false := by
  obtain ⟨h1, h2⟩ := nmErr_zero hz
  obtain ⟨c1, c2, e1⟩ := findC_at h
  obtain ⟨d1, d2, e2⟩ := findC_at (p := p) (i := k) (by omega)
  rw [Bool.eq_false_iff]
  intro e
  rw [e1, e2] at e
  have f1 := find_flow_ok h2 _ c2
  have f2 := find_flow_ok h2 _ d2
  have e' : p.flows[(circP p)[k]].name.toList = p.flows[(circP p)[i]].name.toList := by simpa using e
  unfold findT at f1 f2
  rw [e'] at f2
  rw [f1] at f2
  injection f2 with f2
  injection f2 with f2 _
  have e4 : (circP p)[i] = (circP p)[k] := by omega
  have := (List.getElem_inj (circP_spec p).1).1 e4
  omega
theorem findC_few {p : Pg} (hz : nmErr p = 0) : (findC p).length ≤ 128 := by
  obtain ⟨h1, h2⟩ := nmErr_zero hz
  have h3 : p.flows.length ≤ 128 := by
    unfold pgOk roomOk at h1
    simp at h1
    omega
  rw [findC_len]
  exact Nat.le_trans (nodup_le _ _ (circP_spec p).1 circP_lt) h3
end Go.Proofs.YtjdlmhkfaodkgaaDoor.Lex
namespace Go.Proofs.YtjdlmhkfaodkgaaDoor.Lex
def zmB : ByteArray := ⟨#[90, 109, 111, 114, 101, 95]⟩
def zmF (x : Ex) : Fl := ⟨zmB, 1, 1, 0, x⟩
/-- With one flow more. -/
def pM (p : Pg) (x : Ex) : Pg := ⟨p.st, p.ins, p.flows ++ [zmF x], p.outs⟩
theorem zm_name : isName zmB = true := by
  unfold isName
  rw [isResE]
  decide +kernel
theorem pM_len (p : Pg) (x : Ex) : (pM p x).flows.length = p.flows.length + 1 := by simp [pM]
theorem pM_old (p : Pg) (x : Ex) (i : Nat) (h : i < p.flows.length) (h' : i < (pM p x).flows.length) : (pM p x).flows[i] = p.flows[i] := by simp only [pM]; exact List.getElem_append_left h
theorem pM_new (p : Pg) (x : Ex) (h' : p.flows.length < (pM p x).flows.length) : (pM p x).flows[p.flows.length] = zmF x := by simp [pM]
theorem pM_things (p : Pg) (x : Ex) : thingsL (pM p x) = thingsL p ++ [((p.flows.length : Int), (zmF x).hd)] := by
  unfold thingsL
  have h1 : insL (pM p x) = insL p := rfl
  have h2 : flowsL (pM p x) = flowsL p ++ [((p.flows.length : Int), (zmF x).hd)] := by
    unfold flowsL
    rw [pM_len, List.range_succ, List.map_append]
    congr 1
    · refine List.map_congr_left fun i hi => ?_
      have hi := List.mem_range.1 hi
      simp only [pM]
      rw [List.getElem?_append_left hi]
    · simp [pM]
  rw [h1, h2, List.append_assoc]
theorem pM_cnt (p : Pg) (x : Ex) (u : List UInt8) : cntT (thingsL (pM p x)) u = cntT (thingsL p) u + (if u = zmB.data.toList then 1 else 0) := by
  rw [pM_things, cntT_app]
  congr 1
  unfold cntT
  by_cases e : u = zmB.data.toList
  · simp [e, zmF]
  · simp [e, zmF]
/-- What the new one may ask for. -/
def AskM (p : Pg) (x : Ex) : Prop := ∀ r ∈ gat 32 x 0 [], r.1.data.toList = zmB.data.toList ∨ cntT (thingsL p) r.1.data.toList ≠ 0
theorem no_zm {p : Pg} (h : findT (thingsL p) zmB = none) : cntT (thingsL p) zmB.data.toList = 0 := none_of_free fun x hx => by
  unfold findT at h
  rw [List.find?_eq_none] at h
  simpa using h x hx
theorem pM_nmOk {p : Pg} {x : Ex} (h : nmOk p = true) (hz : findT (thingsL p) zmB = none) (hx : AskM p x) : nmOk (pM p x) = true := by
  have h0 := no_zm hz
  have hk : nmOk p = true := h
  unfold nmOk at h ⊢
  simp only [Bool.and_eq_true, List.all_eq_true] at h ⊢
  refine ⟨fun y hy => ?_, fun s hs => ?_, fun s hs => ?_⟩
  · unfold twice
    rw [pM_cnt]
    rw [pM_things] at hy
    rcases List.mem_append.1 hy with hy | hy
    · have h1 := once hk hy
      have h2 : cntT (thingsL p) y.2.name.data.toList ≠ 0 := fun e => by
        have := free_of_none e y hy
        simp at this
      have hne : ¬ y.2.name.data.toList = zmB.data.toList := fun e => h2 (by rw [e]; exact h0)
      rw [if_neg hne]
      simpa using h1
    · obtain rfl : y = ((p.flows.length : Int), (zmF x).hd) := by simpa using hy
      show (!decide (1 < cntT (thingsL p) zmB.data.toList + (if zmB.data.toList = zmB.data.toList then 1 else 0))) = true
      rw [h0, if_pos rfl]
      rfl
  · unfold none_
    rw [pM_cnt]
    unfold askedL at hs
    simp only [pM, List.flatMap_append] at hs
    rcases List.mem_append.1 hs with hs | hs
    · have := h.2.1 s hs
      unfold none_ at this
      simp at this ⊢
      omega
    · have hs : s ∈ asksOf (zmF x) := by simpa using hs
      obtain ⟨r, hr, rfl⟩ := List.mem_map.1 hs
      rcases hx r hr with e | e
      · rw [if_pos e]; simp
      · simp; omega
  · have := h.2.2 s hs
    unfold none_ told at this ⊢
    rw [pM_cnt]
    simp only [pM] at this ⊢
    simp at this ⊢
    exact ⟨by omega, decide_eq_false (by omega)⟩
theorem pM_pgOk {p : Pg} {x : Ex} (h : pgOk p = true) (hl : p.flows.length ≤ 126) (hx : chk x = true) : pgOk (pM p x) = true := by
  unfold pgOk at h ⊢
  simp only [Bool.and_eq_true, List.all_eq_true] at h ⊢
  have hst := h.1.1
  refine ⟨⟨h.1.1, ?_⟩, h.2.1, fun f hf => ?_, h.2.2.2⟩
  · have h2 := h.1.2
    unfold roomOk at h2 ⊢
    rw [pM_len]
    simp only [Bool.and_eq_true, decide_eq_true_eq] at h2
    show (decide (p.ins.length ≤ 64) && (decide (p.flows.length + 1 ≤ 128) && decide (p.outs.length ≤ p.ins.length + (p.flows.length + 1)))) = true
    rw [decide_eq_true (show p.ins.length ≤ 64 by omega), decide_eq_true (show p.flows.length + 1 ≤ 128 by omega), decide_eq_true (show p.outs.length ≤ p.ins.length + (p.flows.length + 1) by omega)]
    rfl
  · rcases List.mem_append.1 hf with hf | hf
    · exact h.2.2.1 f hf
    · obtain rfl : f = zmF x := by simpa using hf
      unfold flOk hdOk
      show (isName zmB && _ && (_ && chk x)) = true
      rw [zm_name, hx]
      unfold inR at hst ⊢
      simp [zmF, pM] at hst ⊢
      exact decide_eq_true hst.1
theorem pM_nmErr {p : Pg} {x : Ex} (h : nmErr p = 0) (hl : p.flows.length ≤ 126) (hz : findT (thingsL p) zmB = none) (hx : chk x = true) (ha : AskM p x) : nmErr (pM p x) = 0 := by
  obtain ⟨h1, h2⟩ := nmErr_zero h
  unfold nmErr
  rw [pM_pgOk h1 hl hx, pM_nmOk h2 hz ha]
  rfl
theorem filterMap_same {α β : Type} {f g : α → Option β} : ∀ {l : List α}, (∀ x ∈ l, f x = g x) → l.filterMap f = l.filterMap g
  | [], _ => rfl
  | a :: l, h => by
    rw [List.filterMap_cons, List.filterMap_cons, h a (by simp), filterMap_same (fun x hx => h x (by simp [hx]))]
theorem pM_need {p : Pg} {x : Ex} (h : nmOk p = true) (i : Nat) (hi : i < p.flows.length) : need (pM p x) 32 p.flows[i].body = need p 32 p.flows[i].body := by
  unfold need nb
  congr 1
  refine filterMap_same fun r hr => ?_
  obtain ⟨k, hk, rfl⟩ := List.getElem_of_mem hr
  obtain ⟨y, hy⟩ := find_asked_ok h (asked_mem hi hk)
  unfold nb1
  rw [hy]
  have : findT (thingsL (pM p x)) (gat 32 p.flows[i].body 0 [])[k].1 = some y := by
    rw [pM_things]
    unfold findT at hy ⊢
    rw [List.find?_append, hy]
    rfl
  rw [this]
theorem pM_edges {p : Pg} {x : Ex} (h : nmOk p = true) : ∀ k, k ≤ p.flows.length → edges (pM p x) 32 k = edges p 32 k
  | 0, _ => rfl
  | k + 1, hk => by
    have h1 : k < p.flows.length := by omega
    have h2 : k < (pM p x).flows.length := by rw [pM_len]; omega
    rw [edges, edges, pM_edges h k (by omega), dif_pos h1, dif_pos h2]
    unfold edgesOf
    rw [pM_old p x k h1 h2, pM_need h k h1]
theorem pM_rows {p : Pg} {x : Ex} (h : nmOk p = true) (i : Nat) (hi : i < p.flows.length) : rowsP (pM p x) i = rowsP p i := by
  unfold rowsP
  congr 1
  rw [pM_len, edges, pM_edges h _ (Nat.le_refl _), dif_pos (by rw [pM_len]; omega)]
  unfold whomF
  rw [List.filterMap_append]
  have : (edgesOf (pM p x) 32 p.flows.length (by rw [pM_len]; omega)).filterMap (fun e => if e.1 = (i : Int) then some e.2 else none) = [] := by
    rw [List.filterMap_eq_nil_iff]
    intro e he
    unfold edgesOf at he
    obtain ⟨z, _, rfl⟩ := List.mem_map.1 he
    rw [if_neg (by simp; omega)]
  rw [this, List.append_nil]
theorem pM_last {p : Pg} {x : Ex} (j : Nat) : j ∈ rowsP (pM p x) p.flows.length ↔ (j : Int) ∈ need (pM p x) 32 x := by
  rw [rowsP_mem]
  constructor
  · rintro ⟨h, hj⟩
    rw [pM_new] at hj
    exact hj
  · intro hj
    exact ⟨by rw [pM_len]; omega, by rw [pM_new]; exact hj⟩
theorem pM_nameAt (p : Pg) (x : Ex) (z : Nat) (h : z < p.flows.length) : nameAt (pM p x) (z : Int) = nameAt p (z : Int) := by
  unfold nameAt
  rw [Int.toNat_natCast]
  simp only [pM]
  rw [List.getElem?_append_left h]
theorem findI_before {p : Pg} {k : Nat} (h : findI p = some k) : ∀ j, j < k → leadB (rowsP p) p.flows.length j = false := by
  unfold findI at h
  rw [List.find?_eq_some_iff_getElem] at h
  obtain ⟨_, i, hi, e, h2⟩ := h
  rw [List.getElem_range] at e
  subst e
  intro j hj
  have := h2 j hj
  rw [List.getElem_range] at this
  simpa using this
theorem findI_no {p : Pg} (h : findI p = none) : ∀ j, j < p.flows.length → leadB (rowsP p) p.flows.length j = false := fun j hj => by
  unfold findI at h
  rw [List.find?_eq_none] at h
  simpa using h j (List.mem_range.2 hj)
theorem pM_lead {p : Pg} {x : Ex} (h : nmOk p = true) {j : Nat} (hj : j < p.flows.length) : leadB (rowsP (pM p x)) (pM p x).flows.length j = leadB (rowsP p) p.flows.length j := by
  have hl := rowsP_lt (pM p x)
  rw [pM_len] at hl ⊢
  exact lead_more (rowsP_lt p) hl (fun z hz => pM_rows h z hz) hj
theorem pM_some {p : Pg} {x : Ex} (h : nmOk p = true) {k : Nat} (hk : findI p = some k) : findI (pM p x) = some k ∧ findC (pM p x) = findC p := by
  obtain ⟨h1, h2⟩ := findI_at hk
  have h3 : findI (pM p x) = some k := findI_some (by rw [pM_len]; omega) (by rw [pM_lead h h1]; exact h2) (fun j hj => by rw [pM_lead h (by omega)]; exact findI_before hk j hj)
  refine ⟨h3, ?_⟩
  have hw := whoP_lt (pM p x)
  have hlen := pM_len p x
  rw [hlen] at hw
  have e : circP (pM p x) = circP p := by
    unfold circP
    rw [h3, hk]
    show circ (rowsP (pM p x)) (whoP (pM p x)) (pM p x).flows.length k = circ (rowsP p) (whoP p) p.flows.length k
    rw [hlen]
    exact circ_more (rowsP_lt p) (whoP_lt p) (rows_who p) hw (rows_who (pM p x)) (fun z hz => pM_rows h z hz) h1 h2
  unfold findC
  rw [e]
  exact List.map_congr_left fun z hz => pM_nameAt p x z (circP_lt z hz)
/-- Where the new one asks for another one, or for none. -/
theorem pM_find {p : Pg} {x : Ex} (h : nmOk p = true) (hx : ∀ j : Nat, (j : Int) ∈ need (pM p x) 32 x → j < p.flows.length) : findC (pM p x) = findC p := by
  cases hk : findI p with
  | some k => exact (pM_some h hk).2
  | none =>
    have h1 : findI (pM p x) = none := findI_none fun j hj => by
      rw [pM_len] at hj
      by_cases e : j < p.flows.length
      · rw [pM_lead h e]; exact findI_no hk j e
      · obtain rfl : j = p.flows.length := by omega
        refine lead_lone (rowsP_lt _) (fun i hi => ?_) (by rw [pM_len]; omega)
        obtain ⟨h2, _⟩ := (rowsP_mem _ _ _).1 hi
        rw [pM_len] at h2
        by_cases e2 : i < p.flows.length
        · rw [pM_rows h i e2] at hi
          have := rowsP_lt p i _ hi
          omega
        · obtain rfl : i = p.flows.length := by omega
          have := hx _ ((pM_last _).1 hi)
          omega
    unfold findC circP
    rw [h1, hk]
    rfl
/-- Where it asks for itself. -/
theorem pM_self {p : Pg} {x : Ex} (h : nmOk p = true) (hx : ∀ j : Nat, (j : Int) ∈ need (pM p x) 32 x ↔ j = p.flows.length) : findC (pM p x) = if (findC p).length = 0 then [zmB] else findC p := by
  cases hk : findI p with
  | some k =>
    rw [(pM_some h hk).2, if_neg]
    rw [findC_len]
    unfold circP
    rw [hk]
    simp [circ]
  | none =>
    have h0 : findC p = [] := by unfold findC circP; rw [hk]; rfl
    rw [h0, if_pos (show ([] : List ByteArray).length = 0 from rfl)]
    have hself : p.flows.length ∈ rowsP (pM p x) p.flows.length := (pM_last _).2 ((hx _).2 rfl)
    have hlt : p.flows.length < (pM p x).flows.length := by rw [pM_len]; omega
    have hl : leadB (rowsP (pM p x)) (pM p x).flows.length p.flows.length = true := (lead_spec (rowsP_lt _) hlt).2 ⟨0, _, rfl, hself⟩
    have h3 : findI (pM p x) = some p.flows.length := findI_some hlt hl (fun j hj => by rw [pM_lead h hj]; exact findI_no hk j hj)
    have hc := circ_spec (rowsP_lt _) (whoP_lt _) hlt (rows_who _) hl
    have e : circP (pM p x) = [p.flows.length] := by
      unfold circP
      rw [h3]
      exact circ_is hc (circ_zero _ _ _ _) rfl (by simp) (fun i hi => by simp at hi) (fun i hi => by simp at hi) (fun i hi e => by
        obtain rfl : i = 0 := by (simp at e; omega)
        exact hself)
    unfold findC
    rw [e]
    show [nameAt (pM p x) (p.flows.length : Int)] = [zmB]
    rw [name_at hlt, pM_new]
    rfl
theorem gat_leaf3 (s : ByteArray) : gat 32 ⟨3, 0, s, []⟩ 0 [] = [(s, 0)] := by simp [gat, ownRefs, addR, rIn]
theorem gat_leaf1 : gat 32 ⟨1, 0, ⟨#[]⟩, []⟩ 0 [] = [] := by simp [gat, ownRefs]
theorem chk_leaf3 {s : ByteArray} (h : isName s = true) : chk ⟨3, 0, s, []⟩ = true := by
  unfold chk
  simp [sz, fieldsOk, szL, h]
theorem chk_leaf1 : chk ⟨1, 0, ⟨#[]⟩, []⟩ = true := by decide
/-- The three: none, one that is there, itself. -/
theorem more_none {p : Pg} (hz : nmErr p = 0) (hl : p.flows.length ≤ 126) (hn : findT (thingsL p) zmB = none) : nmErr (pM p ⟨1, 0, ⟨#[]⟩, []⟩) = 0 ∧ findC (pM p ⟨1, 0, ⟨#[]⟩, []⟩) = findC p := by
  refine ⟨pM_nmErr hz hl hn chk_leaf1 (fun r hr => by rw [gat_leaf1] at hr; cases hr), pM_find (nmErr_zero hz).2 (fun j hj => ?_)⟩
  have : (j : Int) ∈ nb _ (gat 32 ⟨1, 0, ⟨#[]⟩, []⟩ 0 []) := List.mem_mergeSort.1 hj
  rw [gat_leaf1] at this
  cases this
theorem more_one {p : Pg} (hz : nmErr p = 0) (hl : p.flows.length ≤ 126) (hn : findT (thingsL p) zmB = none) (i : Nat) (hi : i < p.flows.length) : nmErr (pM p ⟨3, 0, p.flows[i].name, []⟩) = 0 ∧ findC (pM p ⟨3, 0, p.flows[i].name, []⟩) = findC p := by
  obtain ⟨h1, h2⟩ := nmErr_zero hz
  have hnm : isName p.flows[i].name = true := by
    unfold pgOk at h1
    simp only [Bool.and_eq_true, List.all_eq_true] at h1
    have h3 := h1.2.2.1 _ (List.getElem_mem hi)
    unfold flOk hdOk at h3
    simp only [Bool.and_eq_true] at h3
    exact h3.1.1
  have hf := find_flow_ok h2 i hi
  refine ⟨pM_nmErr hz hl hn (chk_leaf3 hnm) (fun r hr => ?_), pM_find h2 (fun j hj => ?_)⟩
  · rw [gat_leaf3] at hr
    obtain rfl : r = (p.flows[i].name, 0) := by simpa using hr
    refine .inr fun e => ?_
    have := findT_none (free_of_none e)
    rw [this] at hf
    cases hf
  · have hj : (j : Int) ∈ nb _ (gat 32 ⟨3, 0, p.flows[i].name, []⟩ 0 []) := List.mem_mergeSort.1 hj
    rw [gat_leaf3] at hj
    have hf2 : findT (thingsL (pM p ⟨3, 0, p.flows[i].name, []⟩)) p.flows[i].name = some ((i : Int), p.flows[i].hd) := by
      rw [pM_things]
      unfold findT at hf ⊢
      rw [List.find?_append, hf]
      rfl
    simp [nb, nb1, hf2] at hj
    omega
theorem more_self {p : Pg} (hz : nmErr p = 0) (hl : p.flows.length ≤ 126) (hn : findT (thingsL p) zmB = none) : nmErr (pM p ⟨3, 0, zmB, []⟩) = 0 ∧ findC (pM p ⟨3, 0, zmB, []⟩) = if (findC p).length = 0 then [zmB] else findC p := by
  obtain ⟨h1, h2⟩ := nmErr_zero hz
  refine ⟨pM_nmErr hz hl hn (chk_leaf3 zm_name) (fun r hr => ?_), pM_self h2 (fun j => ?_)⟩
  · rw [gat_leaf3] at hr
    obtain rfl : r = (zmB, 0) := by simpa using hr
    exact .inl rfl
  · have hf2 : findT (thingsL (pM p ⟨3, 0, zmB, []⟩)) zmB = some ((p.flows.length : Int), (zmF ⟨3, 0, zmB, []⟩).hd) := by
      rw [pM_things]
      unfold findT at hn ⊢
      rw [List.find?_append, hn]
      simp [zmF]
    have e : nb (pM p ⟨3, 0, zmB, []⟩) (gat 32 ⟨3, 0, zmB, []⟩ 0 []) = [(p.flows.length : Int)] := by
      rw [gat_leaf3]
      simp [nb, nb1, hf2]
    unfold need srt
    rw [List.mem_mergeSort, e]
    simp
    omega
theorem more_ck {p : Pg} (hz : nmErr p = 0) : ckC p = if (findC p).length = 0 then 0 else 8 := by
  unfold ckC
  rw [if_pos hz]
end Go.Proofs.YtjdlmhkfaodkgaaDoor.Lex
namespace Go.Proofs.YtjdlmhkfaodkgaaDoor.Lex
theorem nat_c {n : Int} (h : (Lit.int .u8 n).wf = true) : ∃ k : Nat, k < 256 ∧ n = (k : Int) := by
  simp [Lit.wf, IntKind.min, IntKind.max, IntKind.signed, IntKind.bits] at h
  exact ⟨n.toNat, by omega, by omega⟩
end Go.Proofs.YtjdlmhkfaodkgaaDoor.Lex
namespace Go.Proofs.YtjdlmhkfaodkgaaDoor.Lex
open Go.ChangeShapes Go.WideShapes Go.ChangeAt Go.RowKit Go.Joins
/-- The rows of flows, each with its body's row. -/
abbrev esF (ps : List (Fl × Value)) : List (List Value) := ps.map fun (q : Fl × Value) => flL q.1 q.2
theorem esF_each (ps : List (Fl × Value)) : ∀ e ∈ esF ps, e.length = 8 := fun e he => by
  obtain ⟨q, _, rfl⟩ := List.mem_map.1 he
  rfl
theorem TwFlows.own {w : World} {lo : Nat} {l : List Fl} {s : Value} (h : TwFlows w lo l s) : ∃ (ps : List (Fl × Value)) (fb cap : Nat), s = .slice (some ⟨fb, 0, none⟩) l.length cap ∧ ps.map (·.1) = l ∧ w.ownsRow lo 51 8 s l.length (esF ps).flatten ∧ ∀ q ∈ ps, Tw w (fb + 1) q.1.body q.2 := by
  obtain ⟨b, cap, sl, rfl, h1, h2, h3, h4, h5, h6, h7, cur, k1, k2, k3⟩ := h
  have hf : (List.ofFn fun (i : Fin l.length) => ((l[i], sl i) : Fl × Value)).map (·.1) = l := by
    apply List.ext_getElem
    · simp
    · intro i h1 h2; simp
  refine ⟨List.ofFn fun (i : Fin l.length) => (l[i], sl i), b, cap, rfl, hf, ⟨?_, .inr ⟨b, cap, cur, rfl, h1, k1, by omega, k3, k2, ?_⟩⟩, ?_⟩
  · rw [flat_len (esF_each _)]; simp
  · apply List.ext_getElem?
    intro k
    by_cases hk : k < l.length * 8
    · rw [List.getElem?_take_of_lt (by simpa using hk)]
      have hi : k / 8 < l.length := by omega
      have e : k = k / 8 * 8 + k % 8 := by omega
      have he : (esF (List.ofFn fun (i : Fin l.length) => ((l[i], sl i) : Fl × Value)))[k / 8]? = some (flL l[k / 8] (sl (k / 8))) := by
        rw [List.getElem?_map, List.getElem?_eq_getElem (by simpa using hi)]
        simp
      have f := flat_at (rest := []) (j := k % 8) (esF_each _) he (by omega)
      rw [List.append_nil] at f
      conv => rhs; rw [e]
      rw [f]
      have c : ∀ j, w.cell? ⟨b, k / 8 * 8 + j, none⟩ = cur[k / 8 * 8 + j]? := fun j => cell_of_row w b _ cur 51 (0, 0) k1
      obtain ⟨d0, d1, d2, d3, d4, d5, d6, d7⟩ := h5 (k / 8) hi
      have hj : k % 8 < 8 := by omega
      rw [Array.getElem?_toList]
      conv => lhs; rw [e]
      rw [← c]
      generalize k % 8 = j at hj ⊢
      match j, hj with
      | 0, _ => simpa using d0
      | 1, _ => simpa using d1
      | 2, _ => simpa using d2
      | 3, _ => simpa using d3
      | 4, _ => simpa using d4
      | 5, _ => simpa using d5
      | 6, _ => simpa using d6
      | 7, _ => simpa using d7
    · rw [List.getElem?_eq_none (by simp; omega), List.getElem?_eq_none (by rw [flat_len (esF_each _)]; simp; omega)]
  · intro q hq
    obtain ⟨i, rfl⟩ := List.mem_ofFn.1 hq
    exact h7 i i.2
theorem cell_eq {W W' : World} {b o : Nat} {v : Value} (h : W'.heap[b]? = W.heap[b]?) (hc : W.cell? ⟨b, o, none⟩ = some v) : W'.cell? ⟨b, o, none⟩ = some v := (World.cell?_of_block (w := W) (a := ⟨b, o, none⟩) h).trans hc
/-- What stands when the flow is behind the twin's. -/
theorem mor_pg {w9 X : World} {lo fb cap : Nat} {p : Pg} {A C v' : Value} {x : Ex} {ps : List (Fl × Value)} (hT : TwPg w9 lo p A (.slice (some ⟨fb, 0, none⟩) p.flows.length cap) C) (hps : ps.map (·.1) = p.flows) (htw : ∀ q ∈ ps, Tw w9 (fb + 1) q.1.body q.2)
    (hown : X.ownsRow lo 51 8 v' (p.flows.length + 1) ((esF ps).flatten ++ flL (zmF x) (.slice none 0 0))) (hk : ∀ b, b < w9.heap.size → b ≠ fb → X.heap[b]? = w9.heap[b]?) (hx : ∀ V, St V x (.slice none 0 0)) (hl : p.flows.length ≤ 900) : PgAt X (pM p x) A v' C := by
  obtain ⟨b2, cap2, sl2, e2, _, _, _, hok2, _, _, _, cur2, hb2, _⟩ := id hT.flows
  injection e2 with e2 _ _
  injection e2 with e2
  injection e2 with e2 _ _
  subst e2
  have hlen : ps.length = p.flows.length := by rw [← hps]; simp
  refine ⟨hT.st, ?_, ?_, ?_⟩
  · obtain ⟨b, cap, rfl, h1, h2, h3, h4, h5, h6, cur, hb, _⟩ := hT.ins
    have e := hk b (Array.getElem?_eq_some_iff.1 hb).1 (fun e => by
      rw [e, hb2] at hb
      simp at hb)
    exact ⟨_, cap, rfl, h2, by show p.ins.length ≤ cap; omega, h4, .inr ⟨b, 0, rfl, fun i hi => by
      obtain ⟨c0, c1, c2⟩ := h5 i hi
      rw [Nat.zero_add]
      exact ⟨cell_eq e c0, cell_eq e c1, cell_eq e c2⟩⟩⟩
  · have := fl_at (fs := ps ++ [(zmF x, .slice none 0 0)]) (W := X) (lo := lo) (v := v') (by
      rw [List.length_append, List.map_append, List.flatten_append, hlen]
      simpa using hown) (fun q hq => by
      rcases List.mem_append.1 hq with hq | hq
      · exact (Tw.carryN (fun b hb hlt => hk b hlt (by omega)) (Nat.le_refl _) _ _ _ (Nat.le_refl _) (htw q hq)).st
      · obtain rfl : q = (zmF x, .slice none 0 0) := by simpa using hq
        exact hx X) (fun q hq => by
      rcases List.mem_append.1 hq with hq | hq
      · exact hok2 _ (by rw [← hps]; exact List.mem_map_of_mem hq)
      · obtain rfl : q = (zmF x, .slice none 0 0) := by simpa using hq
        exact ⟨by show zmB.size ≤ _; decide, by show 1 < 256; omega, ⟨by show (-9223372036854775808 : Int) ≤ 1; omega, by show (1 : Int) ≤ _; omega⟩, ⟨by show (-9223372036854775808 : Int) ≤ 0; omega, by show (0 : Int) ≤ _; omega⟩⟩) (by simp; omega)
    rw [List.map_append, hps] at this
    exact this
  · obtain ⟨b, cap, rfl, h1, h2, h3, h4, h5, h6, cur, hb, _⟩ := hT.outs
    have e := hk b (Array.getElem?_eq_some_iff.1 hb).1 (fun e => by
      rw [e, hb2] at hb
      simp at hb)
    exact ⟨_, cap, rfl, h2, by show p.outs.length ≤ cap; omega, h4, .inr ⟨b, 0, rfl, fun i hi => by rw [Nat.zero_add]; exact cell_eq e (h5 i hi)⟩⟩
theorem mor_done {w9 W' : World} {lo fb cap : Nat} {p : Pg} {A C v' : Value} {x : Ex} {ps : List (Fl × Value)} {fc : Array Value} (hT : TwPg w9 lo p A (.slice (some ⟨fb, 0, none⟩) p.flows.length cap) C) (hps : ps.map (·.1) = p.flows) (htw : ∀ q ∈ ps, Tw w9 (fb + 1) q.1.body q.2) (hf : fb < w9.heap.size)
    (hown : W'.ownsRow lo 51 8 v' (p.flows.length + 1) ((esF ps).flatten ++ flL (zmF x) (.slice none 0 0))) (hg : ((w9.alloc (.cells #[.int .i64 p.st, A, .slice (some ⟨fb, 0, none⟩) p.flows.length cap, C] 26)).alloc (.cells fc 51)).grownBy W' (some fb)) (hx : ∀ V, St V x (.slice none 0 0)) (hl : p.flows.length ≤ 900) :
    W'.cell? ⟨w9.heap.size, 2, none⟩ = some (.slice (some ⟨fb, 0, none⟩) p.flows.length cap) ∧ W'.frozen? ⟨w9.heap.size, 2, none⟩ = false ∧ (W'.setCell ⟨w9.heap.size, 2, none⟩ v').heap[w9.heap.size]? = some (.cells #[.int .i64 p.st, A, v', C] 26 (0, 0)) ∧ PgAt (W'.setCell ⟨w9.heap.size, 2, none⟩ v') (pM p x) A v' C ∧ ∀ lo', lo' ≤ w9.heap.size → lo' ≤ fb → ∀ w0 : World, Below lo' w0 w9 → Below lo' w0 (W'.setCell ⟨w9.heap.size, 2, none⟩ v') := by
  have hrow : W'.heap[w9.heap.size]? = some (.cells #[.int .i64 p.st, A, .slice (some ⟨fb, 0, none⟩) p.flows.length cap, C] 26 (0, 0)) := by
    rw [hg.block _ (by simp; omega) (by intro e; injection e with e; omega)]
    exact push_old (heap_alloc_new w9 _)
  have hown2 : (W'.setCell ⟨w9.heap.size, 2, none⟩ v').ownsRow lo 51 8 v' (p.flows.length + 1) ((esF ps).flatten ++ flL (zmF x) (.slice none 0 0)) := by
    obtain ⟨r1, r2 | ⟨g', cap', cur, e, hlo', hb, r3⟩⟩ := hown
    · exact ⟨r1, .inl r2⟩
    · refine ⟨r1, .inr ⟨g', cap', cur, e, hlo', ?_, r3⟩⟩
      rw [Below.heap_setCell _ _ _ _ (fun e2 => by
        have e2 : g' = w9.heap.size := e2
        rw [e2, hrow] at hb
        simp at hb)]
      exact hb
  refine ⟨?_, by simp [World.frozen?, hrow], ?_, ?_, ?_⟩
  · rw [cell_of_row _ _ _ _ 26 (0, 0) hrow]; rfl
  · rw [set_same hrow]; rfl
  · refine mor_pg hT hps htw hown2 (fun b hb hn => ?_) hx hl
    rw [Below.heap_setCell _ _ _ _ (by show b ≠ w9.heap.size; omega), hg.block b (by simp; omega) (by intro e; injection e with e; exact hn e), Below.heap_alloc _ _ _ (by simp; omega), Below.heap_alloc _ _ _ hb]
  · intro lo' h1 h2 w0 h0
    exact (((h0.alloc h1 _).alloc (by simp; omega) _).grown hg (by simp; omega) (fun j hj => by injection hj with hj; omega)).setCell (p := ⟨w9.heap.size, 2, none⟩) h1 _
/-- A program in its variable. -/
structure QB (k : Nat) (st : Int) (q : Pg) (a b c : Value) (W : World) : Prop where
  row : W.heap[k]? = some (.cells #[.int .i64 st, a, b, c] 26 (0, 0))
  P : PgAt W q a b c
theorem QB.keep {k : Nat} {st : Int} {q : Pg} {a b c : Value} {W W' : World} (h : QB k st q a b c W) (hb : Below W.heap.size W W') : QB k st q a b c W' := ⟨keep_row h.row hb, h.P.keep hb⟩
/-- The three programs, and the names that were told. -/
structure MV (w : World) (p q r : Pg) (A B C qa qv qc ra rv rc : Value) (kq kr : Nat) (lv mv : Value) (l m : List ByteArray) (W : World) : Prop where
  p0 : FV w p A B C W
  pq : QB kq p.st q qa qv qc W
  pr : QB kr p.st r ra rv rc W
  tl : TxAt W lv l
  tm : TxAt W mv m
theorem MV.keep {w : World} {p q r : Pg} {A B C qa qv qc ra rv rc : Value} {kq kr : Nat} {lv mv : Value} {l m : List ByteArray} {W W' : World} (h : MV w p q r A B C qa qv qc ra rv rc kq kr lv mv l m W) (hb : Below W.heap.size W W') : MV w p q r A B C qa qv qc ra rv rc kq kr lv mv l m W' := ⟨h.p0.keep hb, h.pq.keep hb, h.pr.keep hb, h.tl.keep hb, h.tm.keep hb⟩
theorem find_ok {q : Pg} (hz : nmErr q = 0) {W : World} {a b c : Value} (hP : PgAt W q a b c) : Calls Tryd.prog 11 #[pgV q a b c] W fun e w' => ∃ u, e = .returned u ∧ NL W (findC q) u w' := by
  obtain ⟨h1, h2⟩ := nmErr_zero hz
  have h3 : q.flows.length ≤ 128 := by
    unfold pgOk roomOk at h1
    simp at h1
    omega
  exact circles_find q W a b c hP (pgOk_chk h1) (by omega) (fun f hf => pg_name h1 hf)
theorem row4e {W : World} {k : Nat} {o n s v : Value} (h : W.heap[k]? = some (.cells #[o, n, s, v] 49 (0, 0))) : W.cell? ⟨k, 0, none⟩ = some o ∧ W.cell? ⟨k, 1, none⟩ = some n ∧ W.cell? ⟨k, 2, none⟩ = some s ∧ W.cell? ⟨k, 3, none⟩ = some v := by
  refine ⟨?_, ?_, ?_, ?_⟩ <;> (rw [cell_of_row _ _ _ _ 49 (0, 0) h]; rfl)
/-- What the calls answer. -/
structure MF (p q r : Pg) (l m : List ByteArray) : Prop where
  zp : nmErr p = 0
  zq : nmErr q = 0
  zr : nmErr r = 0
  lp : findC p = l
  lq : findC q = l
  lr : findC r = m
  mm : m.length ≠ 0
theorem more_all {p q r : Pg} (hz : nmErr p = 0) (hq : nmErr q = 0 ∧ findC q = findC p) (hr : nmErr r = 0 ∧ findC r = if (findC p).length = 0 then [zmB] else findC p) (_ : True) : MF p q r (findC p) (findC r) := ⟨hz, hq.1, hr.1, rfl, hq.2, rfl, by
  rw [hr.2]
  split
  · simp
  · next h => exact h⟩
theorem MF.use {p q r : Pg} {l m : List ByteArray} (h : MF p q r l m) (hq : q.st = p.st) (hr : r.st = p.st) :
    (∀ W a b c, PgAt W p a b c → TabR W → TabJ W → Calls Tryd.prog 12 #[.agg #[.int .i64 p.st, a, b, c]] W fun e w' => e = .returned (.int .i64 (ckC p)) ∧ Below W.heap.size W w') ∧
    (∀ W a b c, PgAt W q a b c → Calls Tryd.prog 11 #[.agg #[.int .i64 p.st, a, b, c]] W fun e w' => ∃ u, e = .returned u ∧ NL W l u w') ∧ True ∧
    (∀ W a b c, PgAt W q a b c → TabR W → TabJ W → Calls Tryd.prog 12 #[.agg #[.int .i64 p.st, a, b, c]] W fun e w' => e = .returned (.int .i64 (ckC p)) ∧ Below W.heap.size W w') ∧
    (∀ W a b c, PgAt W r a b c → TabR W → TabJ W → Calls Tryd.prog 12 #[.agg #[.int .i64 p.st, a, b, c]] W fun e w' => e = .returned (.int .i64 8) ∧ Below W.heap.size W w') := by
  refine ⟨fun W a b c hP hR hJ => circles_check p W a b c hP hR hJ, fun W a b c hP => ?_, trivial, fun W a b c hP hR hJ => ?_, fun W a b c hP hR hJ => ?_⟩
  · have := find_ok h.zq hP
    rw [h.lq] at this
    rw [← hq]
    exact this
  · have := circles_check q W a b c hP hR hJ
    rw [more_ck h.zq, h.lq, ← h.lp, ← more_ck h.zp] at this
    rw [← hq]
    exact this
  · have := circles_check r W a b c hP hR hJ
    rw [more_ck h.zr, h.lr, if_neg h.mm] at this
    rw [← hr]
    exact this
end Go.Proofs.YtjdlmhkfaodkgaaDoor.Lex
namespace Go.Proofs.YtjdlmhkfaodkgaaDoor.Lex
open Go.ChangeShapes Go.WideShapes Go.ChangeAt Go.RowKit Go.Joins
set_option maxRecDepth 100000 in
set_option maxHeartbeats 1000000 in
theorem walk7 (p : Pg) (n : Nat) (w : World) (a b c : Value) (hP : PgAt w p a b c) (hn : n < 256) (hR : TabR w) (hJ : TabJ w) : Calls Tryd.prog 7 #[pgV p a b c, .int .u8 (n : Int)] w fun e w' => e = .returned (.bool true) ∧ Below w.heap.size w w' := by
  obtain ⟨a0, a1, rfl, _⟩ := hP.ins
  obtain ⟨b0, b1, _, rfl, _⟩ := hP.flows
  obtain ⟨c0, c1, rfl, _⟩ := hP.outs
  have X0 := hid (FV.new hP hR hJ)
  clear hP hR hJ
  obtain ⟨i51, hi, hz0, hz1, hz2⟩ := info_parts inf51P
  go_enter Tryd.func7, Tryd.ntmps7
  go_wp2_with (fail)
  refine (alive _ X0.out.R X0.out.J).mono ?_
  rintro e w1 ⟨rfl, hb1⟩
  have X1 := hid (X0.out.keep hb1)
  clear hb1
  obtain ⟨s0, s1, s2, s3⟩ := row4 X1.out.row
  go_wp2_with (fail)
  refine (great p _ _ _ _ X1.out.P).mono ?_
  rintro e w2 ⟨⟨gr, rfl, hg⟩, hb2⟩
  have X2 := hid (X1.out.keep hb2)
  clear hb2 X1 X0 s0 s1 s2 s3 hg
  cases gr with
  | true =>
    go_wp2_with (fail)
    refine (alive _ X2.out.R X2.out.J).mono ?_
    rintro e w3 ⟨rfl, hb3⟩
    have X3 := hid (X2.out.keep hb3)
    clear hb3
    have HB := hid X3.out.below
    go_wp2_with (fail)
    go_ret
    exact ⟨rfl, HB.out⟩
  | false =>
    obtain ⟨s0, s1, s2, s3⟩ := row4 X2.out.row
    go_wp2_with (fail)
    refine ((callsIn_wide (n := 20)).1 (names_check p _ _ _ _ X2.out.P X2.out.R X2.out.J)).mono ?_
    rintro e w3 ⟨rfl, hb3⟩
    have X3 := hid (X2.out.keep hb3)
    clear hb3 X2 s0 s1 s2 s3
    by_cases hz : nmErr p = 0
    · skip
      have HZ := hid hz
      obtain ⟨h1, h2⟩ := nmErr_zero hz
      have HPN := hid (fun f (hf : f ∈ p.flows) => pg_name h1 hf)
      rw [hz]
      clear hz h1 h2
      obtain ⟨s0, s1, s2, s3⟩ := row4 X3.out.row
      by_cases hl : p.flows.length ≤ 126
      · have hl' : ¬ (126 : Int) < (p.flows.length : Int) := by omega
        have hl1000 : p.flows.length ≤ 900 := by omega
        have hl'' : decide (126 < p.flows.length) = false := by simp; omega
        go_wp2_with (fail)
        have c18 := find p zmB _ _ _ _ X3.out.P
        cases hn : findT (thingsL p) zmB with
        | some y =>
          rw [hn] at c18
          clear hn
          simp only [foV] at c18
          refine c18.mono ?_
          rintro e w4 ⟨rfl, hb⟩
          have HB := hid (X3.out.keep hb).below
          clear hb c18 X3 s0 s1 s2 s3
          go_wp2_with (fail)
          go_ret
          exact ⟨rfl, HB.out⟩
        | none =>
          rw [hn] at c18
          have HN := hid hn
          clear hn
          simp only [foV] at c18
          refine c18.mono ?_
          rintro e w5 ⟨rfl, hb⟩
          have X5 := hid (X3.out.keep hb)
          clear hb c18 X3 s0 s1 s2 s3
          have b6 := (Below.refl w5.heap.size w5).alloc (Nat.le_refl _) (.cells #[.int .u8 1, .int .i64 0, .string ⟨#[]⟩, .slice none 0 0] 49)
          have XX := hid (X5.out.keep b6)
          have KX : Hid ((w5.alloc (.cells #[.int .u8 1, .int .i64 0, .string ⟨#[]⟩, .slice none 0 0] 49)).heap[w5.heap.size]? = some (.cells #[.int .u8 1, .int .i64 0, .string ⟨#[]⟩, .slice none 0 0] 49 (0, 0))) := hid (heap_alloc_new _ _)
          obtain ⟨s0, s1, s2, s3⟩ := row4 XX.out.row
          by_cases h0 : p.flows.length = 0
          · have h0'' : decide (0 < p.flows.length) = false := by simp [h0]
            clear h0
            have HM := hid (And.intro (more_none HZ.out hl HN.out) (And.intro (more_self HZ.out hl HN.out) trivial))
            go_wp2_with (fail)
            generalize (w5.alloc (.cells #[.int .u8 1, .int .i64 0, .string ⟨#[]⟩, .slice none 0 0] 49)) = wx at *
            clear s0 s1 s2 s3 b6 X5 h0''
            obtain ⟨s0, s1, s2, s3⟩ := row4 XX.out.row
            go_wp2_with (fail)
            refine (twin_prog p _ _ _ _ XX.out.P).mono ?_
            rintro e v4 ⟨ta, tb, tc, rfl, hT, hb⟩
            obtain ⟨i4, j4, rfl, _⟩ := id hT.ins
            obtain ⟨o4, q4, rfl, _⟩ := id hT.outs
            obtain ⟨ps4, f4, g4, rfl, hps, hown0, htw⟩ := hT.flows.own
            have HB9 := hid hb
            have HF9 := hid (own_lo9 hown0 f4 rfl)
            have HTT := hid (And.intro hT (And.intro hps htw))
            have B9 := bstep ((Below.refl v4.heap.size v4).alloc (Nat.le_refl _) (.cells #[.int .i64 p.st, .slice (some ⟨i4, 0, none⟩) p.ins.length j4, .slice (some ⟨f4, 0, none⟩) p.flows.length g4, .slice (some ⟨o4, 0, none⟩) p.outs.length q4] 26)) ((Below.refl _ _).alloc (Nat.le_refl _) (.cells #[.string ⟨#[90, 109, 111, 114, 101, 95]⟩, .int .u8 1, .int .i64 1, .int .i64 0, .int .u8 1, .int .i64 0, .string ⟨#[]⟩, .slice none 0 0] 51))
            have OW := hid (own_carry9 hown0 (fun b _ hl => B9.block b hl))
            have nc := next_cells (v4.alloc (.cells #[.int .i64 p.st, .slice (some ⟨i4, 0, none⟩) p.ins.length j4, .slice (some ⟨f4, 0, none⟩) p.flows.length g4, .slice (some ⟨o4, 0, none⟩) p.outs.length q4] 26)) [.string ⟨#[90, 109, 111, 114, 101, 95]⟩, .int .u8 1, .int .i64 1, .int .i64 0, .int .u8 1, .int .i64 0, .string ⟨#[]⟩, .slice none 0 0] 51
            rw [World.size_alloc] at nc
            have NC := hid nc
            have HSZ : Hid (wx.heap.size ≤ ((v4.alloc (.cells #[.int .i64 p.st, .slice (some ⟨i4, 0, none⟩) p.ins.length j4, .slice (some ⟨f4, 0, none⟩) p.flows.length g4, .slice (some ⟨o4, 0, none⟩) p.outs.length q4] 26)).alloc (.cells #[.string ⟨#[90, 109, 111, 114, 101, 95]⟩, .int .u8 1, .int .i64 1, .int .i64 0, .int .u8 1, .int .i64 0, .string ⟨#[]⟩, .slice none 0 0] 51)).heap.size) := hid (Nat.le_trans hb.size (by simp; omega))
            obtain ⟨x0, x1, x2, x3⟩ := row4e (keep_row (keep_row KX.out hb) ((Below.refl v4.heap.size v4).alloc (Nat.le_refl _) (.cells #[.int .i64 p.st, .slice (some ⟨i4, 0, none⟩) p.ins.length j4, .slice (some ⟨f4, 0, none⟩) p.flows.length g4, .slice (some ⟨o4, 0, none⟩) p.outs.length q4] 26)))
            obtain ⟨m0, m1, m2, m3⟩ := row4 (show (v4.alloc (.cells #[.int .i64 p.st, .slice (some ⟨i4, 0, none⟩) p.ins.length j4, .slice (some ⟨f4, 0, none⟩) p.flows.length g4, .slice (some ⟨o4, 0, none⟩) p.outs.length q4] 26)).heap[v4.heap.size]? = some (.cells #[.int .i64 p.st, .slice (some ⟨i4, 0, none⟩) p.ins.length j4, .slice (some ⟨f4, 0, none⟩) p.flows.length g4, .slice (some ⟨o4, 0, none⟩) p.outs.length q4] 26 (0, 0)) from heap_alloc_new _ _)
            clear hT hps hown0 htw hb nc B9
            (try clear s0 s1 s2 s3)
            go_wp2_with (at_builtin; refine wpList_append_own_at _ rfl (.tmp 60) (.tmp 63) 23 rfl wx.heap.size 51 i51 _ 8 96 Tryd.underlying23 hi hz0 hz1 hz2 rfl (by decide) _ _ _ rfl OW.out ⟨v4.heap.size + 1, 0, none⟩ 1 1 [.string ⟨#[90, 109, 111, 114, 101, 95]⟩, .int .u8 1, .int .i64 1, .int .i64 0, .int .u8 1, .int .i64 0, .string ⟨#[]⟩, .slice none 0 0] rfl rfl NC.out (by simp [Value.oneCell']) (by unfold maxLen; omega) (by omega) HSZ.out ?_; intro y w' hown hg _ _; obtain ⟨ya4, yn4, yc4, rfl⟩ := own_shape hown; obtain ⟨d0, d1, hr, hpg, hbb⟩ := mor_done (x := ⟨1, 0, ⟨#[]⟩, []⟩) HTT.out.1 HTT.out.2.1 HTT.out.2.2 HF9.out.2 hown hg (fun V => st_leaf V 1 ⟨#[]⟩ (by decide) (by decide)) hl1000; have QN := hid (QB.mk hr hpg); have BN := hid (hbb _ HB9.out.size HF9.out.1 _ HB9.out); have XN := hid (XX.out.keep BN.out); obtain ⟨e0, e1, e2, e3⟩ := row4 XN.out.row; clear hown hg hr hpg hbb)
            (try clear x0 x1 x2 x3)
            clear m0 m1 m2 m3 d0 d1 e0 e1 e2 e3 HTT OW NC HSZ HF9 HB9
            have X4 := XN
            clear XN
            generalize w'.setCell ⟨v4.heap.size, 2, none⟩ (.slice ya4 yn4 yc4) = w4 at *
            generalize v4.heap.size = kq at *
            have Q4 := QN
            clear QN BN XX
            refine (twin_prog p _ _ _ _ X4.out.P).mono ?_
            rintro e v5 ⟨ta, tb, tc, rfl, hT, hb⟩
            obtain ⟨i5, j5, rfl, _⟩ := id hT.ins
            obtain ⟨o5, q5, rfl, _⟩ := id hT.outs
            obtain ⟨ps5, f5, g5, rfl, hps, hown0, htw⟩ := hT.flows.own
            have HB9 := hid hb
            have HF9 := hid (own_lo9 hown0 f5 rfl)
            have HTT := hid (And.intro hT (And.intro hps htw))
            have B9 := bstep ((Below.refl v5.heap.size v5).alloc (Nat.le_refl _) (.cells #[.int .i64 p.st, .slice (some ⟨i5, 0, none⟩) p.ins.length j5, .slice (some ⟨f5, 0, none⟩) p.flows.length g5, .slice (some ⟨o5, 0, none⟩) p.outs.length q5] 26)) ((Below.refl _ _).alloc (Nat.le_refl _) (.cells #[.string ⟨#[90, 109, 111, 114, 101, 95]⟩, .int .u8 1, .int .i64 1, .int .i64 0, .int .u8 3, .int .i64 0, .string ⟨#[90, 109, 111, 114, 101, 95]⟩, .slice none 0 0] 51))
            have OW := hid (own_carry9 hown0 (fun b _ hl => B9.block b hl))
            have nc := next_cells (v5.alloc (.cells #[.int .i64 p.st, .slice (some ⟨i5, 0, none⟩) p.ins.length j5, .slice (some ⟨f5, 0, none⟩) p.flows.length g5, .slice (some ⟨o5, 0, none⟩) p.outs.length q5] 26)) [.string ⟨#[90, 109, 111, 114, 101, 95]⟩, .int .u8 1, .int .i64 1, .int .i64 0, .int .u8 3, .int .i64 0, .string ⟨#[90, 109, 111, 114, 101, 95]⟩, .slice none 0 0] 51
            rw [World.size_alloc] at nc
            have NC := hid nc
            have HSZ : Hid (w4.heap.size ≤ ((v5.alloc (.cells #[.int .i64 p.st, .slice (some ⟨i5, 0, none⟩) p.ins.length j5, .slice (some ⟨f5, 0, none⟩) p.flows.length g5, .slice (some ⟨o5, 0, none⟩) p.outs.length q5] 26)).alloc (.cells #[.string ⟨#[90, 109, 111, 114, 101, 95]⟩, .int .u8 1, .int .i64 1, .int .i64 0, .int .u8 3, .int .i64 0, .string ⟨#[90, 109, 111, 114, 101, 95]⟩, .slice none 0 0] 51)).heap.size) := hid (Nat.le_trans hb.size (by simp; omega))
            obtain ⟨m0, m1, m2, m3⟩ := row4 (show (v5.alloc (.cells #[.int .i64 p.st, .slice (some ⟨i5, 0, none⟩) p.ins.length j5, .slice (some ⟨f5, 0, none⟩) p.flows.length g5, .slice (some ⟨o5, 0, none⟩) p.outs.length q5] 26)).heap[v5.heap.size]? = some (.cells #[.int .i64 p.st, .slice (some ⟨i5, 0, none⟩) p.ins.length j5, .slice (some ⟨f5, 0, none⟩) p.flows.length g5, .slice (some ⟨o5, 0, none⟩) p.outs.length q5] 26 (0, 0)) from heap_alloc_new _ _)
            clear hT hps hown0 htw hb nc B9
            (try clear s0 s1 s2 s3)
            go_wp2_with (at_builtin; refine wpList_append_own_at _ rfl (.tmp 69) (.tmp 72) 23 rfl w4.heap.size 51 i51 _ 8 96 Tryd.underlying23 hi hz0 hz1 hz2 rfl (by decide) _ _ _ rfl OW.out ⟨v5.heap.size + 1, 0, none⟩ 1 1 [.string ⟨#[90, 109, 111, 114, 101, 95]⟩, .int .u8 1, .int .i64 1, .int .i64 0, .int .u8 3, .int .i64 0, .string ⟨#[90, 109, 111, 114, 101, 95]⟩, .slice none 0 0] rfl rfl NC.out (by simp [Value.oneCell']) (by unfold maxLen; omega) (by omega) HSZ.out ?_; intro y w' hown hg _ _; obtain ⟨ya5, yn5, yc5, rfl⟩ := own_shape hown; obtain ⟨d0, d1, hr, hpg, hbb⟩ := mor_done (x := ⟨3, 0, zmB, []⟩) HTT.out.1 HTT.out.2.1 HTT.out.2.2 HF9.out.2 hown hg (fun V => st_leaf V 3 ⟨#[90, 109, 111, 114, 101, 95]⟩ (by decide) (by decide)) hl1000; have QN := hid (QB.mk hr hpg); have BN := hid (hbb _ HB9.out.size HF9.out.1 _ HB9.out); have XN := hid (X4.out.keep BN.out); obtain ⟨e0, e1, e2, e3⟩ := row4 XN.out.row; clear hown hg hr hpg hbb)
            (try clear x0 x1 x2 x3)
            clear m0 m1 m2 m3 d0 d1 e0 e1 e2 e3 HTT OW NC HSZ HF9 HB9
            have X5 := XN
            clear XN
            have Q5 := hid (Q4.out.keep BN.out)
            generalize w'.setCell ⟨v5.heap.size, 2, none⟩ (.slice ya5 yn5 yc5) = w5 at *
            generalize v5.heap.size = kr at *
            have R5 := QN
            clear QN BN X4 Q4
            refine (find_ok HZ.out X5.out.P).mono ?_
            rintro e w6 ⟨lv, rfl, hnl⟩
            have X6 := hid (X5.out.keep hnl.below)
            have Q6 := hid (Q5.out.keep hnl.below)
            have R6 := hid (R5.out.keep hnl.below)
            have T6 := hid hnl.tx
            obtain ⟨la, lc, rfl⟩ := hnl.shape
            clear hnl X5 Q5 R5
            obtain ⟨r0, r1, r2, r3⟩ := row4 R6.out.row
            go_wp2_with (fail)
            have c11 := find_ok HM.out.2.1.1 R6.out.P
            refine c11.mono ?_
            rintro e w7 ⟨mv, rfl, hnl⟩
            have Y7 := hid (MV.mk (X6.out.keep hnl.below) (Q6.out.keep hnl.below) (R6.out.keep hnl.below) (T6.out.keep hnl.below) hnl.tx)
            obtain ⟨ma, mc, rfl⟩ := hnl.shape
            clear hnl X6 Q6 R6 T6 c11 r0 r1 r2 r3
            have HLL : Hid ((findC p).length ≤ 1048576) := hid (by have := findC_few HZ.out; omega)
            have HSP : Hid ((pM p ⟨1, 0, ⟨#[]⟩, []⟩).st = p.st ∧ (pM p ⟨3, 0, zmB, []⟩).st = p.st) := hid ⟨rfl, rfl⟩
            have F := hid (more_all HZ.out HM.out.1 HM.out.2.1 HM.out.2.2)
            have HFR := hid HM.out.2.1.2
            generalize pM p ⟨1, 0, ⟨#[]⟩, []⟩ = q at *
            generalize pM p ⟨3, 0, zmB, []⟩ = r at *
            generalize findC p = l at *
            generalize findC r = m at *
            have FX := F
            clear F
            have F := hid (MF.use FX.out HSP.out.1 HSP.out.2)
            clear FX HM HZ
            have Y0 := hid (Y7.out.keep (Below.refl _ _).drew)
            obtain ⟨s0, s1, s2, s3⟩ := row4 Y7.out.p0.row
            obtain ⟨t0, t1, t2, t3⟩ := row4 Y7.out.pq.row
            obtain ⟨r0, r1, r2, r3⟩ := row4 Y7.out.pr.row
            go_wp2_with (fail)
            clear s0 s1 s2 s3 t0 t1 t2 t3 r0 r1 r2 r3
            obtain ⟨s0, s1, s2, s3⟩ := row4 Y0.out.p0.row
            obtain ⟨t0, t1, t2, t3⟩ := row4 Y0.out.pq.row
            obtain ⟨r0, r1, r2, r3⟩ := row4 Y0.out.pr.row
            refine wp_region_held_drew (S := fun W => W.cell? ⟨w.heap.size, 0, none⟩ = some (.int .i64 p.st) ∧ W.cell? ⟨w.heap.size, 1, none⟩ = some ((.slice a0 p.ins.length a1)) ∧ W.cell? ⟨w.heap.size, 2, none⟩ = some ((.slice b0 p.flows.length b1)) ∧ W.cell? ⟨w.heap.size, 3, none⟩ = some ((.slice c0 p.outs.length c1)) ∧ W.cell? ⟨kq, 0, none⟩ = some (.int .i64 p.st) ∧ W.cell? ⟨kq, 1, none⟩ = some (.slice (some ⟨i4, 0, none⟩) p.ins.length j4) ∧ W.cell? ⟨kq, 2, none⟩ = some (.slice ya4 yn4 yc4) ∧ W.cell? ⟨kq, 3, none⟩ = some (.slice (some ⟨o4, 0, none⟩) p.outs.length q4) ∧ W.cell? ⟨kr, 0, none⟩ = some (.int .i64 p.st) ∧ W.cell? ⟨kr, 1, none⟩ = some (.slice (some ⟨i5, 0, none⟩) p.ins.length j5) ∧ W.cell? ⟨kr, 2, none⟩ = some (.slice ya5 yn5 yc5) ∧ W.cell? ⟨kr, 3, none⟩ = some (.slice (some ⟨o5, 0, none⟩) p.outs.length q5)) (by kernel_rfl) ?_ (fun hHeld => ?_)
            · exact ⟨s0, s1, s2, s3, t0, t1, t2, t3, r0, r1, r2, r3⟩
            refine wpAnyH_take (i := 0) (oi := { dst := some 79, op := Go.Op.load 26 (Go.Operand.tmp 10), type := 26, pos := _, after := #[], guard := none }) (v := ?_) rfl (by kernel_rfl) (by kernel_rfl) (by kernel_rfl) (fun _ _ _ h => h) (Or.inl ⟨by rfl, ?_⟩) (by assumption) ?_
            rotate_left
            · intro w hSw; (try dsimp only at hSw); go_simp <;> first | with_reducible rfl | (rw [if_neg (by first | omega | (simp only [ByteArray.size_append] at *; omega))])
            simp only [Act.put, List.setIfInBounds_toArray, List.set_cons_zero, List.set_cons_succ]
            refine wpAnyH_take (i := 2) (oi := { dst := some 81, op := Go.Op.move (Go.Operand.tmp 12), type := 24, pos := _, after := #[], guard := none }) (v := ?_) rfl (by kernel_rfl) (by kernel_rfl) (by kernel_rfl) (fun _ _ _ h => h) (Or.inl ⟨by rfl, ?_⟩) (by assumption) ?_
            rotate_left
            · intro w hSw; (try dsimp only at hSw); go_simp <;> first | with_reducible rfl | (rw [if_neg (by first | omega | (simp only [ByteArray.size_append] at *; omega))])
            simp only [Act.put, List.setIfInBounds_toArray, List.set_cons_zero, List.set_cons_succ]
            refine wpAnyH_ready (rs := [1]) (by kernel_rfl) (by simp) ?_
            refine AllReadyH.cons (o := { dst := some 80, op := Go.Op.call { callee := Go.Callee.value (Go.Operand.func 11), args := #[Go.Operand.tmp 79], argTypes := #[26] }, type := 24, pos := _, after := #[{ on := 0, ground := Go.Ground.data }], guard := none }) rfl (fun K hK => ?_) AllReadyH.nil
            go_simp
            refine (F.out.2.1 _ _ _ _ Y0.out.pq.P).mono ?_
            rintro e x1 ⟨fv, rfl, hnl⟩
            have hb := hnl.below
            have T1 := hid hnl.tx
            clear hnl
            have Y1 := hid (Y0.out.keep hb)
            clear s0 s1 s2 s3 t0 t1 t2 t3 r0 r1 r2 r3
            obtain ⟨s0, s1, s2, s3⟩ := row4 Y1.out.p0.row
            obtain ⟨t0, t1, t2, t3⟩ := row4 Y1.out.pq.row
            obtain ⟨r0, r1, r2, r3⟩ := row4 Y1.out.pr.row
            clear hb
            go_wp2_with fail
            refine hK.out _ _ ?_ (fun hHeld1 => ?_)
            · exact ⟨s0, s1, s2, s3, t0, t1, t2, t3, r0, r1, r2, r3⟩
            clear hK K
            refine wpAnyH_ready (rs := [3]) (by kernel_rfl) (by simp) ?_
            refine AllReadyH.cons (o := { dst := some 82, op := Go.Op.call { callee := Go.Callee.value (Go.Operand.func 17), args := #[Go.Operand.tmp 80, Go.Operand.tmp 81], argTypes := #[24, 24] }, type := 4, pos := _, after := #[{ on := 1, ground := Go.Ground.data }, { on := 2, ground := Go.Ground.data }, { on := 1, ground := Go.Ground.chain }], guard := none }) rfl (fun K hK => ?_) AllReadyH.nil
            go_simp
            refine (same_texts _ _ _ _ T1.out Y1.out.tl HLL.out).mono ?_
            rintro e x2 ⟨rfl, hb⟩
            have Y2 := hid (Y1.out.keep hb)
            clear s0 s1 s2 s3 t0 t1 t2 t3 r0 r1 r2 r3
            obtain ⟨s0, s1, s2, s3⟩ := row4 Y2.out.p0.row
            obtain ⟨t0, t1, t2, t3⟩ := row4 Y2.out.pq.row
            obtain ⟨r0, r1, r2, r3⟩ := row4 Y2.out.pr.row
            clear hb
            go_wp2_with fail
            refine hK.out _ _ ?_ (fun hHeld2 => ?_)
            · exact ⟨s0, s1, s2, s3, t0, t1, t2, t3, r0, r1, r2, r3⟩
            clear hK K
            refine wpAnyH_take (i := 4) (oi := { dst := some 83, op := Go.Op.unOp Go.UnOp.not 4 (Go.Operand.tmp 82), type := 4, pos := _, after := #[{ on := 3, ground := Go.Ground.data }], guard := none }) (v := ?_) rfl (by kernel_rfl) (by kernel_rfl) (by kernel_rfl) (fun _ _ _ h => h) (Or.inl ⟨by rfl, ?_⟩) (by assumption) ?_
            rotate_left
            · intro w hSw; (try dsimp only at hSw); go_simp <;> first | with_reducible rfl | (rw [if_neg (by first | omega | (simp only [ByteArray.size_append] at *; omega))])
            simp only [Act.put, List.setIfInBounds_toArray, List.set_cons_zero, List.set_cons_succ]
            refine wpAnyH_take (i := 5) (oi := { dst := some 84, op := Go.Op.move (Go.Operand.tmp 83), type := 4, pos := _, after := #[{ on := 4, ground := Go.Ground.data }, { on := 3, ground := Go.Ground.chain }], guard := none }) (v := ?_) rfl (by kernel_rfl) (by kernel_rfl) (by kernel_rfl) (fun _ _ _ h => h) (Or.inl ⟨by rfl, ?_⟩) (by assumption) ?_
            rotate_left
            · intro w hSw; (try dsimp only at hSw); go_simp <;> first | with_reducible rfl | (rw [if_neg (by first | omega | (simp only [ByteArray.size_append] at *; omega))])
            simp only [Act.put, List.setIfInBounds_toArray, List.set_cons_zero, List.set_cons_succ]
            refine wpAnyH_take (i := 6) (oi := { dst := some 85, op := Go.Op.load 26 (Go.Operand.tmp 10), type := 26, pos := _, after := #[{ on := 5, ground := Go.Ground.guard }], guard := some (5, false) }) (v := ?_) rfl (by kernel_rfl) (by kernel_rfl) (by kernel_rfl) (fun _ _ _ h => h) (Or.inl ⟨by rfl, ?_⟩) (by assumption) ?_
            rotate_left
            · intro w hSw; (try dsimp only at hSw); go_simp <;> first | with_reducible rfl | (rw [if_neg (by first | omega | (simp only [ByteArray.size_append] at *; omega))])
            simp only [Act.put, List.setIfInBounds_toArray, List.set_cons_zero, List.set_cons_succ]
            refine wpAnyH_take (i := 8) (oi := { dst := some 87, op := Go.Op.load 26 (Go.Operand.tmp 2), type := 26, pos := _, after := #[{ on := 5, ground := Go.Ground.guard }], guard := some (5, false) }) (v := ?_) rfl (by kernel_rfl) (by kernel_rfl) (by kernel_rfl) (fun _ _ _ h => h) (Or.inl ⟨by rfl, ?_⟩) (by assumption) ?_
            rotate_left
            · intro w hSw; (try dsimp only at hSw); go_simp <;> first | with_reducible rfl | (rw [if_neg (by first | omega | (simp only [ByteArray.size_append] at *; omega))])
            simp only [Act.put, List.setIfInBounds_toArray, List.set_cons_zero, List.set_cons_succ]
            refine wpAnyH_ready (rs := [7]) (by kernel_rfl) (by simp) ?_
            refine AllReadyH.cons (o := { dst := some 86, op := Go.Op.call { callee := Go.Callee.value (Go.Operand.func 12), args := #[Go.Operand.tmp 85], argTypes := #[26] }, type := 29, pos := _, after := #[{ on := 6, ground := Go.Ground.data }, { on := 5, ground := Go.Ground.chain }, { on := 5, ground := Go.Ground.guard }], guard := some (5, false) }) rfl (fun K hK => ?_) AllReadyH.nil
            go_simp
            refine (F.out.2.2.2.1 _ _ _ _ Y2.out.pq.P Y2.out.p0.R Y2.out.p0.J).mono ?_
            rintro e x3 ⟨rfl, hb⟩
            have Y3 := hid (Y2.out.keep hb)
            clear s0 s1 s2 s3 t0 t1 t2 t3 r0 r1 r2 r3
            obtain ⟨s0, s1, s2, s3⟩ := row4 Y3.out.p0.row
            obtain ⟨t0, t1, t2, t3⟩ := row4 Y3.out.pq.row
            obtain ⟨r0, r1, r2, r3⟩ := row4 Y3.out.pr.row
            clear hb
            go_wp2_with fail
            refine hK.out _ _ ?_ (fun hHeld3 => ?_)
            · exact ⟨s0, s1, s2, s3, t0, t1, t2, t3, r0, r1, r2, r3⟩
            clear hK K
            refine wpAnyH_ready (rs := [9]) (by kernel_rfl) (by simp) ?_
            refine AllReadyH.cons (o := { dst := some 88, op := Go.Op.call { callee := Go.Callee.value (Go.Operand.func 12), args := #[Go.Operand.tmp 87], argTypes := #[26] }, type := 29, pos := _, after := #[{ on := 8, ground := Go.Ground.data }, { on := 7, ground := Go.Ground.chain }, { on := 5, ground := Go.Ground.guard }], guard := some (5, false) }) rfl (fun K hK => ?_) AllReadyH.nil
            go_simp
            refine (F.out.1 _ _ _ _ Y3.out.p0.P Y3.out.p0.R Y3.out.p0.J).mono ?_
            rintro e x4 ⟨rfl, hb⟩
            have Y4 := hid (Y3.out.keep hb)
            clear s0 s1 s2 s3 t0 t1 t2 t3 r0 r1 r2 r3
            obtain ⟨s0, s1, s2, s3⟩ := row4 Y4.out.p0.row
            obtain ⟨t0, t1, t2, t3⟩ := row4 Y4.out.pq.row
            obtain ⟨r0, r1, r2, r3⟩ := row4 Y4.out.pr.row
            clear hb
            go_wp2_with fail
            refine hK.out _ _ ?_ (fun hHeld4 => ?_)
            · exact ⟨s0, s1, s2, s3, t0, t1, t2, t3, r0, r1, r2, r3⟩
            clear hK K
            refine wpAnyH_take (i := 10) (oi := { dst := some 89, op := Go.Op.binOp Go.BinOp.neq 29 (Go.Operand.tmp 86) (Go.Operand.tmp 88) 29, type := 4, pos := _, after := #[{ on := 7, ground := Go.Ground.data }, { on := 9, ground := Go.Ground.data }, { on := 5, ground := Go.Ground.guard }], guard := some (5, false) }) (v := ?_) rfl (by kernel_rfl) (by kernel_rfl) (by kernel_rfl) (fun _ _ _ h => h) (Or.inl ⟨by rfl, ?_⟩) (by assumption) ?_
            rotate_left
            · intro w hSw; (try dsimp only at hSw); go_simp <;> first | with_reducible rfl | (rw [if_neg (by first | omega | (simp only [ByteArray.size_append] at *; omega))])
            simp only [Act.put, List.setIfInBounds_toArray, List.set_cons_zero, List.set_cons_succ]
            refine wpAnyH_take (i := 11) (oi := { dst := some 90, op := Go.Op.pick (Go.Operand.tmp 84) (Go.Operand.const (Go.Value.bool true)) (Go.Operand.tmp 89), type := 4, pos := _, after := #[{ on := 5, ground := Go.Ground.data }, { on := 10, ground := Go.Ground.data }], guard := none }) (v := ?_) rfl (by kernel_rfl) (by kernel_rfl) (by kernel_rfl) (fun _ _ _ h => h) (Or.inl ⟨by rfl, ?_⟩) (by assumption) ?_
            rotate_left
            · intro w hSw; (try dsimp only at hSw); go_simp <;> first | with_reducible rfl | (rw [if_neg (by first | omega | (simp only [ByteArray.size_append] at *; omega))])
            simp only [Act.put, List.setIfInBounds_toArray, List.set_cons_zero, List.set_cons_succ]
            refine wpAnyH_take (i := 12) (oi := { dst := some 91, op := Go.Op.move (Go.Operand.tmp 90), type := 4, pos := _, after := #[{ on := 11, ground := Go.Ground.data }, { on := 9, ground := Go.Ground.chain }], guard := none }) (v := ?_) rfl (by kernel_rfl) (by kernel_rfl) (by kernel_rfl) (fun _ _ _ h => h) (Or.inl ⟨by rfl, ?_⟩) (by assumption) ?_
            rotate_left
            · intro w hSw; (try dsimp only at hSw); go_simp <;> first | with_reducible rfl | (rw [if_neg (by first | omega | (simp only [ByteArray.size_append] at *; omega))])
            simp only [Act.put, List.setIfInBounds_toArray, List.set_cons_zero, List.set_cons_succ]
            refine wpAnyH_take (i := 13) (oi := { dst := some 92, op := Go.Op.load 26 (Go.Operand.tmp 11), type := 26, pos := _, after := #[{ on := 12, ground := Go.Ground.guard }], guard := some (12, false) }) (v := ?_) rfl (by kernel_rfl) (by kernel_rfl) (by kernel_rfl) (fun _ _ _ h => h) (Or.inl ⟨by rfl, ?_⟩) (by assumption) ?_
            rotate_left
            · intro w hSw; (try dsimp only at hSw); go_simp <;> first | with_reducible rfl | (rw [if_neg (by first | omega | (simp only [ByteArray.size_append] at *; omega))])
            simp only [Act.put, List.setIfInBounds_toArray, List.set_cons_zero, List.set_cons_succ]
            refine wpAnyH_ready (rs := [14]) (by kernel_rfl) (by simp) ?_
            refine AllReadyH.cons (o := { dst := some 93, op := Go.Op.call { callee := Go.Callee.value (Go.Operand.func 12), args := #[Go.Operand.tmp 92], argTypes := #[26] }, type := 29, pos := _, after := #[{ on := 13, ground := Go.Ground.data }, { on := 12, ground := Go.Ground.chain }, { on := 12, ground := Go.Ground.guard }], guard := some (12, false) }) rfl (fun K hK => ?_) AllReadyH.nil
            go_simp
            refine (F.out.2.2.2.2 _ _ _ _ Y4.out.pr.P Y4.out.p0.R Y4.out.p0.J).mono ?_
            rintro e x5 ⟨rfl, hb⟩
            have Y5 := hid (Y4.out.keep hb)
            clear s0 s1 s2 s3 t0 t1 t2 t3 r0 r1 r2 r3
            obtain ⟨s0, s1, s2, s3⟩ := row4 Y5.out.p0.row
            obtain ⟨t0, t1, t2, t3⟩ := row4 Y5.out.pq.row
            obtain ⟨r0, r1, r2, r3⟩ := row4 Y5.out.pr.row
            clear hb
            go_wp2_with fail
            refine hK.out _ _ ?_ (fun hHeld5 => ?_)
            · exact ⟨s0, s1, s2, s3, t0, t1, t2, t3, r0, r1, r2, r3⟩
            clear hK K
            refine wpAnyH_take (i := 15) (oi := { dst := some 94, op := Go.Op.binOp Go.BinOp.neq 29 (Go.Operand.tmp 93) (Go.Operand.const (Go.Value.int Go.IntKind.i64 8)) 29, type := 4, pos := _, after := #[{ on := 14, ground := Go.Ground.data }, { on := 12, ground := Go.Ground.guard }], guard := some (12, false) }) (v := ?_) rfl (by kernel_rfl) (by kernel_rfl) (by kernel_rfl) (fun _ _ _ h => h) (Or.inl ⟨by rfl, ?_⟩) (by assumption) ?_
            rotate_left
            · intro w hSw; (try dsimp only at hSw); go_simp <;> first | with_reducible rfl | (rw [if_neg (by first | omega | (simp only [ByteArray.size_append] at *; omega))])
            simp only [Act.put, List.setIfInBounds_toArray, List.set_cons_zero, List.set_cons_succ]
            refine wpAnyH_take (i := 16) (oi := { dst := some 95, op := Go.Op.pick (Go.Operand.tmp 91) (Go.Operand.const (Go.Value.bool true)) (Go.Operand.tmp 94), type := 4, pos := _, after := #[{ on := 12, ground := Go.Ground.data }, { on := 15, ground := Go.Ground.data }], guard := none }) (v := ?_) rfl (by kernel_rfl) (by kernel_rfl) (by kernel_rfl) (fun _ _ _ h => h) (Or.inl ⟨by rfl, ?_⟩) (by assumption) ?_
            rotate_left
            · intro w hSw; (try dsimp only at hSw); go_simp <;> first | with_reducible rfl | (rw [if_neg (by first | omega | (simp only [ByteArray.size_append] at *; omega))])
            simp only [Act.put, List.setIfInBounds_toArray, List.set_cons_zero, List.set_cons_succ]
            refine wpAnyH_done (by kernel_rfl) ?_ _
            clear s0 s1 s2 s3 t0 t1 t2 t3 r0 r1 r2 r3 Y0 Y1 Y2 Y3 Y4 Y7
            have hfr := HFR.out
            by_cases h0 : l.length = 0
            · rw [if_pos h0] at hfr
              subst hfr
              have hd1 : decide (0 < l.length) = false := by simp [h0]
              have hd2 : ((l.length : Int) == 0) = true := by simp [h0]
              have hd3 : (l.length == 0) = true := by simp [h0]
              clear h0
              have b8 := (Below.refl x5.heap.size x5).alloc (Nat.le_refl _) (.cells #[.string ⟨#[90, 109, 111, 114, 101, 95]⟩] 9)
              have T8 := hid (Y5.out.tm.keep b8)
              have U8 : Hid (TxAt (x5.alloc (.cells #[.string ⟨#[90, 109, 111, 114, 101, 95]⟩] 9)) (.slice (some ⟨x5.heap.size, 0, none⟩) 1 1) [zmB]) := hid (tx1 (push_new _ _ _ rfl))
              have B8 := hid (bstep Y5.out.p0.below b8)
              clear b8 Y5
              go_wp2_with (fail)
              refine (same_texts [zmB] _ _ _ T8.out U8.out (by decide)).mono ?_
              rintro e x9 ⟨rfl, hb⟩
              have HB := hid (bstep B8.out hb)
              clear hb
              go_wp2_with (fail)
              go_ret
              exact ⟨rfl, HB.out⟩
            · rw [if_neg h0] at hfr
              subst hfr
              have hd1 : decide (0 < m.length) = true := by simp; omega
              clear h0
              go_wp2_with (fail)
              refine (same_texts m _ _ _ Y5.out.tm Y5.out.tl HLL.out).mono ?_
              rintro e x9 ⟨rfl, hb⟩
              have HB := hid (bstep Y5.out.p0.below hb)
              clear hb
              go_wp2_with (fail)
              go_ret
              exact ⟨rfl, HB.out⟩
          · have h0' : (0 : Int) < (p.flows.length : Int) := by omega
            have h0'' : decide (0 < p.flows.length) = true := by simp; omega
            obtain ⟨i, hi9⟩ : ∃ i, n % p.flows.length = i := ⟨_, rfl⟩
            have hil : i < p.flows.length := by rw [← hi9]; exact Nat.mod_lt _ (by omega)
            have hrem : Int.tmod (n : Int) (p.flows.length : Int) = (i : Int) := by rw [Int.tmod_eq_emod_of_nonneg (by omega), ← hi9]; rfl
            have hrem' : (n : Int) % (p.flows.length : Int) = (i : Int) := by rw [← hi9]; rfl
            have hwn : IntKind.i64.wrap (n : Int) = (n : Int) := by rw [IntKind.wrap_i64]; omega
            have hne0 : ¬ (p.flows.length : Int) = 0 := by omega
            have hil' : (i : Int) < (p.flows.length : Int) := by omega
            have hi0' : (0 : Int) ≤ (i : Int) := by omega
            have HM := hid (And.intro (more_one HZ.out hl HN.out i hil) (And.intro (more_self HZ.out hl HN.out) trivial))
            have HNM := hid (HPN.out _ (List.getElem_mem hil))
            obtain ⟨bb0, bb1, _, eb, _, _, _, hfc, _⟩ := id X5.out.P.flows
            injection eb with eb1 _ eb2
            subst eb1 eb2
            obtain ⟨fb, fo, rfl, hcc⟩ := hfc.resolve_left (by omega)
            have y1 := (hcc i hil).1
            have HFB : Hid (fb < w5.heap.size) := hid (World.block_lt_of_cell? _ _ y1)
            have z1 := cell_kept y1 b6
            clear hfc hcc y1 hi9
            generalize p.flows[i].name = nm at *
            have KD : Hid (_ = _) := hid (keep_row KX.out (Below.refl _ _).drew)
            have HNE : Hid (∀ b, b < w5.heap.size → ((w5.alloc (.cells #[.int .u8 1, .int .i64 0, .string ⟨#[]⟩, .slice none 0 0] 49)).drew.setRow w5.heap.size #[.int .u8 3, .int .i64 0, .string nm, .slice none 0 0]).heap[b]? = (w5.alloc (.cells #[.int .u8 1, .int .i64 0, .string ⟨#[]⟩, .slice none 0 0] 49)).heap[b]?) := hid (fun b hb => (setRow_other _ _ _ _ (by omega)).trans rfl)
            have hw5 : w.heap.size < w5.heap.size := (Array.getElem?_eq_some_iff.1 X5.out.row).1
            go_wp2_with (fail)
            refine wp_region_held_drew (S := fun W => W.cell? ⟨w.heap.size, 0, none⟩ = some (.int .i64 p.st) ∧ W.cell? ⟨w.heap.size, 1, none⟩ = some ((.slice a0 p.ins.length a1)) ∧ W.cell? ⟨w.heap.size, 2, none⟩ = some ((.slice (some ⟨fb, fo, none⟩) p.flows.length b1)) ∧ W.cell? ⟨w.heap.size, 3, none⟩ = some ((.slice c0 p.outs.length c1)) ∧ W.cell? ⟨fb, fo + i * 8, none⟩ = some (.string nm)) (by kernel_rfl) ?_ (fun hHeld => ?_)
            · exact ⟨s0, s1, s2, s3, z1⟩
            refine wpAnyH_take (i := 0) (oi := { dst := some 45, op := Go.Op.fieldAddr 26 (Go.Operand.tmp 2) 2, type := 0, pos := _, after := #[], guard := none }) (v := ?_) rfl (by kernel_rfl) (by kernel_rfl) (by kernel_rfl) (fun _ _ _ h => h) (Or.inl ⟨by rfl, ?_⟩) (by assumption) ?_
            rotate_left
            · intro w hSw; (try dsimp only at hSw); go_simp <;> with_reducible rfl
            simp only [Act.put, List.setIfInBounds_toArray, List.set_cons_zero, List.set_cons_succ]
            refine wpAnyH_take (i := 1) (oi := { dst := some 46, op := Go.Op.load 23 (Go.Operand.tmp 45), type := 23, pos := _, after := #[{ on := 0, ground := Go.Ground.data }], guard := none }) (v := ?_) rfl (by kernel_rfl) (by kernel_rfl) (by kernel_rfl) (fun _ _ _ h => h) (Or.inl ⟨by rfl, ?_⟩) (by assumption) ?_
            rotate_left
            · intro w hSw; (try dsimp only at hSw); go_simp <;> with_reducible rfl
            simp only [Act.put, List.setIfInBounds_toArray, List.set_cons_zero, List.set_cons_succ]
            refine wpAnyH_take (i := 2) (oi := { dst := some 47, op := Go.Op.move (Go.Operand.tmp 1), type := 5, pos := _, after := #[], guard := none }) (v := ?_) rfl (by kernel_rfl) (by kernel_rfl) (by kernel_rfl) (fun _ _ _ h => h) (Or.inl ⟨by rfl, ?_⟩) (by assumption) ?_
            rotate_left
            · intro w hSw; (try dsimp only at hSw); go_simp <;> with_reducible rfl
            simp only [Act.put, List.setIfInBounds_toArray, List.set_cons_zero, List.set_cons_succ]
            refine wpAnyH_take (i := 3) (oi := { dst := some 48, op := Go.Op.convert 5 3 (Go.Operand.tmp 47), type := 3, pos := _, after := #[{ on := 2, ground := Go.Ground.data }], guard := none }) (v := ?_) rfl (by kernel_rfl) (by kernel_rfl) (by kernel_rfl) (fun _ _ _ h => h) (Or.inl ⟨by rfl, ?_⟩) (by assumption) ?_
            rotate_left
            · intro w hSw; (try dsimp only at hSw); go_simp <;> with_reducible rfl
            simp only [Act.put, List.setIfInBounds_toArray, List.set_cons_zero, List.set_cons_succ]
            refine wpAnyH_take (i := 4) (oi := { dst := some 49, op := Go.Op.fieldAddr 26 (Go.Operand.tmp 2) 2, type := 0, pos := _, after := #[], guard := none }) (v := ?_) rfl (by kernel_rfl) (by kernel_rfl) (by kernel_rfl) (fun _ _ _ h => h) (Or.inl ⟨by rfl, ?_⟩) (by assumption) ?_
            rotate_left
            · intro w hSw; (try dsimp only at hSw); go_simp <;> with_reducible rfl
            simp only [Act.put, List.setIfInBounds_toArray, List.set_cons_zero, List.set_cons_succ]
            refine wpAnyH_take (i := 5) (oi := { dst := some 50, op := Go.Op.load 23 (Go.Operand.tmp 49), type := 23, pos := _, after := #[{ on := 4, ground := Go.Ground.data }], guard := none }) (v := ?_) rfl (by kernel_rfl) (by kernel_rfl) (by kernel_rfl) (fun _ _ _ h => h) (Or.inl ⟨by rfl, ?_⟩) (by assumption) ?_
            rotate_left
            · intro w hSw; (try dsimp only at hSw); go_simp <;> with_reducible rfl
            simp only [Act.put, List.setIfInBounds_toArray, List.set_cons_zero, List.set_cons_succ]
            refine wpAnyH_take (i := 6) (oi := { dst := some 51, op := Go.Op.call { callee := Go.Callee.builtin Go.Builtin.len, args := #[Go.Operand.tmp 50], argTypes := #[23] }, type := 3, pos := _, after := #[{ on := 5, ground := Go.Ground.data }], guard := none }) (v := ?_) rfl (by kernel_rfl) (by kernel_rfl) (by kernel_rfl) (fun _ _ _ h => h) (Or.inl ⟨by rfl, ?_⟩) (by assumption) ?_
            rotate_left
            · intro w hSw; (try dsimp only at hSw); go_simp <;> with_reducible rfl
            simp only [Act.put, List.setIfInBounds_toArray, List.set_cons_zero, List.set_cons_succ]
            refine wpAnyH_take (i := 7) (oi := { dst := some 52, op := Go.Op.binOp Go.BinOp.rem 3 (Go.Operand.tmp 48) (Go.Operand.tmp 51) 3, type := 3, pos := _, after := #[{ on := 3, ground := Go.Ground.data }, { on := 6, ground := Go.Ground.data }], guard := none }) (v := ?_) rfl (by kernel_rfl) (by kernel_rfl) (by kernel_rfl) (fun _ _ _ h => h) (Or.inl ⟨by rfl, ?_⟩) (by assumption) ?_
            rotate_left
            · intro w hSw; (try dsimp only at hSw); go_simp <;> with_reducible rfl
            simp only [Act.put, List.setIfInBounds_toArray, List.set_cons_zero, List.set_cons_succ]
            refine wpAnyH_take (i := 8) (oi := { dst := some 53, op := Go.Op.indexAddr 23 (Go.Operand.tmp 46) (Go.Operand.tmp 52), type := 0, pos := _, after := #[{ on := 1, ground := Go.Ground.data }, { on := 7, ground := Go.Ground.data }], guard := none }) (v := ?_) rfl (by kernel_rfl) (by kernel_rfl) (by kernel_rfl) (fun _ _ _ h => h) (Or.inl ⟨by rfl, ?_⟩) (by assumption) ?_
            rotate_left
            · intro w hSw; (try dsimp only at hSw); go_simp <;> with_reducible rfl
            simp only [Act.put, List.setIfInBounds_toArray, List.set_cons_zero, List.set_cons_succ]
            refine wpAnyH_take (i := 9) (oi := { dst := some 54, op := Go.Op.fieldAddr 51 (Go.Operand.tmp 53) 0, type := 0, pos := _, after := #[{ on := 8, ground := Go.Ground.data }], guard := none }) (v := ?_) rfl (by kernel_rfl) (by kernel_rfl) (by kernel_rfl) (fun _ _ _ h => h) (Or.inl ⟨by rfl, ?_⟩) (by assumption) ?_
            rotate_left
            · intro w hSw; (try dsimp only at hSw); go_simp <;> with_reducible rfl
            simp only [Act.put, List.setIfInBounds_toArray, List.set_cons_zero, List.set_cons_succ]
            refine wpAnyH_take (i := 10) (oi := { dst := some 55, op := Go.Op.load 9 (Go.Operand.tmp 54), type := 9, pos := _, after := #[{ on := 9, ground := Go.Ground.data }], guard := none }) (v := ?_) rfl (by kernel_rfl) (by kernel_rfl) (by kernel_rfl) (fun _ _ _ h => h) (Or.inl ⟨by rfl, ?_⟩) (by assumption) ?_
            rotate_left
            · intro w hSw; (try dsimp only at hSw); go_simp <;> with_reducible rfl
            simp only [Act.put, List.setIfInBounds_toArray, List.set_cons_zero, List.set_cons_succ]
            refine wpAnyH_take (i := 11) (oi := { dst := some 56, op := Go.Op.build 49 #[(0, Go.Operand.const (Go.Value.int Go.IntKind.u8 3)), (2, Go.Operand.tmp 55)], type := 49, pos := _, after := #[{ on := 10, ground := Go.Ground.data }], guard := none }) (v := ?_) rfl (by kernel_rfl) (by kernel_rfl) (by kernel_rfl) (fun _ _ _ h => h) (Or.inl ⟨by rfl, ?_⟩) (by assumption) ?_
            rotate_left
            · intro w hSw; (try dsimp only at hSw); go_simp <;> with_reducible rfl
            simp only [Act.put, List.setIfInBounds_toArray, List.set_cons_zero, List.set_cons_succ]
            refine wpAnyH_ready (rs := [12]) (by kernel_rfl) (by simp) ?_
            refine AllReadyH.cons (o := { dst := none, op := Go.Op.store 49 (Go.Operand.tmp 9) (Go.Operand.tmp 56), type := 0, pos := _, after := #[{ on := 11, ground := Go.Ground.data }, { on := 0, ground := Go.Ground.phase }, { on := 1, ground := Go.Ground.phase }, { on := 2, ground := Go.Ground.phase }, { on := 3, ground := Go.Ground.phase }, { on := 4, ground := Go.Ground.phase }, { on := 5, ground := Go.Ground.phase }, { on := 6, ground := Go.Ground.phase }, { on := 7, ground := Go.Ground.phase }, { on := 8, ground := Go.Ground.phase }, { on := 9, ground := Go.Ground.phase }, { on := 10, ground := Go.Ground.phase }, { on := 11, ground := Go.Ground.phase }], guard := none }) rfl (fun K hK => ?_) AllReadyH.nil
            refine if_take (by rfl) ?_
            refine wp_store_row 49 _ _ rfl w5.heap.size #[.int .u8 3, .int .i64 0, .string nm, .slice none 0 0] rfl rfl 49 _ KD.out info25 rfl (by simp [Value.oneCell']) ?_
            refine hK.out _ _ ?_ (fun _ => ?_)
            · exact ⟨cell_eq (HNE.out _ (by omega)) s0, cell_eq (HNE.out _ (by omega)) s1, cell_eq (HNE.out _ (by omega)) s2, cell_eq (HNE.out _ (by omega)) s3, cell_eq (HNE.out _ HFB.out) z1⟩
            clear hK K
            refine wpAnyH_done (by kernel_rfl) ?_ _
            have XS : Hid (FV w p (.slice a0 p.ins.length a1) (.slice (some ⟨fb, fo, none⟩) p.flows.length b1) (.slice c0 p.outs.length c1) ((w5.alloc (.cells #[.int .u8 1, .int .i64 0, .string ⟨#[]⟩, .slice none 0 0] 49)).drew.setRow w5.heap.size #[.int .u8 3, .int .i64 0, .string nm, .slice none 0 0])) := hid (X5.out.keep (below_row (((Below.refl w5.heap.size w5).alloc (Nat.le_refl _) (.cells #[.int .u8 1, .int .i64 0, .string ⟨#[]⟩, .slice none 0 0] 49)).drew) (by simp) (Nat.le_refl _) _))
            have KS := hid (setRow_heap _ _ _ #[.int .u8 3, .int .i64 0, .string nm, .slice none 0 0] _ _ KD.out)
            generalize ((w5.alloc (.cells #[.int .u8 1, .int .i64 0, .string ⟨#[]⟩, .slice none 0 0] 49)).drew.setRow w5.heap.size #[.int .u8 3, .int .i64 0, .string nm, .slice none 0 0]) = wx at *
            clear s0 s1 s2 s3 z1 b6 X5 XX KX KD HNE HFB h0 h0' h0'' hrem hrem' hHeld
            have XX := XS
            have KX := KS
            clear XS KS
            obtain ⟨s0, s1, s2, s3⟩ := row4 XX.out.row
            go_wp2_with (fail)
            refine (twin_prog p _ _ _ _ XX.out.P).mono ?_
            rintro e v4 ⟨ta, tb, tc, rfl, hT, hb⟩
            obtain ⟨i4, j4, rfl, _⟩ := id hT.ins
            obtain ⟨o4, q4, rfl, _⟩ := id hT.outs
            obtain ⟨ps4, f4, g4, rfl, hps, hown0, htw⟩ := hT.flows.own
            have HB9 := hid hb
            have HF9 := hid (own_lo9 hown0 f4 rfl)
            have HTT := hid (And.intro hT (And.intro hps htw))
            have B9 := bstep ((Below.refl v4.heap.size v4).alloc (Nat.le_refl _) (.cells #[.int .i64 p.st, .slice (some ⟨i4, 0, none⟩) p.ins.length j4, .slice (some ⟨f4, 0, none⟩) p.flows.length g4, .slice (some ⟨o4, 0, none⟩) p.outs.length q4] 26)) ((Below.refl _ _).alloc (Nat.le_refl _) (.cells #[.string ⟨#[90, 109, 111, 114, 101, 95]⟩, .int .u8 1, .int .i64 1, .int .i64 0, .int .u8 3, .int .i64 0, .string nm, .slice none 0 0] 51))
            have OW := hid (own_carry9 hown0 (fun b _ hl => B9.block b hl))
            have nc := next_cells (v4.alloc (.cells #[.int .i64 p.st, .slice (some ⟨i4, 0, none⟩) p.ins.length j4, .slice (some ⟨f4, 0, none⟩) p.flows.length g4, .slice (some ⟨o4, 0, none⟩) p.outs.length q4] 26)) [.string ⟨#[90, 109, 111, 114, 101, 95]⟩, .int .u8 1, .int .i64 1, .int .i64 0, .int .u8 3, .int .i64 0, .string nm, .slice none 0 0] 51
            rw [World.size_alloc] at nc
            have NC := hid nc
            have HSZ : Hid (wx.heap.size ≤ ((v4.alloc (.cells #[.int .i64 p.st, .slice (some ⟨i4, 0, none⟩) p.ins.length j4, .slice (some ⟨f4, 0, none⟩) p.flows.length g4, .slice (some ⟨o4, 0, none⟩) p.outs.length q4] 26)).alloc (.cells #[.string ⟨#[90, 109, 111, 114, 101, 95]⟩, .int .u8 1, .int .i64 1, .int .i64 0, .int .u8 3, .int .i64 0, .string nm, .slice none 0 0] 51)).heap.size) := hid (Nat.le_trans hb.size (by simp; omega))
            obtain ⟨x0, x1, x2, x3⟩ := row4e (keep_row (keep_row KX.out hb) ((Below.refl v4.heap.size v4).alloc (Nat.le_refl _) (.cells #[.int .i64 p.st, .slice (some ⟨i4, 0, none⟩) p.ins.length j4, .slice (some ⟨f4, 0, none⟩) p.flows.length g4, .slice (some ⟨o4, 0, none⟩) p.outs.length q4] 26)))
            obtain ⟨m0, m1, m2, m3⟩ := row4 (show (v4.alloc (.cells #[.int .i64 p.st, .slice (some ⟨i4, 0, none⟩) p.ins.length j4, .slice (some ⟨f4, 0, none⟩) p.flows.length g4, .slice (some ⟨o4, 0, none⟩) p.outs.length q4] 26)).heap[v4.heap.size]? = some (.cells #[.int .i64 p.st, .slice (some ⟨i4, 0, none⟩) p.ins.length j4, .slice (some ⟨f4, 0, none⟩) p.flows.length g4, .slice (some ⟨o4, 0, none⟩) p.outs.length q4] 26 (0, 0)) from heap_alloc_new _ _)
            clear hT hps hown0 htw hb nc B9
            (try clear s0 s1 s2 s3)
            go_wp2_with (at_builtin; refine wpList_append_own_at _ rfl (.tmp 60) (.tmp 63) 23 rfl wx.heap.size 51 i51 _ 8 96 Tryd.underlying23 hi hz0 hz1 hz2 rfl (by decide) _ _ _ rfl OW.out ⟨v4.heap.size + 1, 0, none⟩ 1 1 [.string ⟨#[90, 109, 111, 114, 101, 95]⟩, .int .u8 1, .int .i64 1, .int .i64 0, .int .u8 3, .int .i64 0, .string nm, .slice none 0 0] rfl rfl NC.out (by simp [Value.oneCell']) (by unfold maxLen; omega) (by omega) HSZ.out ?_; intro y w' hown hg _ _; obtain ⟨ya4, yn4, yc4, rfl⟩ := own_shape hown; obtain ⟨d0, d1, hr, hpg, hbb⟩ := mor_done (x := ⟨3, 0, nm, []⟩) HTT.out.1 HTT.out.2.1 HTT.out.2.2 HF9.out.2 hown hg (fun V => st_leaf V 3 nm (by decide) HNM.out) hl1000; have QN := hid (QB.mk hr hpg); have BN := hid (hbb _ HB9.out.size HF9.out.1 _ HB9.out); have XN := hid (XX.out.keep BN.out); obtain ⟨e0, e1, e2, e3⟩ := row4 XN.out.row; clear hown hg hr hpg hbb)
            (try clear x0 x1 x2 x3)
            clear m0 m1 m2 m3 d0 d1 e0 e1 e2 e3 HTT OW NC HSZ HF9 HB9
            have X4 := XN
            clear XN
            generalize w'.setCell ⟨v4.heap.size, 2, none⟩ (.slice ya4 yn4 yc4) = w4 at *
            generalize v4.heap.size = kq at *
            have Q4 := QN
            clear QN BN XX
            refine (twin_prog p _ _ _ _ X4.out.P).mono ?_
            rintro e v5 ⟨ta, tb, tc, rfl, hT, hb⟩
            obtain ⟨i5, j5, rfl, _⟩ := id hT.ins
            obtain ⟨o5, q5, rfl, _⟩ := id hT.outs
            obtain ⟨ps5, f5, g5, rfl, hps, hown0, htw⟩ := hT.flows.own
            have HB9 := hid hb
            have HF9 := hid (own_lo9 hown0 f5 rfl)
            have HTT := hid (And.intro hT (And.intro hps htw))
            have B9 := bstep ((Below.refl v5.heap.size v5).alloc (Nat.le_refl _) (.cells #[.int .i64 p.st, .slice (some ⟨i5, 0, none⟩) p.ins.length j5, .slice (some ⟨f5, 0, none⟩) p.flows.length g5, .slice (some ⟨o5, 0, none⟩) p.outs.length q5] 26)) ((Below.refl _ _).alloc (Nat.le_refl _) (.cells #[.string ⟨#[90, 109, 111, 114, 101, 95]⟩, .int .u8 1, .int .i64 1, .int .i64 0, .int .u8 3, .int .i64 0, .string ⟨#[90, 109, 111, 114, 101, 95]⟩, .slice none 0 0] 51))
            have OW := hid (own_carry9 hown0 (fun b _ hl => B9.block b hl))
            have nc := next_cells (v5.alloc (.cells #[.int .i64 p.st, .slice (some ⟨i5, 0, none⟩) p.ins.length j5, .slice (some ⟨f5, 0, none⟩) p.flows.length g5, .slice (some ⟨o5, 0, none⟩) p.outs.length q5] 26)) [.string ⟨#[90, 109, 111, 114, 101, 95]⟩, .int .u8 1, .int .i64 1, .int .i64 0, .int .u8 3, .int .i64 0, .string ⟨#[90, 109, 111, 114, 101, 95]⟩, .slice none 0 0] 51
            rw [World.size_alloc] at nc
            have NC := hid nc
            have HSZ : Hid (w4.heap.size ≤ ((v5.alloc (.cells #[.int .i64 p.st, .slice (some ⟨i5, 0, none⟩) p.ins.length j5, .slice (some ⟨f5, 0, none⟩) p.flows.length g5, .slice (some ⟨o5, 0, none⟩) p.outs.length q5] 26)).alloc (.cells #[.string ⟨#[90, 109, 111, 114, 101, 95]⟩, .int .u8 1, .int .i64 1, .int .i64 0, .int .u8 3, .int .i64 0, .string ⟨#[90, 109, 111, 114, 101, 95]⟩, .slice none 0 0] 51)).heap.size) := hid (Nat.le_trans hb.size (by simp; omega))
            obtain ⟨m0, m1, m2, m3⟩ := row4 (show (v5.alloc (.cells #[.int .i64 p.st, .slice (some ⟨i5, 0, none⟩) p.ins.length j5, .slice (some ⟨f5, 0, none⟩) p.flows.length g5, .slice (some ⟨o5, 0, none⟩) p.outs.length q5] 26)).heap[v5.heap.size]? = some (.cells #[.int .i64 p.st, .slice (some ⟨i5, 0, none⟩) p.ins.length j5, .slice (some ⟨f5, 0, none⟩) p.flows.length g5, .slice (some ⟨o5, 0, none⟩) p.outs.length q5] 26 (0, 0)) from heap_alloc_new _ _)
            clear hT hps hown0 htw hb nc B9
            (try clear s0 s1 s2 s3)
            go_wp2_with (at_builtin; refine wpList_append_own_at _ rfl (.tmp 69) (.tmp 72) 23 rfl w4.heap.size 51 i51 _ 8 96 Tryd.underlying23 hi hz0 hz1 hz2 rfl (by decide) _ _ _ rfl OW.out ⟨v5.heap.size + 1, 0, none⟩ 1 1 [.string ⟨#[90, 109, 111, 114, 101, 95]⟩, .int .u8 1, .int .i64 1, .int .i64 0, .int .u8 3, .int .i64 0, .string ⟨#[90, 109, 111, 114, 101, 95]⟩, .slice none 0 0] rfl rfl NC.out (by simp [Value.oneCell']) (by unfold maxLen; omega) (by omega) HSZ.out ?_; intro y w' hown hg _ _; obtain ⟨ya5, yn5, yc5, rfl⟩ := own_shape hown; obtain ⟨d0, d1, hr, hpg, hbb⟩ := mor_done (x := ⟨3, 0, zmB, []⟩) HTT.out.1 HTT.out.2.1 HTT.out.2.2 HF9.out.2 hown hg (fun V => st_leaf V 3 ⟨#[90, 109, 111, 114, 101, 95]⟩ (by decide) (by decide)) hl1000; have QN := hid (QB.mk hr hpg); have BN := hid (hbb _ HB9.out.size HF9.out.1 _ HB9.out); have XN := hid (X4.out.keep BN.out); obtain ⟨e0, e1, e2, e3⟩ := row4 XN.out.row; clear hown hg hr hpg hbb)
            (try clear x0 x1 x2 x3)
            clear m0 m1 m2 m3 d0 d1 e0 e1 e2 e3 HTT OW NC HSZ HF9 HB9
            have X5 := XN
            clear XN
            have Q5 := hid (Q4.out.keep BN.out)
            generalize w'.setCell ⟨v5.heap.size, 2, none⟩ (.slice ya5 yn5 yc5) = w5 at *
            generalize v5.heap.size = kr at *
            have R5 := QN
            clear QN BN X4 Q4
            refine (find_ok HZ.out X5.out.P).mono ?_
            rintro e w6 ⟨lv, rfl, hnl⟩
            have X6 := hid (X5.out.keep hnl.below)
            have Q6 := hid (Q5.out.keep hnl.below)
            have R6 := hid (R5.out.keep hnl.below)
            have T6 := hid hnl.tx
            obtain ⟨la, lc, rfl⟩ := hnl.shape
            clear hnl X5 Q5 R5
            obtain ⟨r0, r1, r2, r3⟩ := row4 R6.out.row
            go_wp2_with (fail)
            have c11 := find_ok HM.out.2.1.1 R6.out.P
            refine c11.mono ?_
            rintro e w7 ⟨mv, rfl, hnl⟩
            have Y7 := hid (MV.mk (X6.out.keep hnl.below) (Q6.out.keep hnl.below) (R6.out.keep hnl.below) (T6.out.keep hnl.below) hnl.tx)
            obtain ⟨ma, mc, rfl⟩ := hnl.shape
            clear hnl X6 Q6 R6 T6 c11 r0 r1 r2 r3
            have HLL : Hid ((findC p).length ≤ 1048576) := hid (by have := findC_few HZ.out; omega)
            have HSP : Hid ((pM p ⟨3, 0, nm, []⟩).st = p.st ∧ (pM p ⟨3, 0, zmB, []⟩).st = p.st) := hid ⟨rfl, rfl⟩
            have F := hid (more_all HZ.out HM.out.1 HM.out.2.1 HM.out.2.2)
            have HFR := hid HM.out.2.1.2
            generalize pM p ⟨3, 0, nm, []⟩ = q at *
            generalize pM p ⟨3, 0, zmB, []⟩ = r at *
            generalize findC p = l at *
            generalize findC r = m at *
            have FX := F
            clear F
            have F := hid (MF.use FX.out HSP.out.1 HSP.out.2)
            clear FX HM HZ
            have Y0 := hid (Y7.out.keep (Below.refl _ _).drew)
            obtain ⟨s0, s1, s2, s3⟩ := row4 Y7.out.p0.row
            obtain ⟨t0, t1, t2, t3⟩ := row4 Y7.out.pq.row
            obtain ⟨r0, r1, r2, r3⟩ := row4 Y7.out.pr.row
            go_wp2_with (fail)
            clear s0 s1 s2 s3 t0 t1 t2 t3 r0 r1 r2 r3
            obtain ⟨s0, s1, s2, s3⟩ := row4 Y0.out.p0.row
            obtain ⟨t0, t1, t2, t3⟩ := row4 Y0.out.pq.row
            obtain ⟨r0, r1, r2, r3⟩ := row4 Y0.out.pr.row
            refine wp_region_held_drew (S := fun W => W.cell? ⟨w.heap.size, 0, none⟩ = some (.int .i64 p.st) ∧ W.cell? ⟨w.heap.size, 1, none⟩ = some ((.slice a0 p.ins.length a1)) ∧ W.cell? ⟨w.heap.size, 2, none⟩ = some ((.slice (some ⟨fb, fo, none⟩) p.flows.length b1)) ∧ W.cell? ⟨w.heap.size, 3, none⟩ = some ((.slice c0 p.outs.length c1)) ∧ W.cell? ⟨kq, 0, none⟩ = some (.int .i64 p.st) ∧ W.cell? ⟨kq, 1, none⟩ = some (.slice (some ⟨i4, 0, none⟩) p.ins.length j4) ∧ W.cell? ⟨kq, 2, none⟩ = some (.slice ya4 yn4 yc4) ∧ W.cell? ⟨kq, 3, none⟩ = some (.slice (some ⟨o4, 0, none⟩) p.outs.length q4) ∧ W.cell? ⟨kr, 0, none⟩ = some (.int .i64 p.st) ∧ W.cell? ⟨kr, 1, none⟩ = some (.slice (some ⟨i5, 0, none⟩) p.ins.length j5) ∧ W.cell? ⟨kr, 2, none⟩ = some (.slice ya5 yn5 yc5) ∧ W.cell? ⟨kr, 3, none⟩ = some (.slice (some ⟨o5, 0, none⟩) p.outs.length q5)) (by kernel_rfl) ?_ (fun hHeld => ?_)
            · exact ⟨s0, s1, s2, s3, t0, t1, t2, t3, r0, r1, r2, r3⟩
            refine wpAnyH_take (i := 0) (oi := { dst := some 79, op := Go.Op.load 26 (Go.Operand.tmp 10), type := 26, pos := _, after := #[], guard := none }) (v := ?_) rfl (by kernel_rfl) (by kernel_rfl) (by kernel_rfl) (fun _ _ _ h => h) (Or.inl ⟨by rfl, ?_⟩) (by assumption) ?_
            rotate_left
            · intro w hSw; (try dsimp only at hSw); go_simp <;> first | with_reducible rfl | (rw [if_neg (by first | omega | (simp only [ByteArray.size_append] at *; omega))])
            simp only [Act.put, List.setIfInBounds_toArray, List.set_cons_zero, List.set_cons_succ]
            refine wpAnyH_take (i := 2) (oi := { dst := some 81, op := Go.Op.move (Go.Operand.tmp 12), type := 24, pos := _, after := #[], guard := none }) (v := ?_) rfl (by kernel_rfl) (by kernel_rfl) (by kernel_rfl) (fun _ _ _ h => h) (Or.inl ⟨by rfl, ?_⟩) (by assumption) ?_
            rotate_left
            · intro w hSw; (try dsimp only at hSw); go_simp <;> first | with_reducible rfl | (rw [if_neg (by first | omega | (simp only [ByteArray.size_append] at *; omega))])
            simp only [Act.put, List.setIfInBounds_toArray, List.set_cons_zero, List.set_cons_succ]
            refine wpAnyH_ready (rs := [1]) (by kernel_rfl) (by simp) ?_
            refine AllReadyH.cons (o := { dst := some 80, op := Go.Op.call { callee := Go.Callee.value (Go.Operand.func 11), args := #[Go.Operand.tmp 79], argTypes := #[26] }, type := 24, pos := _, after := #[{ on := 0, ground := Go.Ground.data }], guard := none }) rfl (fun K hK => ?_) AllReadyH.nil
            go_simp
            refine (F.out.2.1 _ _ _ _ Y0.out.pq.P).mono ?_
            rintro e x1 ⟨fv, rfl, hnl⟩
            have hb := hnl.below
            have T1 := hid hnl.tx
            clear hnl
            have Y1 := hid (Y0.out.keep hb)
            clear s0 s1 s2 s3 t0 t1 t2 t3 r0 r1 r2 r3
            obtain ⟨s0, s1, s2, s3⟩ := row4 Y1.out.p0.row
            obtain ⟨t0, t1, t2, t3⟩ := row4 Y1.out.pq.row
            obtain ⟨r0, r1, r2, r3⟩ := row4 Y1.out.pr.row
            clear hb
            go_wp2_with fail
            refine hK.out _ _ ?_ (fun hHeld1 => ?_)
            · exact ⟨s0, s1, s2, s3, t0, t1, t2, t3, r0, r1, r2, r3⟩
            clear hK K
            refine wpAnyH_ready (rs := [3]) (by kernel_rfl) (by simp) ?_
            refine AllReadyH.cons (o := { dst := some 82, op := Go.Op.call { callee := Go.Callee.value (Go.Operand.func 17), args := #[Go.Operand.tmp 80, Go.Operand.tmp 81], argTypes := #[24, 24] }, type := 4, pos := _, after := #[{ on := 1, ground := Go.Ground.data }, { on := 2, ground := Go.Ground.data }, { on := 1, ground := Go.Ground.chain }], guard := none }) rfl (fun K hK => ?_) AllReadyH.nil
            go_simp
            refine (same_texts _ _ _ _ T1.out Y1.out.tl HLL.out).mono ?_
            rintro e x2 ⟨rfl, hb⟩
            have Y2 := hid (Y1.out.keep hb)
            clear s0 s1 s2 s3 t0 t1 t2 t3 r0 r1 r2 r3
            obtain ⟨s0, s1, s2, s3⟩ := row4 Y2.out.p0.row
            obtain ⟨t0, t1, t2, t3⟩ := row4 Y2.out.pq.row
            obtain ⟨r0, r1, r2, r3⟩ := row4 Y2.out.pr.row
            clear hb
            go_wp2_with fail
            refine hK.out _ _ ?_ (fun hHeld2 => ?_)
            · exact ⟨s0, s1, s2, s3, t0, t1, t2, t3, r0, r1, r2, r3⟩
            clear hK K
            refine wpAnyH_take (i := 4) (oi := { dst := some 83, op := Go.Op.unOp Go.UnOp.not 4 (Go.Operand.tmp 82), type := 4, pos := _, after := #[{ on := 3, ground := Go.Ground.data }], guard := none }) (v := ?_) rfl (by kernel_rfl) (by kernel_rfl) (by kernel_rfl) (fun _ _ _ h => h) (Or.inl ⟨by rfl, ?_⟩) (by assumption) ?_
            rotate_left
            · intro w hSw; (try dsimp only at hSw); go_simp <;> first | with_reducible rfl | (rw [if_neg (by first | omega | (simp only [ByteArray.size_append] at *; omega))])
            simp only [Act.put, List.setIfInBounds_toArray, List.set_cons_zero, List.set_cons_succ]
            refine wpAnyH_take (i := 5) (oi := { dst := some 84, op := Go.Op.move (Go.Operand.tmp 83), type := 4, pos := _, after := #[{ on := 4, ground := Go.Ground.data }, { on := 3, ground := Go.Ground.chain }], guard := none }) (v := ?_) rfl (by kernel_rfl) (by kernel_rfl) (by kernel_rfl) (fun _ _ _ h => h) (Or.inl ⟨by rfl, ?_⟩) (by assumption) ?_
            rotate_left
            · intro w hSw; (try dsimp only at hSw); go_simp <;> first | with_reducible rfl | (rw [if_neg (by first | omega | (simp only [ByteArray.size_append] at *; omega))])
            simp only [Act.put, List.setIfInBounds_toArray, List.set_cons_zero, List.set_cons_succ]
            refine wpAnyH_take (i := 6) (oi := { dst := some 85, op := Go.Op.load 26 (Go.Operand.tmp 10), type := 26, pos := _, after := #[{ on := 5, ground := Go.Ground.guard }], guard := some (5, false) }) (v := ?_) rfl (by kernel_rfl) (by kernel_rfl) (by kernel_rfl) (fun _ _ _ h => h) (Or.inl ⟨by rfl, ?_⟩) (by assumption) ?_
            rotate_left
            · intro w hSw; (try dsimp only at hSw); go_simp <;> first | with_reducible rfl | (rw [if_neg (by first | omega | (simp only [ByteArray.size_append] at *; omega))])
            simp only [Act.put, List.setIfInBounds_toArray, List.set_cons_zero, List.set_cons_succ]
            refine wpAnyH_take (i := 8) (oi := { dst := some 87, op := Go.Op.load 26 (Go.Operand.tmp 2), type := 26, pos := _, after := #[{ on := 5, ground := Go.Ground.guard }], guard := some (5, false) }) (v := ?_) rfl (by kernel_rfl) (by kernel_rfl) (by kernel_rfl) (fun _ _ _ h => h) (Or.inl ⟨by rfl, ?_⟩) (by assumption) ?_
            rotate_left
            · intro w hSw; (try dsimp only at hSw); go_simp <;> first | with_reducible rfl | (rw [if_neg (by first | omega | (simp only [ByteArray.size_append] at *; omega))])
            simp only [Act.put, List.setIfInBounds_toArray, List.set_cons_zero, List.set_cons_succ]
            refine wpAnyH_ready (rs := [7]) (by kernel_rfl) (by simp) ?_
            refine AllReadyH.cons (o := { dst := some 86, op := Go.Op.call { callee := Go.Callee.value (Go.Operand.func 12), args := #[Go.Operand.tmp 85], argTypes := #[26] }, type := 29, pos := _, after := #[{ on := 6, ground := Go.Ground.data }, { on := 5, ground := Go.Ground.chain }, { on := 5, ground := Go.Ground.guard }], guard := some (5, false) }) rfl (fun K hK => ?_) AllReadyH.nil
            go_simp
            refine (F.out.2.2.2.1 _ _ _ _ Y2.out.pq.P Y2.out.p0.R Y2.out.p0.J).mono ?_
            rintro e x3 ⟨rfl, hb⟩
            have Y3 := hid (Y2.out.keep hb)
            clear s0 s1 s2 s3 t0 t1 t2 t3 r0 r1 r2 r3
            obtain ⟨s0, s1, s2, s3⟩ := row4 Y3.out.p0.row
            obtain ⟨t0, t1, t2, t3⟩ := row4 Y3.out.pq.row
            obtain ⟨r0, r1, r2, r3⟩ := row4 Y3.out.pr.row
            clear hb
            go_wp2_with fail
            refine hK.out _ _ ?_ (fun hHeld3 => ?_)
            · exact ⟨s0, s1, s2, s3, t0, t1, t2, t3, r0, r1, r2, r3⟩
            clear hK K
            refine wpAnyH_ready (rs := [9]) (by kernel_rfl) (by simp) ?_
            refine AllReadyH.cons (o := { dst := some 88, op := Go.Op.call { callee := Go.Callee.value (Go.Operand.func 12), args := #[Go.Operand.tmp 87], argTypes := #[26] }, type := 29, pos := _, after := #[{ on := 8, ground := Go.Ground.data }, { on := 7, ground := Go.Ground.chain }, { on := 5, ground := Go.Ground.guard }], guard := some (5, false) }) rfl (fun K hK => ?_) AllReadyH.nil
            go_simp
            refine (F.out.1 _ _ _ _ Y3.out.p0.P Y3.out.p0.R Y3.out.p0.J).mono ?_
            rintro e x4 ⟨rfl, hb⟩
            have Y4 := hid (Y3.out.keep hb)
            clear s0 s1 s2 s3 t0 t1 t2 t3 r0 r1 r2 r3
            obtain ⟨s0, s1, s2, s3⟩ := row4 Y4.out.p0.row
            obtain ⟨t0, t1, t2, t3⟩ := row4 Y4.out.pq.row
            obtain ⟨r0, r1, r2, r3⟩ := row4 Y4.out.pr.row
            clear hb
            go_wp2_with fail
            refine hK.out _ _ ?_ (fun hHeld4 => ?_)
            · exact ⟨s0, s1, s2, s3, t0, t1, t2, t3, r0, r1, r2, r3⟩
            clear hK K
            refine wpAnyH_take (i := 10) (oi := { dst := some 89, op := Go.Op.binOp Go.BinOp.neq 29 (Go.Operand.tmp 86) (Go.Operand.tmp 88) 29, type := 4, pos := _, after := #[{ on := 7, ground := Go.Ground.data }, { on := 9, ground := Go.Ground.data }, { on := 5, ground := Go.Ground.guard }], guard := some (5, false) }) (v := ?_) rfl (by kernel_rfl) (by kernel_rfl) (by kernel_rfl) (fun _ _ _ h => h) (Or.inl ⟨by rfl, ?_⟩) (by assumption) ?_
            rotate_left
            · intro w hSw; (try dsimp only at hSw); go_simp <;> first | with_reducible rfl | (rw [if_neg (by first | omega | (simp only [ByteArray.size_append] at *; omega))])
            simp only [Act.put, List.setIfInBounds_toArray, List.set_cons_zero, List.set_cons_succ]
            refine wpAnyH_take (i := 11) (oi := { dst := some 90, op := Go.Op.pick (Go.Operand.tmp 84) (Go.Operand.const (Go.Value.bool true)) (Go.Operand.tmp 89), type := 4, pos := _, after := #[{ on := 5, ground := Go.Ground.data }, { on := 10, ground := Go.Ground.data }], guard := none }) (v := ?_) rfl (by kernel_rfl) (by kernel_rfl) (by kernel_rfl) (fun _ _ _ h => h) (Or.inl ⟨by rfl, ?_⟩) (by assumption) ?_
            rotate_left
            · intro w hSw; (try dsimp only at hSw); go_simp <;> first | with_reducible rfl | (rw [if_neg (by first | omega | (simp only [ByteArray.size_append] at *; omega))])
            simp only [Act.put, List.setIfInBounds_toArray, List.set_cons_zero, List.set_cons_succ]
            refine wpAnyH_take (i := 12) (oi := { dst := some 91, op := Go.Op.move (Go.Operand.tmp 90), type := 4, pos := _, after := #[{ on := 11, ground := Go.Ground.data }, { on := 9, ground := Go.Ground.chain }], guard := none }) (v := ?_) rfl (by kernel_rfl) (by kernel_rfl) (by kernel_rfl) (fun _ _ _ h => h) (Or.inl ⟨by rfl, ?_⟩) (by assumption) ?_
            rotate_left
            · intro w hSw; (try dsimp only at hSw); go_simp <;> first | with_reducible rfl | (rw [if_neg (by first | omega | (simp only [ByteArray.size_append] at *; omega))])
            simp only [Act.put, List.setIfInBounds_toArray, List.set_cons_zero, List.set_cons_succ]
            refine wpAnyH_take (i := 13) (oi := { dst := some 92, op := Go.Op.load 26 (Go.Operand.tmp 11), type := 26, pos := _, after := #[{ on := 12, ground := Go.Ground.guard }], guard := some (12, false) }) (v := ?_) rfl (by kernel_rfl) (by kernel_rfl) (by kernel_rfl) (fun _ _ _ h => h) (Or.inl ⟨by rfl, ?_⟩) (by assumption) ?_
            rotate_left
            · intro w hSw; (try dsimp only at hSw); go_simp <;> first | with_reducible rfl | (rw [if_neg (by first | omega | (simp only [ByteArray.size_append] at *; omega))])
            simp only [Act.put, List.setIfInBounds_toArray, List.set_cons_zero, List.set_cons_succ]
            refine wpAnyH_ready (rs := [14]) (by kernel_rfl) (by simp) ?_
            refine AllReadyH.cons (o := { dst := some 93, op := Go.Op.call { callee := Go.Callee.value (Go.Operand.func 12), args := #[Go.Operand.tmp 92], argTypes := #[26] }, type := 29, pos := _, after := #[{ on := 13, ground := Go.Ground.data }, { on := 12, ground := Go.Ground.chain }, { on := 12, ground := Go.Ground.guard }], guard := some (12, false) }) rfl (fun K hK => ?_) AllReadyH.nil
            go_simp
            refine (F.out.2.2.2.2 _ _ _ _ Y4.out.pr.P Y4.out.p0.R Y4.out.p0.J).mono ?_
            rintro e x5 ⟨rfl, hb⟩
            have Y5 := hid (Y4.out.keep hb)
            clear s0 s1 s2 s3 t0 t1 t2 t3 r0 r1 r2 r3
            obtain ⟨s0, s1, s2, s3⟩ := row4 Y5.out.p0.row
            obtain ⟨t0, t1, t2, t3⟩ := row4 Y5.out.pq.row
            obtain ⟨r0, r1, r2, r3⟩ := row4 Y5.out.pr.row
            clear hb
            go_wp2_with fail
            refine hK.out _ _ ?_ (fun hHeld5 => ?_)
            · exact ⟨s0, s1, s2, s3, t0, t1, t2, t3, r0, r1, r2, r3⟩
            clear hK K
            refine wpAnyH_take (i := 15) (oi := { dst := some 94, op := Go.Op.binOp Go.BinOp.neq 29 (Go.Operand.tmp 93) (Go.Operand.const (Go.Value.int Go.IntKind.i64 8)) 29, type := 4, pos := _, after := #[{ on := 14, ground := Go.Ground.data }, { on := 12, ground := Go.Ground.guard }], guard := some (12, false) }) (v := ?_) rfl (by kernel_rfl) (by kernel_rfl) (by kernel_rfl) (fun _ _ _ h => h) (Or.inl ⟨by rfl, ?_⟩) (by assumption) ?_
            rotate_left
            · intro w hSw; (try dsimp only at hSw); go_simp <;> first | with_reducible rfl | (rw [if_neg (by first | omega | (simp only [ByteArray.size_append] at *; omega))])
            simp only [Act.put, List.setIfInBounds_toArray, List.set_cons_zero, List.set_cons_succ]
            refine wpAnyH_take (i := 16) (oi := { dst := some 95, op := Go.Op.pick (Go.Operand.tmp 91) (Go.Operand.const (Go.Value.bool true)) (Go.Operand.tmp 94), type := 4, pos := _, after := #[{ on := 12, ground := Go.Ground.data }, { on := 15, ground := Go.Ground.data }], guard := none }) (v := ?_) rfl (by kernel_rfl) (by kernel_rfl) (by kernel_rfl) (fun _ _ _ h => h) (Or.inl ⟨by rfl, ?_⟩) (by assumption) ?_
            rotate_left
            · intro w hSw; (try dsimp only at hSw); go_simp <;> first | with_reducible rfl | (rw [if_neg (by first | omega | (simp only [ByteArray.size_append] at *; omega))])
            simp only [Act.put, List.setIfInBounds_toArray, List.set_cons_zero, List.set_cons_succ]
            refine wpAnyH_done (by kernel_rfl) ?_ _
            clear s0 s1 s2 s3 t0 t1 t2 t3 r0 r1 r2 r3 Y0 Y1 Y2 Y3 Y4 Y7
            have hfr := HFR.out
            by_cases h0 : l.length = 0
            · rw [if_pos h0] at hfr
              subst hfr
              have hd1 : decide (0 < l.length) = false := by simp [h0]
              have hd2 : ((l.length : Int) == 0) = true := by simp [h0]
              have hd3 : (l.length == 0) = true := by simp [h0]
              clear h0
              have b8 := (Below.refl x5.heap.size x5).alloc (Nat.le_refl _) (.cells #[.string ⟨#[90, 109, 111, 114, 101, 95]⟩] 9)
              have T8 := hid (Y5.out.tm.keep b8)
              have U8 : Hid (TxAt (x5.alloc (.cells #[.string ⟨#[90, 109, 111, 114, 101, 95]⟩] 9)) (.slice (some ⟨x5.heap.size, 0, none⟩) 1 1) [zmB]) := hid (tx1 (push_new _ _ _ rfl))
              have B8 := hid (bstep Y5.out.p0.below b8)
              clear b8 Y5
              go_wp2_with (fail)
              refine (same_texts [zmB] _ _ _ T8.out U8.out (by decide)).mono ?_
              rintro e x9 ⟨rfl, hb⟩
              have HB := hid (bstep B8.out hb)
              clear hb
              go_wp2_with (fail)
              go_ret
              exact ⟨rfl, HB.out⟩
            · rw [if_neg h0] at hfr
              subst hfr
              have hd1 : decide (0 < m.length) = true := by simp; omega
              clear h0
              go_wp2_with (fail)
              refine (same_texts m _ _ _ Y5.out.tm Y5.out.tl HLL.out).mono ?_
              rintro e x9 ⟨rfl, hb⟩
              have HB := hid (bstep Y5.out.p0.below hb)
              clear hb
              go_wp2_with (fail)
              go_ret
              exact ⟨rfl, HB.out⟩
      · have hl' : (126 : Int) < (p.flows.length : Int) := by omega
        have hl'' : decide (126 < p.flows.length) = true := by simp; omega
        go_wp2_with (fail)
        refine (alive _ X3.out.R X3.out.J).mono ?_
        rintro e w4 ⟨rfl, hb4⟩
        have X4 := hid (X3.out.keep hb4)
        clear hb4
        have HB := hid X4.out.below
        go_wp2_with (fail)
        go_ret
        exact ⟨rfl, HB.out⟩
    · have hz' : (nmErr p == 0) = false := by simp [hz]
      generalize nmErr p = z at *
      go_wp2_with (fail)
      refine (alive _ X3.out.R X3.out.J).mono ?_
      rintro e w4 ⟨rfl, hb4⟩
      have X4 := hid (X3.out.keep hb4)
      clear hb4
      have HB := hid X4.out.below
      go_wp2_with (fail)
      go_ret
      exact ⟨rfl, HB.out⟩
end Go.Proofs.YtjdlmhkfaodkgaaDoor.Lex
