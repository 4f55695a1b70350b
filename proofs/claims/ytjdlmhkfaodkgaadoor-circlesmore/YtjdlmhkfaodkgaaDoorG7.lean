/-
  Programs that the laws make, by their numbers: which flow needs which.
  The name of a flow by its number: the contract of word.
  The contracts of TwinIns and TwinTexts.
  The contracts of TwinFlow and TwinFlows.
  The contract of TwinProg.
  A program while it is made: trees that stay as long as the blocks of parts do, the row of flows.
-/
import Derived.Test.YtjdlmhkfaodkgaaDoorG6
import Derived.Test.YtjdlmhkfaodkgaaDoorG5
namespace Go.Proofs.YtjdlmhkfaodkgaaDoor.Lex
/-- A flow's name by its number. -/
def wordB (n : Nat) : ByteArray := ⟨#[102, UInt8.ofNat (97 + n % 26), UInt8.ofNat (97 + n / 26 % 26)]⟩
theorem word_inj {i j : Nat} (hi : i < 676) (hj : j < 676) (h : (wordB i).data.toList = (wordB j).data.toList) : i = j := by
  simp only [wordB, List.cons.injEq, and_true, true_and] at h
  have h1 := congrArg UInt8.toNat h.1
  have h2 := congrArg UInt8.toNat h.2
  simp only [UInt8.toNat_ofNat'] at h1 h2
  omega
theorem isResE (s : ByteArray) : isRes s = resL.any fun x => x.data.toList == s.data.toList := by
  unfold isRes
  congr 1
  funext x
  rw [ByteArray.toList_eq, ByteArray.toList_eq]
theorem word_name : ∀ k, k < 64 → isName (wordB k) = true := by
  unfold isName
  simp only [isResE]
  decide +kernel
theorem word_size (k : Nat) : (wordB k).size = 3 := rfl
def exNum : Ex := ⟨1, 0, ⟨#[]⟩, []⟩
def exNm (k : Nat) : Ex := ⟨3, 0, wordB k, []⟩
def exPre (x : Ex) : Ex := ⟨19, 0, ⟨#[]⟩, [x]⟩
def exAdd (x y : Ex) : Ex := ⟨6, 0, ⟨#[]⟩, [x, y]⟩
def addN (x : Ex) (l : List Nat) : Ex := l.foldl (fun x k => exAdd x (exNm k)) x
def addP (x : Ex) (l : List Nat) : Ex := l.foldl (fun x k => exAdd x (exPre (exNm k))) x
def ofX (a b : List Nat) : Ex := addP (addN exNum a) b
def ofF (i : Nat) (a b : List Nat) : Fl := ⟨wordB i, 1, 1, 0, ofX a b⟩
/-- The program. -/
def ofP (now ago : List (List Nat)) : Pg := ⟨1, [], (List.range now.length).map fun i => ofF i (now.getD i []) (ago.getD i []), []⟩
theorem addR_mem {acc : List Rf} {q r : Rf} : r ∈ addR acc q ↔ r ∈ acc ∨ r = q := by
  unfold addR
  split
  · next h =>
    have := rIn_mem.1 h
    constructor
    · exact .inl
    · rintro (h | rfl)
      · exact h
      · exact this
  · simp
def GatIs (e : Nat) (x : Ex) (R : Rf → Prop) : Prop := ∀ d, e ≤ d → ∀ acc r, r ∈ gat d x 0 acc ↔ r ∈ acc ∨ R r
theorem gat_num : GatIs 2 exNum (fun _ => False) := fun d hd acc r => by
  obtain ⟨d, rfl⟩ : ∃ e, d = e + 1 := ⟨d - 1, by omega⟩
  simp [gat, exNum, ownRefs]
theorem gat_addN : ∀ (l : List Nat) (e : Nat) (x : Ex) (R : Rf → Prop), 2 ≤ e → GatIs e x R → GatIs (e + l.length) (addN x l) (fun r => R r ∨ ∃ k ∈ l, r = (wordB k, 0))
  | [], e, x, R, _, h => fun d hd acc r => by
    have := h d (by simpa using hd) acc r
    simpa [addN] using this
  | k :: l, e, x, R, he, h => fun d hd acc r => by
    have h1 : GatIs (e + 1) (exAdd x (exNm k)) (fun r => R r ∨ r = (wordB k, 0)) := fun d hd acc r => by
      obtain ⟨d, rfl⟩ : ∃ e, d = e + 2 := ⟨d - 2, by omega⟩
      have e1 : gat (d + 2) (exAdd x (exNm k)) 0 acc = addR (gat (d + 1) x 0 acc) (wordB k, 0) := by
        simp [gat, exAdd, exNm, ownRefs, nextAgo]
      rw [e1, addR_mem, h (d + 1) (by omega)]
      exact or_assoc
    have h2 := gat_addN l (e + 1) _ _ (by omega) h1 d (by simp at hd; omega) acc r
    show r ∈ gat d (addN (exAdd x (exNm k)) l) 0 acc ↔ _
    rw [h2]
    simp only [List.mem_cons, exists_eq_or_imp, or_assoc]
theorem gat_addP : ∀ (l : List Nat) (e : Nat) (x : Ex) (R : Rf → Prop), 2 ≤ e → GatIs e x R → GatIs (e + l.length) (addP x l) (fun r => R r ∨ ∃ k ∈ l, r = (wordB k, 1))
  | [], e, x, R, _, h => fun d hd acc r => by
    have := h d (by simpa using hd) acc r
    simpa [addP] using this
  | k :: l, e, x, R, he, h => fun d hd acc r => by
    have h1 : GatIs (e + 1) (exAdd x (exPre (exNm k))) (fun r => R r ∨ r = (wordB k, 1)) := fun d hd acc r => by
      obtain ⟨d, rfl⟩ : ∃ e, d = e + 3 := ⟨d - 3, by omega⟩
      have e1 : gat (d + 3) (exAdd x (exPre (exNm k))) 0 acc = addR (gat (d + 2) x 0 acc) (wordB k, 1) := by
        simp [gat, exAdd, exNm, exPre, ownRefs, nextAgo]
      rw [e1, addR_mem, h (d + 2) (by omega)]
      exact or_assoc
    have h2 := gat_addP l (e + 1) _ _ (by omega) h1 d (by simp at hd; omega) acc r
    show r ∈ gat d (addP (exAdd x (exPre (exNm k))) l) 0 acc ↔ _
    rw [h2]
    simp only [List.mem_cons, exists_eq_or_imp, or_assoc]
theorem gat_of (a b : List Nat) (h : a.length + b.length ≤ 30) (r : Rf) : r ∈ gat 32 (ofX a b) 0 [] ↔ (∃ k ∈ a, r = (wordB k, 0)) ∨ ∃ k ∈ b, r = (wordB k, 1) := by
  have h1 := gat_addP b (2 + a.length) _ _ (by omega) (gat_addN a 2 exNum _ (by omega) gat_num) 32 (by omega) [] r
  rw [ofX, h1]
  simp
def SzIs (e s : Nat) (x : Ex) : Prop := ∀ d m, e ≤ d → s ≤ m → sz d m x = some s
theorem sz_num : SzIs 2 1 exNum := fun d m hd hm => by
  obtain ⟨d, rfl⟩ : ∃ e, d = e + 1 := ⟨d - 1, by omega⟩
  have h0 : ¬ m = 0 := by omega
  have h2 : fieldsOk 1 0 ⟨#[]⟩ 0 = true := by decide
  simp only [sz, exNum, List.length_nil, h2, h0, szL, Bool.true_eq_false, or_self, if_false]
theorem szx_nm {k : Nat} (hk : k < 64) : ∀ d m, 1 ≤ d → 1 ≤ m → sz d m (exNm k) = some 1 := fun d m hd hm => by
  obtain ⟨d, rfl⟩ : ∃ e, d = e + 1 := ⟨d - 1, by omega⟩
  have h0 : ¬ m = 0 := by omega
  simp [sz, exNm, fieldsOk, h0, szL, word_name k hk]
theorem sz_pre {k : Nat} (hk : k < 64) : ∀ d m, 2 ≤ d → 2 ≤ m → sz d m (exPre (exNm k)) = some 2 := fun d m hd hm => by
  obtain ⟨d, rfl⟩ : ∃ e, d = e + 1 := ⟨d - 1, by omega⟩
  have h0 : ¬ m = 0 := by omega
  have h1 := szx_nm hk d (m - 1) (by omega) (by omega)
  have h2 : fieldsOk 19 0 ⟨#[]⟩ 1 = true := by decide
  simp only [sz, exPre, List.length_cons, List.length_nil, Nat.zero_add, h2, h0, szL, h1, Bool.true_eq_false, or_self, if_false]
theorem sz_add {e s t : Nat} {x y : Ex} (hx : SzIs e s x) (hy : ∀ d m, e ≤ d → t ≤ m → sz d m y = some t) : SzIs (e + 1) (1 + s + t) (exAdd x y) := fun d m hd hm => by
  obtain ⟨d, rfl⟩ : ∃ e, d = e + 1 := ⟨d - 1, by omega⟩
  have h0 : ¬ m = 0 := by omega
  have h1 := hx d (m - 1) (by omega) (by omega)
  have h3 := hy d (m - (1 + s)) (by omega) (by omega)
  have h2 : fieldsOk 6 0 ⟨#[]⟩ 2 = true := by decide
  simp only [sz, exAdd, List.length_cons, List.length_nil, Nat.zero_add, Nat.reduceAdd, h2, h0, szL, h1, h3, Bool.true_eq_false, or_self, if_false]
theorem sz_addN : ∀ (l : List Nat) (e s : Nat) (x : Ex), 2 ≤ e → (∀ k ∈ l, k < 64) → SzIs e s x → SzIs (e + l.length) (s + 2 * l.length) (addN x l)
  | [], e, s, x, _, _, h => h
  | k :: l, e, s, x, he, hl, h => by
    have h1 := sz_add h (fun d m hd hm => szx_nm (hl k (by simp)) d m (by omega) hm)
    have h2 := sz_addN l (e + 1) (1 + s + 1) _ (by omega) (fun k hk => hl k (by simp [hk])) h1
    intro d m hd hm
    have h3 := h2 d m (by simp at hd; omega) (by simp at hm; omega)
    show sz d m (addN (exAdd x (exNm k)) l) = _
    rw [h3]
    simp
    omega
theorem sz_addP : ∀ (l : List Nat) (e s : Nat) (x : Ex), 2 ≤ e → (∀ k ∈ l, k < 64) → SzIs e s x → SzIs (e + l.length) (s + 3 * l.length) (addP x l)
  | [], e, s, x, _, _, h => h
  | k :: l, e, s, x, he, hl, h => by
    have h1 := sz_add h (fun d m hd hm => sz_pre (hl k (by simp)) d m (by omega) hm)
    have h2 := sz_addP l (e + 1) (1 + s + 2) _ (by omega) (fun k hk => hl k (by simp [hk])) h1
    intro d m hd hm
    have h3 := h2 d m (by simp at hd; omega) (by simp at hm; omega)
    show sz d m (addP (exAdd x (exPre (exNm k))) l) = _
    rw [h3]
    simp
    omega
/-- What the laws hand on. -/
structure OfOk (now ago : List (List Nat)) : Prop where
  len : now.length ≤ 64
  now1 : ∀ l ∈ now, l.length ≤ 12 ∧ ∀ k ∈ l, k < now.length
  ago1 : ∀ l ∈ ago, l.length ≤ 12 ∧ ∀ k ∈ l, k < now.length
theorem getD_ok {n : Nat} {L : List (List Nat)} (h : ∀ l ∈ L, l.length ≤ 12 ∧ ∀ k ∈ l, k < n) (i : Nat) : (L.getD i []).length ≤ 12 ∧ ∀ k ∈ L.getD i [], k < n := by
  rw [List.getD_eq_getElem?_getD]
  cases e : L[i]? with
  | none => simp
  | some l => exact h l (List.mem_of_getElem? e)
theorem of_chk {a b : List Nat} (ha : a.length ≤ 12 ∧ ∀ k ∈ a, k < 64) (hb : b.length ≤ 12 ∧ ∀ k ∈ b, k < 64) : chk (ofX a b) = true := by
  have h := sz_addP b _ _ _ (by omega) hb.2 (sz_addN a 2 1 exNum (by omega) ha.2 sz_num) 32 200 (by omega) (by omega)
  unfold chk ofX
  rw [h]
  rfl
theorem ofP_len (now ago : List (List Nat)) : (ofP now ago).flows.length = now.length := by simp [ofP]
theorem ofP_get (now ago : List (List Nat)) (i : Nat) (h : i < (ofP now ago).flows.length) : (ofP now ago).flows[i] = ofF i (now.getD i []) (ago.getD i []) := by simp [ofP]
theorem ofP_mem {now ago : List (List Nat)} {f : Fl} (h : f ∈ (ofP now ago).flows) : ∃ i, i < now.length ∧ f = ofF i (now.getD i []) (ago.getD i []) := by
  obtain ⟨i, hi, rfl⟩ := List.mem_map.1 h
  exact ⟨i, List.mem_range.1 hi, rfl⟩
theorem OfOk.chk {now ago : List (List Nat)} (h : OfOk now ago) : ∀ f ∈ (ofP now ago).flows, Lex.chk f.body = true := fun f hf => by
  obtain ⟨i, hi, rfl⟩ := ofP_mem hf
  have h1 := getD_ok h.now1 i
  have h2 := getD_ok h.ago1 i
  have h3 := h.len
  exact of_chk ⟨h1.1, fun k hk => by have := h1.2 k hk; omega⟩ ⟨h2.1, fun k hk => by have := h2.2 k hk; omega⟩
theorem ofP_name {now ago : List (List Nat)} : ∀ f ∈ (ofP now ago).flows, f.name.size ≤ 65536 := fun f hf => by
  obtain ⟨i, hi, rfl⟩ := ofP_mem hf
  show (wordB i).size ≤ 65536
  rw [word_size]
  omega
theorem few_same {α : Type} : ∀ (l : List α) (a : α), l.Nodup → (∀ x ∈ l, x = a) → l.length ≤ 1
  | [], _, _, _ => by simp
  | [_], _, _, _ => by simp
  | x :: y :: l, a, hn, h => by
    have h1 := h x (by simp)
    have h2 := h y (by simp)
    rw [h1, h2] at hn
    simp at hn
theorem ofP_cnt {now ago : List (List Nat)} (hl : now.length ≤ 64) (i : Nat) (hi : i < now.length) : cntT (thingsL (ofP now ago)) (wordB i).data.toList = 1 := by
  rw [cntT_names]
  have e : namesOf (ofP now ago) = (List.range now.length).map wordB := by
    simp [namesOf, ofP, ofF, Function.comp_def]
  rw [e]
  unfold cntN
  rw [List.filter_map, List.length_map]
  have h1 := few_same ((List.range now.length).filter ((fun s => decide ((wordB i).data.toList = s.data.toList)) ∘ wordB)) i (List.Pairwise.filter _ List.nodup_range) (fun x hx => by
    obtain ⟨h1, h2⟩ := List.mem_filter.1 hx
    have h3 := List.mem_range.1 h1
    simp only [Function.comp_apply, decide_eq_true_eq] at h2
    exact (word_inj (by omega) (by omega) h2).symm)
  have h2 : i ∈ (List.range now.length).filter ((fun s => decide ((wordB i).data.toList = s.data.toList)) ∘ wordB) := List.mem_filter.2 ⟨List.mem_range.2 hi, by simp⟩
  have h3 := List.length_pos_of_mem h2
  omega
theorem OfOk.nmOk {now ago : List (List Nat)} (h : OfOk now ago) : Lex.nmOk (ofP now ago) = true := by
  unfold Lex.nmOk
  simp only [Bool.and_eq_true, List.all_eq_true]
  refine ⟨fun x hx => ?_, fun s hs => ?_, fun s hs => by simp [ofP] at hs⟩
  · have hx2 : x.2.name ∈ namesOf (ofP now ago) := by
      rw [← things_names]
      exact List.mem_map.2 ⟨x, hx, rfl⟩
    obtain ⟨i, hi, e⟩ : ∃ i, i < now.length ∧ wordB i = x.2.name := by
      simp only [namesOf, ofP, ofF, List.map_nil, List.nil_append, List.map_map, List.mem_map, List.mem_range, Function.comp_apply] at hx2
      exact hx2
    unfold twice
    rw [← e, ofP_cnt h.len i hi]
    rfl
  · obtain ⟨f, hf, hs⟩ := List.mem_flatMap.1 hs
    obtain ⟨i, hi, rfl⟩ := ofP_mem hf
    obtain ⟨r, hr, rfl⟩ := List.mem_map.1 hs
    have h1 := getD_ok h.now1 i
    have h2 := getD_ok h.ago1 i
    have h3 := (gat_of _ _ (by omega) r).1 hr
    obtain ⟨k, hk, e⟩ : ∃ k, k < now.length ∧ r.1 = wordB k := by
      rcases h3 with ⟨k, hk, rfl⟩ | ⟨k, hk, rfl⟩
      · exact ⟨k, h1.2 k hk, rfl⟩
      · exact ⟨k, h2.2 k hk, rfl⟩
    unfold none_
    rw [e, ofP_cnt h.len k hk]
    rfl
theorem OfOk.pgOk {now ago : List (List Nat)} (h : OfOk now ago) : Lex.pgOk (ofP now ago) = true := by
  unfold Lex.pgOk
  have hl := h.len
  simp only [Bool.and_eq_true, List.all_eq_true]
  refine ⟨⟨rfl, ?_⟩, fun x hx => by simp [ofP] at hx, fun f hf => ?_, fun x hx => by simp [ofP] at hx⟩
  · unfold roomOk
    rw [ofP_len]
    simp [ofP]
    omega
  · have h1 := h.chk f hf
    obtain ⟨i, hi, rfl⟩ := ofP_mem hf
    unfold flOk hdOk
    rw [h1]
    show (isName (wordB i) && _ && _) = true
    rw [word_name i (by omega)]
    rfl
theorem OfOk.nmErr {now ago : List (List Nat)} (h : OfOk now ago) : Lex.nmErr (ofP now ago) = 0 := by
  unfold Lex.nmErr
  rw [h.pgOk, h.nmOk]
  rfl
theorem OfOk.find {now ago : List (List Nat)} (h : OfOk now ago) (k : Nat) (hk : k < now.length) : ∃ x, findT (thingsL (ofP now ago)) (wordB k) = some ((k : Int), x) := by
  have h1 := find_flow_ok h.nmOk k (by rw [ofP_len]; exact hk)
  rw [ofP_get] at h1
  exact ⟨_, h1⟩
/-- Whom a flow of such a program needs. -/
theorem OfOk.rows {now ago : List (List Nat)} (h : OfOk now ago) (i j : Nat) : j ∈ rowsP (ofP now ago) i ↔ i < now.length ∧ j ∈ now.getD i [] := by
  rw [rowsP_mem]
  have h1 := getD_ok h.now1 i
  have h2 := getD_ok h.ago1 i
  constructor
  · rintro ⟨hi, hj⟩
    rw [ofP_get] at hj
    rw [ofP_len] at hi
    refine ⟨hi, ?_⟩
    have hz2 : (j : Int) ∈ nb (ofP now ago) (gat 32 (ofX (now.getD i []) (ago.getD i [])) 0 []) := List.mem_mergeSort.1 hj
    obtain ⟨r, hr, e⟩ := List.mem_filterMap.1 hz2
    rcases (gat_of _ _ (by omega) r).1 hr with ⟨k, hk, rfl⟩ | ⟨k, hk, rfl⟩
    · obtain ⟨x, hx⟩ := h.find k (h1.2 k hk)
      unfold nb1 at e
      rw [hx] at e
      simp at e
      obtain rfl : k = j := by omega
      exact hk
    · simp [nb1] at e
  · rintro ⟨hi, hj⟩
    refine ⟨by rw [ofP_len]; exact hi, ?_⟩
    rw [ofP_get]
    refine List.mem_mergeSort.2 (List.mem_filterMap.2 ⟨(wordB j, 0), (gat_of _ _ (by omega) _).2 (.inl ⟨j, hj, rfl⟩), ?_⟩)
    obtain ⟨x, hx⟩ := h.find j (h1.2 j hj)
    unfold nb1
    rw [hx]
    simp
theorem ofP_nameAt (now ago : List (List Nat)) (z : Nat) (h : z < now.length) : nameAt (ofP now ago) (z : Int) = wordB z := by
  unfold nameAt
  have h' : z < (ofP now ago).flows.length := by rw [ofP_len]; exact h
  have e : (ofP now ago).flows[(z : Int).toNat]? = some (ofP now ago).flows[z] := by rw [Int.toNat_natCast]; exact List.getElem?_eq_getElem h'
  rw [e, ofP_get]
  rfl
end Go.Proofs.YtjdlmhkfaodkgaaDoor.Lex
namespace Go.Proofs.YtjdlmhkfaodkgaaDoor.Lex
open Go.ChangeShapes Go.WideShapes Go.ChangeAt Go.RowKit Go.Joins
def abcB : ByteArray := ⟨#[97, 98, 99, 100, 101, 102, 103, 104, 105, 106, 107, 108, 109, 110, 111, 112, 113, 114, 115, 116, 117, 118, 119, 120, 121, 122]⟩
theorem abc_at : ∀ m, m < 26 → (abcB.extract m (m + 1)).data.toList = [UInt8.ofNat (97 + m)] := by decide +kernel
set_option maxRecDepth 100000 in
set_option maxHeartbeats 1000000 in
theorem word (n : Nat) (hn : n < 676) (w : World) : Calls Tryd.prog 16 #[.int .i64 (n : Int)] w fun e w' => e = .returned (.string (wordB n)) ∧ Below w.heap.size w w' := by
  obtain ⟨q, hq⟩ : ∃ q, n / 26 = q := ⟨_, rfl⟩
  obtain ⟨r, hr⟩ : ∃ r, n % 26 = r := ⟨_, rfl⟩
  have hq26 : q < 26 := by omega
  have hr26 : r < 26 := by omega
  have h1 : Int.tmod (n : Int) 26 = (r : Int) := by rw [Int.tmod_eq_emod_of_nonneg (by omega)]; omega
  have h2 : Int.tdiv (n : Int) 26 = (q : Int) := by rw [Int.tdiv_eq_ediv_of_nonneg (by omega)]; omega
  have h3 : Int.tmod (q : Int) 26 = (q : Int) := by rw [Int.tmod_eq_emod_of_nonneg (by omega)]; omega
  have h1' : (n : Int) % 26 = (r : Int) := by omega
  have h2' : (n : Int) / 26 = (q : Int) := by omega
  have h3' : (q : Int) % 26 = (q : Int) := by omega
  have hwi : ∀ m : Nat, m < 26 → IntKind.i64.wrap (m : Int) = (m : Int) := fun m hm => by rw [IntKind.wrap_i64]; omega
  have HQ := hid hq
  have HR := hid hr
  have hwr := hwi r hr26
  have hwr1 : IntKind.i64.wrap ((r : Int) + 1) = ((r + 1 : Nat) : Int) := by rw [IntKind.wrap_i64]; omega
  have hwq1 : IntKind.i64.wrap ((q : Int) + 1) = ((q + 1 : Nat) : Int) := by rw [IntKind.wrap_i64]; omega
  have hr1 : (r : Int) + 1 ≤ 26 := by omega
  have hq1 : (q : Int) + 1 ≤ 26 := by omega
  have hr3 : (r : Int) ≤ (r : Int) + 1 := by omega
  have hq3 : (q : Int) ≤ (q : Int) + 1 := by omega
  have hr4 : (0 : Int) ≤ (r : Int) := by omega
  have hq4 : (0 : Int) ≤ (q : Int) := by omega
  have hr5 : r ≤ r + 1 := by omega
  have hq5 : q ≤ q + 1 := by omega
  have hr2 : (0 : Int) ≤ (r : Int) + 1 := by omega
  have hq2 : (0 : Int) ≤ (q : Int) + 1 := by omega
  have hwq := hwi q hq26
  have HE : Hid ((⟨#[102]⟩ : ByteArray) ++ abcB.extract r (r + 1) ++ abcB.extract q (q + 1) = wordB n) := hid (by
    refine ByteArray.ext (Array.toList_inj.1 ?_)
    rw [ByteArray.data_append, ByteArray.data_append, Array.toList_append, Array.toList_append, abc_at r hr26, abc_at q hq26]
    simp only [wordB, hr, hq, Nat.mod_eq_of_lt hq26]
    rfl)
  clear hq hr hwi
  go_enter Tryd.func16, Tryd.ntmps16
  go_wp2_with (fail)
  refine wp_region_held_drew (S := fun _ => True) (by kernel_rfl) ?_ (fun hHeld => ?_)
  · trivial
  refine wpAnyH_take (i := 0) (oi := { dst := some 3, op := Go.Op.move (Go.Operand.tmp 0), type := 3, pos := _, after := #[], guard := none }) (v := ?_) rfl (by kernel_rfl) (by kernel_rfl) (by kernel_rfl) (fun _ _ _ h => h) (Or.inl ⟨by rfl, ?_⟩) (by assumption) ?_
  rotate_left
  · intro w hSw; (try dsimp only at hSw); go_simp <;> first | with_reducible rfl | (rw [if_neg (by first | omega | (simp only [ByteArray.size_append] at *; omega))])
  simp only [Act.put, List.setIfInBounds_toArray, List.set_cons_zero, List.set_cons_succ]
  refine wpAnyH_take (i := 1) (oi := { dst := some 4, op := Go.Op.binOp Go.BinOp.rem 3 (Go.Operand.tmp 3) (Go.Operand.const (Go.Value.int Go.IntKind.i64 26)) 3, type := 3, pos := _, after := #[{ on := 0, ground := Go.Ground.data }], guard := none }) (v := ?_) rfl (by kernel_rfl) (by kernel_rfl) (by kernel_rfl) (fun _ _ _ h => h) (Or.inl ⟨by rfl, ?_⟩) (by assumption) ?_
  rotate_left
  · intro w hSw; (try dsimp only at hSw); go_simp <;> first | with_reducible rfl | (rw [if_neg (by first | omega | (simp only [ByteArray.size_append] at *; omega))])
  simp only [Act.put, List.setIfInBounds_toArray, List.set_cons_zero, List.set_cons_succ]
  refine wpAnyH_take (i := 2) (oi := { dst := some 5, op := Go.Op.move (Go.Operand.tmp 0), type := 3, pos := _, after := #[], guard := none }) (v := ?_) rfl (by kernel_rfl) (by kernel_rfl) (by kernel_rfl) (fun _ _ _ h => h) (Or.inl ⟨by rfl, ?_⟩) (by assumption) ?_
  rotate_left
  · intro w hSw; (try dsimp only at hSw); go_simp <;> first | with_reducible rfl | (rw [if_neg (by first | omega | (simp only [ByteArray.size_append] at *; omega))])
  simp only [Act.put, List.setIfInBounds_toArray, List.set_cons_zero, List.set_cons_succ]
  refine wpAnyH_take (i := 3) (oi := { dst := some 6, op := Go.Op.binOp Go.BinOp.rem 3 (Go.Operand.tmp 5) (Go.Operand.const (Go.Value.int Go.IntKind.i64 26)) 3, type := 3, pos := _, after := #[{ on := 2, ground := Go.Ground.data }], guard := none }) (v := ?_) rfl (by kernel_rfl) (by kernel_rfl) (by kernel_rfl) (fun _ _ _ h => h) (Or.inl ⟨by rfl, ?_⟩) (by assumption) ?_
  rotate_left
  · intro w hSw; (try dsimp only at hSw); go_simp <;> first | with_reducible rfl | (rw [if_neg (by first | omega | (simp only [ByteArray.size_append] at *; omega))])
  simp only [Act.put, List.setIfInBounds_toArray, List.set_cons_zero, List.set_cons_succ]
  refine wpAnyH_take (i := 4) (oi := { dst := some 7, op := Go.Op.binOp Go.BinOp.add 3 (Go.Operand.tmp 6) (Go.Operand.const (Go.Value.int Go.IntKind.i64 1)) 3, type := 3, pos := _, after := #[{ on := 3, ground := Go.Ground.data }], guard := none }) (v := ?_) rfl (by kernel_rfl) (by kernel_rfl) (by kernel_rfl) (fun _ _ _ h => h) (Or.inl ⟨by rfl, ?_⟩) (by assumption) ?_
  rotate_left
  · intro w hSw; (try dsimp only at hSw); go_simp <;> first | with_reducible rfl | (rw [if_neg (by first | omega | (simp only [ByteArray.size_append] at *; omega))])
  simp only [Act.put, List.setIfInBounds_toArray, List.set_cons_zero, List.set_cons_succ]
  refine wpAnyH_take (i := 5) (oi := { dst := some 8, op := Go.Op.slice 9 (Go.Operand.const (Go.Value.string { data := #[97, 98, 99, 100, 101, 102, 103, 104, 105, 106, 107, 108, 109, 110, 111, 112, 113, 114, 115, 116, 117, 118, 119, 120, 121, 122] })) (some (Go.Operand.tmp 4)) (some (Go.Operand.tmp 7)) none, type := 9, pos := _, after := #[{ on := 1, ground := Go.Ground.data }, { on := 4, ground := Go.Ground.data }], guard := none }) (v := ?_) rfl (by kernel_rfl) (by kernel_rfl) (by kernel_rfl) (fun _ _ _ h => h) (Or.inl ⟨by rfl, ?_⟩) (by assumption) ?_
  rotate_left
  · intro w hSw; (try dsimp only at hSw); go_simp <;> first | with_reducible rfl | (rw [if_neg (by first | omega | (simp only [ByteArray.size_append] at *; omega))])
  simp only [Act.put, List.setIfInBounds_toArray, List.set_cons_zero, List.set_cons_succ]
  refine wpAnyH_take (i := 6) (oi := { dst := some 9, op := Go.Op.binOp Go.BinOp.add 9 (Go.Operand.const (Go.Value.string { data := #[102] })) (Go.Operand.tmp 8) 9, type := 9, pos := _, after := #[{ on := 5, ground := Go.Ground.data }], guard := none }) (v := ?_) rfl (by kernel_rfl) (by kernel_rfl) (by kernel_rfl) (fun _ _ _ h => h) (Or.inl ⟨by rfl, ?_⟩) (by assumption) ?_
  rotate_left
  · intro w hSw; (try dsimp only at hSw); go_simp <;> first | with_reducible rfl | (rw [if_neg (by first | omega | (simp only [ByteArray.size_append] at *; omega))])
  simp only [Act.put, List.setIfInBounds_toArray, List.set_cons_zero, List.set_cons_succ]
  refine wpAnyH_take (i := 7) (oi := { dst := some 10, op := Go.Op.move (Go.Operand.tmp 0), type := 3, pos := _, after := #[], guard := none }) (v := ?_) rfl (by kernel_rfl) (by kernel_rfl) (by kernel_rfl) (fun _ _ _ h => h) (Or.inl ⟨by rfl, ?_⟩) (by assumption) ?_
  rotate_left
  · intro w hSw; (try dsimp only at hSw); go_simp <;> first | with_reducible rfl | (rw [if_neg (by first | omega | (simp only [ByteArray.size_append] at *; omega))])
  simp only [Act.put, List.setIfInBounds_toArray, List.set_cons_zero, List.set_cons_succ]
  refine wpAnyH_take (i := 8) (oi := { dst := some 11, op := Go.Op.binOp Go.BinOp.quo 3 (Go.Operand.tmp 10) (Go.Operand.const (Go.Value.int Go.IntKind.i64 26)) 3, type := 3, pos := _, after := #[{ on := 7, ground := Go.Ground.data }], guard := none }) (v := ?_) rfl (by kernel_rfl) (by kernel_rfl) (by kernel_rfl) (fun _ _ _ h => h) (Or.inl ⟨by rfl, ?_⟩) (by assumption) ?_
  rotate_left
  · intro w hSw; (try dsimp only at hSw); go_simp <;> first | with_reducible rfl | (rw [if_neg (by first | omega | (simp only [ByteArray.size_append] at *; omega))])
  simp only [Act.put, List.setIfInBounds_toArray, List.set_cons_zero, List.set_cons_succ]
  refine wpAnyH_take (i := 9) (oi := { dst := some 12, op := Go.Op.binOp Go.BinOp.rem 3 (Go.Operand.tmp 11) (Go.Operand.const (Go.Value.int Go.IntKind.i64 26)) 3, type := 3, pos := _, after := #[{ on := 8, ground := Go.Ground.data }], guard := none }) (v := ?_) rfl (by kernel_rfl) (by kernel_rfl) (by kernel_rfl) (fun _ _ _ h => h) (Or.inl ⟨by rfl, ?_⟩) (by assumption) ?_
  rotate_left
  · intro w hSw; (try dsimp only at hSw); go_simp <;> first | with_reducible rfl | (rw [if_neg (by first | omega | (simp only [ByteArray.size_append] at *; omega))])
  simp only [Act.put, List.setIfInBounds_toArray, List.set_cons_zero, List.set_cons_succ]
  refine wpAnyH_take (i := 10) (oi := { dst := some 13, op := Go.Op.move (Go.Operand.tmp 0), type := 3, pos := _, after := #[], guard := none }) (v := ?_) rfl (by kernel_rfl) (by kernel_rfl) (by kernel_rfl) (fun _ _ _ h => h) (Or.inl ⟨by rfl, ?_⟩) (by assumption) ?_
  rotate_left
  · intro w hSw; (try dsimp only at hSw); go_simp <;> first | with_reducible rfl | (rw [if_neg (by first | omega | (simp only [ByteArray.size_append] at *; omega))])
  simp only [Act.put, List.setIfInBounds_toArray, List.set_cons_zero, List.set_cons_succ]
  refine wpAnyH_take (i := 11) (oi := { dst := some 14, op := Go.Op.binOp Go.BinOp.quo 3 (Go.Operand.tmp 13) (Go.Operand.const (Go.Value.int Go.IntKind.i64 26)) 3, type := 3, pos := _, after := #[{ on := 10, ground := Go.Ground.data }], guard := none }) (v := ?_) rfl (by kernel_rfl) (by kernel_rfl) (by kernel_rfl) (fun _ _ _ h => h) (Or.inl ⟨by rfl, ?_⟩) (by assumption) ?_
  rotate_left
  · intro w hSw; (try dsimp only at hSw); go_simp <;> first | with_reducible rfl | (rw [if_neg (by first | omega | (simp only [ByteArray.size_append] at *; omega))])
  simp only [Act.put, List.setIfInBounds_toArray, List.set_cons_zero, List.set_cons_succ]
  refine wpAnyH_take (i := 12) (oi := { dst := some 15, op := Go.Op.binOp Go.BinOp.rem 3 (Go.Operand.tmp 14) (Go.Operand.const (Go.Value.int Go.IntKind.i64 26)) 3, type := 3, pos := _, after := #[{ on := 11, ground := Go.Ground.data }], guard := none }) (v := ?_) rfl (by kernel_rfl) (by kernel_rfl) (by kernel_rfl) (fun _ _ _ h => h) (Or.inl ⟨by rfl, ?_⟩) (by assumption) ?_
  rotate_left
  · intro w hSw; (try dsimp only at hSw); go_simp <;> first | with_reducible rfl | (rw [if_neg (by first | omega | (simp only [ByteArray.size_append] at *; omega))])
  simp only [Act.put, List.setIfInBounds_toArray, List.set_cons_zero, List.set_cons_succ]
  refine wpAnyH_take (i := 13) (oi := { dst := some 16, op := Go.Op.binOp Go.BinOp.add 3 (Go.Operand.tmp 15) (Go.Operand.const (Go.Value.int Go.IntKind.i64 1)) 3, type := 3, pos := _, after := #[{ on := 12, ground := Go.Ground.data }], guard := none }) (v := ?_) rfl (by kernel_rfl) (by kernel_rfl) (by kernel_rfl) (fun _ _ _ h => h) (Or.inl ⟨by rfl, ?_⟩) (by assumption) ?_
  rotate_left
  · intro w hSw; (try dsimp only at hSw); go_simp <;> first | with_reducible rfl | (rw [if_neg (by first | omega | (simp only [ByteArray.size_append] at *; omega))])
  simp only [Act.put, List.setIfInBounds_toArray, List.set_cons_zero, List.set_cons_succ]
  refine wpAnyH_take (i := 14) (oi := { dst := some 17, op := Go.Op.slice 9 (Go.Operand.const (Go.Value.string { data := #[97, 98, 99, 100, 101, 102, 103, 104, 105, 106, 107, 108, 109, 110, 111, 112, 113, 114, 115, 116, 117, 118, 119, 120, 121, 122] })) (some (Go.Operand.tmp 12)) (some (Go.Operand.tmp 16)) none, type := 9, pos := _, after := #[{ on := 9, ground := Go.Ground.data }, { on := 13, ground := Go.Ground.data }], guard := none }) (v := ?_) rfl (by kernel_rfl) (by kernel_rfl) (by kernel_rfl) (fun _ _ _ h => h) (Or.inl ⟨by rfl, ?_⟩) (by assumption) ?_
  rotate_left
  · intro w hSw; (try dsimp only at hSw); go_simp <;> first | with_reducible rfl | (rw [if_neg (by first | omega | (simp only [ByteArray.size_append] at *; omega))])
  simp only [Act.put, List.setIfInBounds_toArray, List.set_cons_zero, List.set_cons_succ]
  refine wpAnyH_take (i := 15) (oi := { dst := some 18, op := Go.Op.binOp Go.BinOp.add 9 (Go.Operand.tmp 9) (Go.Operand.tmp 17) 9, type := 9, pos := _, after := #[{ on := 6, ground := Go.Ground.data }, { on := 14, ground := Go.Ground.data }], guard := none }) (v := ?_) rfl (by kernel_rfl) (by kernel_rfl) (by kernel_rfl) (fun _ _ _ h => h) (Or.inl ⟨by rfl, ?_⟩) (by assumption) ?_
  rotate_left
  · intro w hSw; (try dsimp only at hSw); go_simp <;> first | with_reducible rfl | (rw [if_neg (by first | omega | (simp only [ByteArray.size_append] at *; omega))])
  simp only [Act.put, List.setIfInBounds_toArray, List.set_cons_zero, List.set_cons_succ]
  refine wpAnyH_take (i := 16) (oi := { dst := some 2, op := Go.Op.assign (Go.Operand.tmp 18), type := 9, pos := _, after := #[{ on := 15, ground := Go.Ground.data }, { on := 0, ground := Go.Ground.phase }, { on := 1, ground := Go.Ground.phase }, { on := 2, ground := Go.Ground.phase }, { on := 3, ground := Go.Ground.phase }, { on := 4, ground := Go.Ground.phase }, { on := 5, ground := Go.Ground.phase }, { on := 6, ground := Go.Ground.phase }, { on := 7, ground := Go.Ground.phase }, { on := 8, ground := Go.Ground.phase }, { on := 9, ground := Go.Ground.phase }, { on := 10, ground := Go.Ground.phase }, { on := 11, ground := Go.Ground.phase }, { on := 12, ground := Go.Ground.phase }, { on := 13, ground := Go.Ground.phase }, { on := 14, ground := Go.Ground.phase }, { on := 15, ground := Go.Ground.phase }], guard := none }) (v := ?_) rfl (by kernel_rfl) (by kernel_rfl) (by kernel_rfl) (fun _ _ _ h => h) (Or.inl ⟨by rfl, ?_⟩) (by assumption) ?_
  rotate_left
  · intro w hSw; (try dsimp only at hSw); go_simp <;> first | with_reducible rfl | (rw [if_neg (by first | omega | (simp only [ByteArray.size_append] at *; omega))])
  simp only [Act.put, List.setIfInBounds_toArray, List.set_cons_zero, List.set_cons_succ]
  refine wpAnyH_done (by kernel_rfl) ?_ _
  go_wp2_with (fail)
  go_ret
  exact ⟨congrArg (fun s => Ending.returned (Value.string s)) HE.out, (Below.refl _ _).drew⟩
end Go.Proofs.YtjdlmhkfaodkgaaDoor.Lex
namespace Go.Proofs.YtjdlmhkfaodkgaaDoor.Lex
open Go.ChangeShapes Go.WideShapes Go.ChangeAt Go.RowKit Go.Joins
theorem info44' : (Tryd.prog.info? 61).map (fun i => (i.zero, i.size, i.bytes)) = some (some (.agg #[.string ByteArray.empty, .int .u8 0, .int .i64 0]), 3, 32) := by kernel_rfl
theorem info9' : (Tryd.prog.info? 9).map (fun i => (i.zero, i.size, i.bytes)) = some (some (.string ByteArray.empty), 1, 16) := by kernel_rfl
set_option maxRecDepth 100000 in
set_option maxHeartbeats 2000000 in
theorem twin_ins (l : List Hd) (w : World) (s : Value) (hS : InsAt w l s) :
    Calls Tryd.prog 30 #[s] w fun e w' => ∃ s', e = .returned s' ∧ TwIns w' w.heap.size l s' ∧ Below w.heap.size w w' := by
  obtain ⟨ao, cap, rfl, hlen, _, hok, hc⟩ := hS
  have HC := hid hc
  have HO := hid hok
  obtain ⟨i0, hi, hi0, hi1, hi2⟩ := info_parts info44'
  clear hc hok
  go_enter Tryd.func30, Tryd.ntmps30
  go_wp2_with (at_make; refine wpList_make_own w rfl (.const (.int .i64 0)) (.tmp 7) 22 rfl w.heap.size 61 i0 _ 3 Tryd.underlying22 hi hi0 hi1 .i64 .i64 _ (l.length + 1) rfl rfl (by omega) (by rw [hi2]; omega) (by unfold maxLen; omega) (Nat.le_refl _) ?_; intro w1 hown1 hgrow1; have M1 := hid (MkR.start (t := 61) (c := 3) (n := l.length) hown1 hgrow1); clear hown1 hgrow1)
  go_loopw [3, 4] (fun v i wr => ∃ (k : Nat), k ≤ l.length ∧ v = .slice (some ⟨w.heap.size, 0, none⟩) k (l.length + 1) ∧ i = .int .i64 (k : Int) ∧ Hid (MkR w 61 3 l.length ((l.take k).map hdL) wr)) (fun _ i _ => l.length - (intOf i).toNat)
  case atStart => exact ⟨0, Nat.zero_le _, rfl, rfl, by simpa using M1⟩
  case round =>
    obtain ⟨k, hk, rfl, rfl, hM⟩ := hrel
    have hl' : ((l.take k).map hdL).length = k := by simp; omega
    by_cases hlt : k < l.length
    · have hlt' : (k : Int) < (l.length : Int) := by omega
      have hk0 : (0 : Int) ≤ (k : Int) := by omega
      obtain ⟨bb, o, rfl, hcc⟩ := HC.out.resolve_left (by omega)
      obtain ⟨v0, v1, v2⟩ := (hcc k hlt).keep hM.out.below
      have HT : Hid ((l.take (k + 1)).map hdL = (l.take k).map hdL ++ [hdL l[k]]) := hid (by rw [List.take_succ_eq_append_getElem hlt, List.map_append]; rfl)
      have HL := hid hl'
      clear hcc hl'
      generalize l[k] = y at *
      generalize (l.take k).map hdL = es at *
      have M2 := hid (hM.out.step ((Below.refl _ _).alloc (Nat.le_refl _) (.cells #[.string y.name, .int .u8 (y.ty : Int), .int .i64 y.st] 61)))
      have M2r := hid (show _ from by have := M2.out.row; rw [HL.out] at this; exact this)
      have N2 := hid (next_cells wr (hdL y) 61)
      go_wp2_with (at_builtin; refine wpList_append_fits _ rfl (.tmp 15) (.tmp 20) 22 rfl w.heap.size 61 i0 3 Tryd.underlying22 hi hi1 w.heap.size k (l.length + 1) es.flatten rfl M2r.out ⟨wr.heap.size, 0, none⟩ 1 1 (hdL y) rfl rfl N2.out (by simp [Value.oneCell']) (by omega) ?_; intro w4 hown4 hgrow4; have M4 := hid (M2.out.grow HL.out rfl hown4 hgrow4); clear hown4 hgrow4)
      go_roundw
      case rel => exact ⟨k + 1, by omega, rfl, by go_num, hid (by rw [HT.out]; exact M4.out)⟩
      case measure => simp [intOf]; omega
    · have hlt' : ¬ (k : Int) < (l.length : Int) := by omega
      obtain rfl : k = l.length := by omega
      rw [List.take_length] at hM hl'
      have M2 := hid (hM.out.step ((Below.refl _ _).alloc (Nat.le_refl _) (.cells #[.string spare, .int .u8 0, .int .i64 0] 61)))
      have M2r := hid (show _ from by have := M2.out.row; rw [hl'] at this; exact this)
      have N2 := hid (next_cells wr (hdL ⟨spare, 0, 0⟩) 61)
      have HL := hid hl'
      clear hl'
      go_wp2_with (at_builtin; refine wpList_append_fits _ rfl (.tmp 22) (.tmp 24) 22 rfl w.heap.size 61 i0 3 Tryd.underlying22 hi hi1 w.heap.size l.length (l.length + 1) (l.map hdL).flatten rfl M2r.out ⟨wr.heap.size, 0, none⟩ 1 1 (hdL ⟨spare, 0, 0⟩) rfl rfl N2.out (by simp [Value.oneCell']) (by omega) ?_; intro w4 hown4 hgrow4; have C4 := hid (MkR.cells M2.out.each HL.out rfl hown4); have K4 := hid (Blk.of_row hown4); have B4 := hid (M2.out.below.grown hgrow4 M2.out.below.size (fun j hj => by cases hj; exact Nat.le_refl _)); clear hown4 hgrow4)
      go_ret
      refine ⟨_, rfl, ⟨w.heap.size, l.length + 1, rfl, Nat.le_refl _, hlen, by omega, HO.out, fun i hi => ?_, ?_, K4.out⟩, B4.out⟩
      · have he : (l.map hdL)[i]? = some (hdL l[i]) := by rw [List.getElem?_map, List.getElem?_eq_getElem hi]; rfl
        exact ⟨C4.out.1 i _ 0 _ he rfl, C4.out.1 i _ 1 _ he rfl, C4.out.1 i _ 2 _ he rfl⟩
      · exact ⟨C4.out.2 0 _ rfl, C4.out.2 1 _ rfl, C4.out.2 2 _ rfl⟩
abbrev txL (x : ByteArray) : List Value := [.string x]
set_option maxRecDepth 100000 in
set_option maxHeartbeats 2000000 in
theorem twin_texts (l : List ByteArray) (w : World) (s : Value) (hS : TextsAt w l s) :
    Calls Tryd.prog 32 #[s] w fun e w' => ∃ s', e = .returned s' ∧ TwTexts w' w.heap.size l s' ∧ Below w.heap.size w w' := by
  obtain ⟨ao, cap, rfl, hlen, _, hok, hc⟩ := hS
  have HC := hid hc
  have HO := hid hok
  obtain ⟨i0, hi, hi0, hi1, hi2⟩ := info_parts info9'
  clear hc hok
  go_enter Tryd.func32, Tryd.ntmps32
  go_wp2_with (at_make; refine wpList_make_own w rfl (.const (.int .i64 0)) (.tmp 7) 24 rfl w.heap.size 9 i0 _ 1 Tryd.underlying24 hi hi0 hi1 .i64 .i64 _ (l.length + 1) rfl rfl (by omega) (by rw [hi2]; omega) (by unfold maxLen; omega) (Nat.le_refl _) ?_; intro w1 hown1 hgrow1; have M1 := hid (MkR.start (t := 9) (c := 1) (n := l.length) hown1 hgrow1); clear hown1 hgrow1)
  go_loopw [3, 4] (fun v i wr => ∃ (k : Nat), k ≤ l.length ∧ v = .slice (some ⟨w.heap.size, 0, none⟩) k (l.length + 1) ∧ i = .int .i64 (k : Int) ∧ Hid (MkR w 9 1 l.length ((l.take k).map txL) wr)) (fun _ i _ => l.length - (intOf i).toNat)
  case atStart => exact ⟨0, Nat.zero_le _, rfl, rfl, by simpa using M1⟩
  case round =>
    obtain ⟨k, hk, rfl, rfl, hM⟩ := hrel
    have hl' : ((l.take k).map txL).length = k := by simp; omega
    by_cases hlt : k < l.length
    · have hlt' : (k : Int) < (l.length : Int) := by omega
      have hk0 : (0 : Int) ≤ (k : Int) := by omega
      obtain ⟨bb, o, rfl, hcc⟩ := HC.out.resolve_left (by omega)
      have v0 := cell_kept (hcc k hlt) hM.out.below
      have HT : Hid ((l.take (k + 1)).map txL = (l.take k).map txL ++ [txL l[k]]) := hid (by rw [List.take_succ_eq_append_getElem hlt, List.map_append]; rfl)
      have HL := hid hl'
      clear hcc hl'
      generalize l[k] = y at *
      generalize (l.take k).map txL = es at *
      have M2 := hid (hM.out.step ((Below.refl _ _).alloc (Nat.le_refl _) (.cells #[.string y] 9)))
      have M2r := hid (show _ from by have := M2.out.row; rw [HL.out] at this; exact this)
      have N2 := hid (next_cells wr (txL y) 9)
      go_wp2_with (at_builtin; refine wpList_append_fits _ rfl (.tmp 15) (.tmp 20) 24 rfl w.heap.size 9 i0 1 Tryd.underlying24 hi hi1 w.heap.size k (l.length + 1) es.flatten rfl M2r.out ⟨wr.heap.size, 0, none⟩ 1 1 (txL y) rfl rfl N2.out (by simp [Value.oneCell']) (by omega) ?_; intro w4 hown4 hgrow4; have M4 := hid (M2.out.grow HL.out rfl hown4 hgrow4); clear hown4 hgrow4)
      go_roundw
      case rel => exact ⟨k + 1, by omega, rfl, by go_num, hid (by rw [HT.out]; exact M4.out)⟩
      case measure => simp [intOf]; omega
    · have hlt' : ¬ (k : Int) < (l.length : Int) := by omega
      obtain rfl : k = l.length := by omega
      rw [List.take_length] at hM hl'
      have M2 := hid (hM.out.step ((Below.refl _ _).alloc (Nat.le_refl _) (.cells #[.string spare] 9)))
      have M2r := hid (show _ from by have := M2.out.row; rw [hl'] at this; exact this)
      have N2 := hid (next_cells wr (txL spare) 9)
      have HL := hid hl'
      clear hl'
      go_wp2_with (at_builtin; refine wpList_append_fits _ rfl (.tmp 22) (.tmp 23) 24 rfl w.heap.size 9 i0 1 Tryd.underlying24 hi hi1 w.heap.size l.length (l.length + 1) (l.map txL).flatten rfl M2r.out ⟨wr.heap.size, 0, none⟩ 1 1 (txL spare) rfl rfl N2.out (by simp [Value.oneCell']) (by omega) ?_; intro w4 hown4 hgrow4; have C4 := hid (MkR.cells M2.out.each HL.out rfl hown4); have K4 := hid (Blk.of_row hown4); have B4 := hid (M2.out.below.grown hgrow4 M2.out.below.size (fun j hj => by cases hj; exact Nat.le_refl _)); clear hown4 hgrow4)
      go_ret
      refine ⟨_, rfl, ⟨w.heap.size, l.length + 1, rfl, Nat.le_refl _, hlen, by omega, HO.out, fun i hi => ?_, ?_, K4.out⟩, B4.out⟩
      · have he : (l.map txL)[i]? = some (txL l[i]) := by rw [List.getElem?_map, List.getElem?_eq_getElem hi]; rfl
        simpa using C4.out.1 i _ 0 _ he rfl
      · simpa using C4.out.2 0 _ rfl
end Go.Proofs.YtjdlmhkfaodkgaaDoor.Lex
namespace Go.Proofs.YtjdlmhkfaodkgaaDoor.Lex
open Go.ChangeShapes Go.WideShapes Go.ChangeAt Go.RowKit Go.Joins
theorem info50 : (Tryd.prog.info? 51).map (·.size) = some 8 := by kernel_rfl
theorem info50' : (Tryd.prog.info? 51).map (fun i => (i.zero, i.size, i.bytes)) = some (some (.agg #[.string ByteArray.empty, .int .u8 0, .int .i64 0, .int .i64 0, .int .u8 0, .int .i64 0, .string ByteArray.empty, .slice none 0 0]), 8, 96) := by kernel_rfl
set_option maxRecDepth 100000 in
set_option maxHeartbeats 1000000 in
theorem twin_flow (x : Fl) (w : World) (s : Value) (hS : St w x.body s) :
    Calls Tryd.prog 50 #[flV x s] w fun e w' => ∃ s', e = .returned (flV x s') ∧ Tw w' w.heap.size x.body s' ∧ Below w.heap.size w w' := by
  obtain ⟨ao, cap, sl, rfl, _⟩ := hS.out
  have b1 := (Below.refl w.heap.size w).alloc (Nat.le_refl _) (.cells #[.string x.name, .int .u8 (x.ty : Int), .int .i64 x.st, .int .i64 x.df, .int .u8 (x.body.op : Int), .int .i64 x.body.n, .string x.body.name, .slice ao x.body.args.length cap] 51)
  have b2 := bstep b1 ((Below.refl _ _).alloc (Nat.le_refl _) (.cells #[.string ByteArray.empty, .int .u8 0, .int .i64 0, .int .i64 0, .int .u8 0, .int .i64 0, .string ByteArray.empty, .slice none 0 0] 51))
  have c := fun W (hb : Below w.heap.size w W) => twin_any _ x.body (Nat.le_refl _) W _ (hS.keep hb)
  have H2 := hid b2
  have B0 := box_first w #[.string x.name, .int .u8 (x.ty : Int), .int .i64 x.st, .int .i64 x.df, .int .u8 (x.body.op : Int), .int .i64 x.body.n, .string x.body.name, .slice ao x.body.args.length cap] #[.string ByteArray.empty, .int .u8 0, .int .i64 0, .int .i64 0, .int .u8 0, .int .i64 0, .string ByteArray.empty, .slice none 0 0] 51
  clear hS b1 b2
  go_enter Tryd.func50, Tryd.ntmps50
  go_wp2
  refine wp_region_held_drew (S := fun W => W.cell? ⟨w.heap.size, 0, none⟩ = some (.string x.name) ∧ W.cell? ⟨w.heap.size, 1, none⟩ = some (.int .u8 (x.ty : Int)) ∧ W.cell? ⟨w.heap.size, 2, none⟩ = some (.int .i64 x.st) ∧ W.cell? ⟨w.heap.size, 3, none⟩ = some (.int .i64 x.df) ∧ W.cell? ⟨w.heap.size, 4, none⟩ = some (.int .u8 (x.body.op : Int)) ∧ W.cell? ⟨w.heap.size, 5, none⟩ = some (.int .i64 x.body.n) ∧ W.cell? ⟨w.heap.size, 6, none⟩ = some (.string x.body.name) ∧ W.cell? ⟨w.heap.size, 7, none⟩ = some (.slice ao x.body.args.length cap)) (by kernel_rfl) ?_ (fun hHeld => ?_)
  · exact ⟨B0 0 _ rfl, B0 1 _ rfl, B0 2 _ rfl, B0 3 _ rfl, B0 4 _ rfl, B0 5 _ rfl, B0 6 _ rfl, B0 7 _ rfl⟩
  refine wpAnyH_take (i := 0) (oi := { dst := some 3, op := Go.Op.fieldAddr 51 (Go.Operand.tmp 1) 0, type := 0, pos := _, after := #[], guard := none }) (v := ?_) rfl (by kernel_rfl) (by kernel_rfl) (by kernel_rfl) (fun _ _ _ h => h) (Or.inl ⟨by rfl, ?_⟩) (by assumption) ?_
  rotate_left
  · intro w hSw; (try dsimp only at hSw); go_simp <;> first | with_reducible rfl | (rw [if_neg (by first | omega | (simp only [ByteArray.size_append] at *; omega))])
  simp only [Act.put, List.setIfInBounds_toArray, List.set_cons_zero, List.set_cons_succ]
  refine wpAnyH_take (i := 1) (oi := { dst := some 4, op := Go.Op.load 9 (Go.Operand.tmp 3), type := 9, pos := _, after := #[{ on := 0, ground := Go.Ground.data }], guard := none }) (v := ?_) rfl (by kernel_rfl) (by kernel_rfl) (by kernel_rfl) (fun _ _ _ h => h) (Or.inl ⟨by rfl, ?_⟩) (by assumption) ?_
  rotate_left
  · intro w hSw; (try dsimp only at hSw); go_simp <;> first | with_reducible rfl | (rw [if_neg (by first | omega | (simp only [ByteArray.size_append] at *; omega))])
  simp only [Act.put, List.setIfInBounds_toArray, List.set_cons_zero, List.set_cons_succ]
  refine wpAnyH_take (i := 2) (oi := { dst := some 5, op := Go.Op.fieldAddr 51 (Go.Operand.tmp 1) 1, type := 0, pos := _, after := #[], guard := none }) (v := ?_) rfl (by kernel_rfl) (by kernel_rfl) (by kernel_rfl) (fun _ _ _ h => h) (Or.inl ⟨by rfl, ?_⟩) (by assumption) ?_
  rotate_left
  · intro w hSw; (try dsimp only at hSw); go_simp <;> first | with_reducible rfl | (rw [if_neg (by first | omega | (simp only [ByteArray.size_append] at *; omega))])
  simp only [Act.put, List.setIfInBounds_toArray, List.set_cons_zero, List.set_cons_succ]
  refine wpAnyH_take (i := 3) (oi := { dst := some 6, op := Go.Op.load 43 (Go.Operand.tmp 5), type := 43, pos := _, after := #[{ on := 2, ground := Go.Ground.data }], guard := none }) (v := ?_) rfl (by kernel_rfl) (by kernel_rfl) (by kernel_rfl) (fun _ _ _ h => h) (Or.inl ⟨by rfl, ?_⟩) (by assumption) ?_
  rotate_left
  · intro w hSw; (try dsimp only at hSw); go_simp <;> first | with_reducible rfl | (rw [if_neg (by first | omega | (simp only [ByteArray.size_append] at *; omega))])
  simp only [Act.put, List.setIfInBounds_toArray, List.set_cons_zero, List.set_cons_succ]
  refine wpAnyH_take (i := 4) (oi := { dst := some 7, op := Go.Op.fieldAddr 51 (Go.Operand.tmp 1) 2, type := 0, pos := _, after := #[], guard := none }) (v := ?_) rfl (by kernel_rfl) (by kernel_rfl) (by kernel_rfl) (fun _ _ _ h => h) (Or.inl ⟨by rfl, ?_⟩) (by assumption) ?_
  rotate_left
  · intro w hSw; (try dsimp only at hSw); go_simp <;> first | with_reducible rfl | (rw [if_neg (by first | omega | (simp only [ByteArray.size_append] at *; omega))])
  simp only [Act.put, List.setIfInBounds_toArray, List.set_cons_zero, List.set_cons_succ]
  refine wpAnyH_take (i := 5) (oi := { dst := some 8, op := Go.Op.load 3 (Go.Operand.tmp 7), type := 3, pos := _, after := #[{ on := 4, ground := Go.Ground.data }], guard := none }) (v := ?_) rfl (by kernel_rfl) (by kernel_rfl) (by kernel_rfl) (fun _ _ _ h => h) (Or.inl ⟨by rfl, ?_⟩) (by assumption) ?_
  rotate_left
  · intro w hSw; (try dsimp only at hSw); go_simp <;> first | with_reducible rfl | (rw [if_neg (by first | omega | (simp only [ByteArray.size_append] at *; omega))])
  simp only [Act.put, List.setIfInBounds_toArray, List.set_cons_zero, List.set_cons_succ]
  refine wpAnyH_take (i := 6) (oi := { dst := some 9, op := Go.Op.fieldAddr 51 (Go.Operand.tmp 1) 3, type := 0, pos := _, after := #[], guard := none }) (v := ?_) rfl (by kernel_rfl) (by kernel_rfl) (by kernel_rfl) (fun _ _ _ h => h) (Or.inl ⟨by rfl, ?_⟩) (by assumption) ?_
  rotate_left
  · intro w hSw; (try dsimp only at hSw); go_simp <;> first | with_reducible rfl | (rw [if_neg (by first | omega | (simp only [ByteArray.size_append] at *; omega))])
  simp only [Act.put, List.setIfInBounds_toArray, List.set_cons_zero, List.set_cons_succ]
  refine wpAnyH_take (i := 7) (oi := { dst := some 10, op := Go.Op.load 2 (Go.Operand.tmp 9), type := 2, pos := _, after := #[{ on := 6, ground := Go.Ground.data }], guard := none }) (v := ?_) rfl (by kernel_rfl) (by kernel_rfl) (by kernel_rfl) (fun _ _ _ h => h) (Or.inl ⟨by rfl, ?_⟩) (by assumption) ?_
  rotate_left
  · intro w hSw; (try dsimp only at hSw); go_simp <;> first | with_reducible rfl | (rw [if_neg (by first | omega | (simp only [ByteArray.size_append] at *; omega))])
  simp only [Act.put, List.setIfInBounds_toArray, List.set_cons_zero, List.set_cons_succ]
  refine wpAnyH_take (i := 8) (oi := { dst := some 11, op := Go.Op.fieldAddr 51 (Go.Operand.tmp 1) 4, type := 0, pos := _, after := #[], guard := none }) (v := ?_) rfl (by kernel_rfl) (by kernel_rfl) (by kernel_rfl) (fun _ _ _ h => h) (Or.inl ⟨by rfl, ?_⟩) (by assumption) ?_
  rotate_left
  · intro w hSw; (try dsimp only at hSw); go_simp <;> first | with_reducible rfl | (rw [if_neg (by first | omega | (simp only [ByteArray.size_append] at *; omega))])
  simp only [Act.put, List.setIfInBounds_toArray, List.set_cons_zero, List.set_cons_succ]
  refine wpAnyH_take (i := 9) (oi := { dst := some 12, op := Go.Op.load 49 (Go.Operand.tmp 11), type := 49, pos := _, after := #[{ on := 8, ground := Go.Ground.data }], guard := none }) (v := ?_) rfl (by kernel_rfl) (by kernel_rfl) (by kernel_rfl) (fun _ _ _ h => h) (Or.inl ⟨by rfl, ?_⟩) (by assumption) ?_
  rotate_left
  · intro w hSw; (try dsimp only at hSw); go_simp <;> first | with_reducible rfl | (rw [if_neg (by first | omega | (simp only [ByteArray.size_append] at *; omega))])
  simp only [Act.put, List.setIfInBounds_toArray, List.set_cons_zero, List.set_cons_succ]
  refine wpAnyH_ready (rs := [10]) (by kernel_rfl) (by simp) ?_
  refine AllReadyH.cons (o := { dst := some 13, op := Go.Op.call { callee := Go.Callee.value (Go.Operand.func 59), args := #[Go.Operand.tmp 12], argTypes := #[49] }, type := 49, pos := _, after := #[{ on := 9, ground := Go.Ground.data }], guard := none }) rfl (fun K hK => ?_) AllReadyH.nil
  go_simp
  refine (c _ H2.out.drew).mono ?_
  rintro e w3 ⟨s3, rfl, ht3, hb3⟩
  obtain ⟨t3, c3, _, rfl, _⟩ := ht3.st.out
  obtain ⟨p1, p2, p3⟩ := two_boxes w w3 _ _ 51 hb3
  go_wp2_with fail
  refine hK.out _ _ ?_ (fun hHeld1 => ?_)
  · exact ⟨p1 0 _ rfl, p1 1 _ rfl, p1 2 _ rfl, p1 3 _ rfl, p1 4 _ rfl, p1 5 _ rfl, p1 6 _ rfl, p1 7 _ rfl⟩
  clear hK K
  refine wpAnyH_take (i := 11) (oi := { dst := some 14, op := Go.Op.build 51 #[(0, Go.Operand.tmp 4), (1, Go.Operand.tmp 6), (2, Go.Operand.tmp 8), (3, Go.Operand.tmp 10), (4, Go.Operand.tmp 13)], type := 51, pos := _, after := #[{ on := 1, ground := Go.Ground.data }, { on := 3, ground := Go.Ground.data }, { on := 5, ground := Go.Ground.data }, { on := 7, ground := Go.Ground.data }, { on := 10, ground := Go.Ground.data }], guard := none }) (v := ?_) rfl (by kernel_rfl) (by kernel_rfl) (by kernel_rfl) (fun _ _ _ h => h) (Or.inl ⟨by rfl, ?_⟩) (by assumption) ?_
  rotate_left
  · intro w hSw; (try dsimp only at hSw); go_simp <;> first | with_reducible rfl | (rw [if_neg (by first | omega | (simp only [ByteArray.size_append] at *; omega))])
  simp only [Act.put, List.setIfInBounds_toArray, List.set_cons_zero, List.set_cons_succ]
  refine wpAnyH_ready (rs := [12]) (by kernel_rfl) (by simp) ?_
  refine AllReadyH.cons (o := { dst := none, op := Go.Op.store 51 (Go.Operand.tmp 2) (Go.Operand.tmp 14), type := 0, pos := _, after := #[{ on := 11, ground := Go.Ground.data }, { on := 10, ground := Go.Ground.chain }, { on := 0, ground := Go.Ground.phase }, { on := 1, ground := Go.Ground.phase }, { on := 2, ground := Go.Ground.phase }, { on := 3, ground := Go.Ground.phase }, { on := 4, ground := Go.Ground.phase }, { on := 5, ground := Go.Ground.phase }, { on := 6, ground := Go.Ground.phase }, { on := 7, ground := Go.Ground.phase }, { on := 8, ground := Go.Ground.phase }, { on := 9, ground := Go.Ground.phase }, { on := 10, ground := Go.Ground.phase }, { on := 11, ground := Go.Ground.phase }], guard := none }) rfl (fun K hK => ?_) AllReadyH.nil
  refine if_take (by rfl) ?_
  refine wp_store_row 51 _ _ rfl (w.heap.size + 1) #[.string x.name, .int .u8 (x.ty : Int), .int .i64 x.st, .int .i64 x.df, .int .u8 (x.body.op : Int), .int .i64 x.body.n, .string x.body.name, .slice t3 x.body.args.length c3] rfl rfl 51 _ p3 info50 rfl (by simp [Value.oneCell']) ?_
  refine hK.out _ _ ?_ (fun _ => ?_)
  · have hne : w.heap.size ≠ w.heap.size + 1 := by omega
    have kk : ∀ j v, w3.cell? ⟨w.heap.size, j, none⟩ = some v → (w3.setRow (w.heap.size + 1) #[.string x.name, .int .u8 (x.ty : Int), .int .i64 x.st, .int .i64 x.df, .int .u8 (x.body.op : Int), .int .i64 x.body.n, .string x.body.name, .slice t3 x.body.args.length c3]).cell? ⟨w.heap.size, j, none⟩ = some v := fun j v h => by
      rw [World.cell?_of_block (w := w3) (a := ⟨w.heap.size, j, none⟩) (setRow_other w3 _ _ _ hne)]
      exact h
    exact ⟨kk _ _ (p1 0 _ rfl), kk _ _ (p1 1 _ rfl), kk _ _ (p1 2 _ rfl), kk _ _ (p1 3 _ rfl), kk _ _ (p1 4 _ rfl), kk _ _ (p1 5 _ rfl), kk _ _ (p1 6 _ rfl), kk _ _ (p1 7 _ rfl)⟩
  clear hK K
  refine wpAnyH_done (by kernel_rfl) ?_ _
  go_wp2
  refine bodyPost_ret (results_cell_row rfl _ _ (w.heap.size + 1) 51 #[.string x.name, .int .u8 (x.ty : Int), .int .i64 x.st, .int .i64 x.df, .int .u8 (x.body.op : Int), .int .i64 x.body.n, .string x.body.name, .slice t3 x.body.args.length c3] (0, 0) _ rfl (setRow_heap _ _ _ _ _ _ p3) Tryd.underlying51 rfl info50) rfl ⟨_, rfl, ?_, ?_⟩
  · have hlo : w.heap.size + 2 ≤ (((w.alloc (.cells #[.string x.name, .int .u8 (x.ty : Int), .int .i64 x.st, .int .i64 x.df, .int .u8 (x.body.op : Int), .int .i64 x.body.n, .string x.body.name, .slice ao x.body.args.length cap] 51)).alloc (.cells #[.string ByteArray.empty, .int .u8 0, .int .i64 0, .int .i64 0, .int .u8 0, .int .i64 0, .string ByteArray.empty, .slice none 0 0] 51)).drew).heap.size := by simp
    exact (ht3.carry fun b hb _ => setRow_other w3 _ _ _ (by have := hb; omega)).low (by omega)
  · exact below_row (bstep H2.out.drew hb3) (by have := (bstep H2.out.drew hb3).size; omega) (by omega) _
/-- While the flows' row is made. -/
structure MkF (w : World) (l : List Fl) (k : Nat) (ps : List (Fl × Value)) (W : World) : Prop where
  made : MkR w 51 8 l.length (ps.map fun (p : Fl × Value) => flL p.1 p.2) W
  len : ps.length = k
  fst : ps.map (·.1) = l.take k
  parts : ∀ p ∈ ps, Tw W (w.heap.size + 1) p.1.body p.2
theorem MkF.step {w W W' : World} {l : List Fl} {k : Nat} {ps : List (Fl × Value)} (h : MkF w l k ps W) (hb : Below W.heap.size W W') : MkF w l k ps W' :=
  ⟨h.made.step hb, h.len, h.fst, fun p hp => (h.parts p hp).keep hb⟩
theorem MkF.row {w W : World} {l : List Fl} {k : Nat} {ps : List (Fl × Value)} (h : MkF w l k ps W) : W.ownsRow w.heap.size 51 8 (.slice (some ⟨w.heap.size, 0, none⟩) k (l.length + 1)) k (ps.map fun (p : Fl × Value) => flL p.1 p.2).flatten := by
  have := h.made.row
  rwa [List.length_map, h.len] at this
theorem MkF.grow {w W W' : World} {l : List Fl} {k : Nat} {ps : List (Fl × Value)} {y : Fl} {s : Value} (h : MkF w l k ps W) (hk : k < l.length) (hy : l[k] = y) (hT : Tw W (w.heap.size + 1) y.body s)
    (hr : W'.ownsRow w.heap.size 51 8 (.slice (some ⟨w.heap.size, 0, none⟩) (k + 1) (l.length + 1)) (k + 1) ((ps.map fun (p : Fl × Value) => flL p.1 p.2).flatten ++ flL y s)) (hg : W.grownBy W' (some w.heap.size)) : MkF w l (k + 1) (ps ++ [(y, s)]) W' where
  made := by
    have := h.made.grow (by rw [List.length_map, h.len]) rfl hr hg
    simpa using this
  len := by simp [h.len]
  fst := by rw [List.map_append, h.fst, List.take_succ_eq_append_getElem hk, hy]; rfl
  parts := fun p hp => by
    rcases List.mem_append.1 hp with hp | hp
    · exact (h.parts p hp).grown hg (by omega)
    · rw [List.mem_singleton.1 hp]; exact hT.grown hg (by omega)
theorem MkF.done {w W W' : World} {l : List Fl} {ps : List (Fl × Value)} (h : MkF w l l.length ps W) (hlen : l.length ≤ 1466015503658) (hok : ∀ x ∈ l, x.ok)
    (hr : W'.ownsRow w.heap.size 51 8 (.slice (some ⟨w.heap.size, 0, none⟩) (l.length + 1) (l.length + 1)) (l.length + 1) ((ps.map fun (p : Fl × Value) => flL p.1 p.2).flatten ++ flL spareFl (.slice none 0 0))) (hg : W.grownBy W' (some w.heap.size)) :
    TwFlows W' w.heap.size l (.slice (some ⟨w.heap.size, 0, none⟩) l.length (l.length + 1)) := by
  have hl := h.len
  have hf : ps.map (·.1) = l := by rw [h.fst, List.take_length]
  have hfst : ∀ i (hi : i < ps.length), ps[i].1 = l[i]'(by omega) := fun i hi => by
    have : (ps.map (·.1))[i]'(by simpa using hi) = l[i]'(by omega) := by simp only [hf]
    simpa using this
  obtain ⟨C1, C2⟩ := MkR.cells h.made.each (by rw [List.length_map, hl]) rfl hr
  refine ⟨w.heap.size, l.length + 1, fun i => (ps[i]?.map (·.2)).getD (.slice none 0 0), rfl, Nat.le_refl _, hlen, by omega, hok, fun i hi => ?_, ?_, fun i hi => ?_, ?_⟩
  · have hip : i < ps.length := by omega
    have he : (ps.map fun (p : Fl × Value) => flL p.1 p.2)[i]? = some (flL l[i] ps[i].2) := by rw [List.getElem?_map, List.getElem?_eq_getElem hip, Option.map_some, hfst i hip]
    dsimp only
    rw [List.getElem?_eq_getElem hip]
    exact ⟨C1 i _ 0 _ he rfl, C1 i _ 1 _ he rfl, C1 i _ 2 _ he rfl, C1 i _ 3 _ he rfl, C1 i _ 4 _ he rfl, C1 i _ 5 _ he rfl, C1 i _ 6 _ he rfl, C1 i _ 7 _ he rfl⟩
  · exact ⟨C2 0 _ rfl, C2 1 _ rfl, C2 2 _ rfl, C2 3 _ rfl, C2 4 _ rfl, C2 5 _ rfl, C2 6 _ rfl, C2 7 _ rfl⟩
  · have hip : i < ps.length := by omega
    have := (h.parts ps[i] (List.getElem_mem hip)).grown hg (by omega)
    rw [hfst i hip] at this
    dsimp only
    rw [List.getElem?_eq_getElem hip]
    exact this
  · exact Blk.of_row hr
set_option maxRecDepth 100000 in
set_option maxHeartbeats 2000000 in
theorem twin_flows (l : List Fl) (w : World) (s : Value) (hS : FlowsAt w l s) :
    Calls Tryd.prog 31 #[s] w fun e w' => ∃ s', e = .returned s' ∧ TwFlows w' w.heap.size l s' ∧ Below w.heap.size w w' := by
  obtain ⟨ao, cap, sl, rfl, hlen, _, hok, hc, hs⟩ := hS
  have HC := hid hc
  have HO := hid hok
  have HS := hid hs
  obtain ⟨i0, hi, hi0, hi1, hi2⟩ := info_parts info50'
  clear hc hok hs
  go_enter Tryd.func31, Tryd.ntmps31
  go_wp2_with (at_make; refine wpList_make_own w rfl (.const (.int .i64 0)) (.tmp 7) 23 rfl w.heap.size 51 i0 _ 8 Tryd.underlying23 hi hi0 hi1 .i64 .i64 _ (l.length + 1) rfl rfl (by omega) (by rw [hi2]; omega) (by unfold maxLen; omega) (Nat.le_refl _) ?_; intro w1 hown1 hgrow1; have M1 := hid (MkR.start (t := 51) (c := 8) (n := l.length) hown1 hgrow1); clear hown1 hgrow1)
  go_loopw [3, 4] (fun v i wr => ∃ (k : Nat) (ps : List (Fl × Value)), k ≤ l.length ∧ v = .slice (some ⟨w.heap.size, 0, none⟩) k (l.length + 1) ∧ i = .int .i64 (k : Int) ∧ Hid (MkF w l k ps wr)) (fun _ i _ => l.length - (intOf i).toNat)
  case atStart => exact ⟨0, [], Nat.zero_le _, rfl, rfl, hid ⟨M1.out, rfl, rfl, fun p hp => by cases hp⟩⟩
  case round =>
    obtain ⟨k, ps, hk, rfl, rfl, hM⟩ := hrel
    by_cases hlt : k < l.length
    · have hlt' : (k : Int) < (l.length : Int) := by omega
      have hk0 : (0 : Int) ≤ (k : Int) := by omega
      obtain ⟨bb, o, rfl, hcc⟩ := HC.out.resolve_left (by omega)
      have F := (hcc k hlt).keep hM.out.made.below
      have c := twin_flow l[k] wr (sl k) ((HS.out k hlt).keep hM.out.made.below)
      obtain ⟨y, hy⟩ : ∃ y, l[k] = y := ⟨_, rfl⟩
      rw [hy] at F c
      obtain ⟨v0, v1, v2, v3, v4, v5, v6, v7⟩ := F
      have HY := hid hy
      clear hcc hy
      go_wp2_with (first
        | (go_at_call 50; refine c.mono ?_; rintro e w2 ⟨s2, rfl, ht2, hb2⟩; obtain ⟨b2, c2, _, rfl, _⟩ := ht2.st.out; have T2 := hid (ht2.keep ((Below.refl _ _).alloc (Nat.le_refl _) (.cells #[.string y.name, .int .u8 (y.ty : Int), .int .i64 y.st, .int .i64 y.df, .int .u8 (y.body.op : Int), .int .i64 y.body.n, .string y.body.name, .slice b2 y.body.args.length c2] 51))); have M2 := hid ((hM.out.step hb2).step ((Below.refl _ _).alloc (Nat.le_refl _) (.cells #[.string y.name, .int .u8 (y.ty : Int), .int .i64 y.st, .int .i64 y.df, .int .u8 (y.body.op : Int), .int .i64 y.body.n, .string y.body.name, .slice b2 y.body.args.length c2] 51))); have N2 := hid (next_cells w2 (flL y (.slice b2 y.body.args.length c2)) 51); have SZ := hid hM.out.made.size; clear c ht2 hb2)
        | (at_builtin; refine wpList_append_fits _ rfl (.tmp 15) (.tmp 21) 23 rfl w.heap.size 51 i0 8 Tryd.underlying23 hi hi1 w.heap.size k (l.length + 1) (ps.map fun (p : Fl × Value) => flL p.1 p.2).flatten rfl M2.out.row ⟨w2.heap.size, 0, none⟩ 1 1 (flL y (.slice b2 y.body.args.length c2)) rfl rfl N2.out (by simp [Value.oneCell']) (by omega) ?_; intro w4 hown4 hgrow4; have M4 := hid (M2.out.grow hlt HY.out (T2.out.low (by have := SZ.out; omega)) hown4 hgrow4); clear hown4 hgrow4))
      go_roundw
      case rel => exact ⟨k + 1, _, by omega, rfl, by go_num, M4⟩
      case measure => simp [intOf]; omega
    · have hlt' : ¬ (k : Int) < (l.length : Int) := by omega
      obtain rfl : k = l.length := by omega
      have M2 := hid (hM.out.step ((Below.refl _ _).alloc (Nat.le_refl _) (.cells #[.string spare, .int .u8 0, .int .i64 0, .int .i64 0, .int .u8 0, .int .i64 0, .string ⟨#[]⟩, .slice none 0 0] 51)))
      have N2 := hid (next_cells wr (flL spareFl (.slice none 0 0)) 51)
      go_wp2_with (at_builtin; refine wpList_append_fits _ rfl (.tmp 23) (.tmp 25) 23 rfl w.heap.size 51 i0 8 Tryd.underlying23 hi hi1 w.heap.size l.length (l.length + 1) (ps.map fun (p : Fl × Value) => flL p.1 p.2).flatten rfl M2.out.row ⟨wr.heap.size, 0, none⟩ 1 1 (flL spareFl (.slice none 0 0)) rfl rfl N2.out (by simp [Value.oneCell']) (by omega) ?_; intro w4 hown4 hgrow4; have T4 := hid (M2.out.done hlen HO.out hown4 hgrow4); have B4 := hid (M2.out.made.below.grown hgrow4 M2.out.made.below.size (fun j hj => by cases hj; exact Nat.le_refl _)); clear hown4 hgrow4)
      go_ret
      exact ⟨_, rfl, T4.out, B4.out⟩
end Go.Proofs.YtjdlmhkfaodkgaaDoor.Lex
namespace Go.Proofs.YtjdlmhkfaodkgaaDoor.Lex
open Go.ChangeShapes Go.WideShapes Go.ChangeAt Go.RowKit Go.Joins
theorem info26 : (Tryd.prog.info? 26).map (·.size) = some 4 := by kernel_rfl
/-- The first row lies ahead of the second one. -/
def Ord2 (a b : Value) : Prop := ∀ i n c j m d, a = .slice (some ⟨i, 0, none⟩) n c → b = .slice (some ⟨j, 0, none⟩) m d → i < j
set_option maxRecDepth 100000 in
set_option maxHeartbeats 1000000 in
theorem twin_prog2 (p : Pg) (w : World) (a b c : Value) (hP : PgAt w p a b c) :
    Calls Tryd.prog 19 #[pgV p a b c] w fun e w' => ∃ a' b' c', e = .returned (pgV p a' b' c') ∧ TwPg w' w.heap.size p a' b' c' ∧ Below w.heap.size w w' ∧ Ord2 a' b' := by
  obtain ⟨a0, a1, rfl, _⟩ := hP.ins
  obtain ⟨b0, b1, _, rfl, _⟩ := hP.flows
  obtain ⟨c0, c1, rfl, _⟩ := hP.outs
  have P0 := hid hP
  have H2 := hid (bstep ((Below.refl w.heap.size w).alloc (Nat.le_refl _) (.cells (pgC p (.slice a0 p.ins.length a1) (.slice b0 p.flows.length b1) (.slice c0 p.outs.length c1)) 26)) ((Below.refl _ _).alloc (Nat.le_refl _) (.cells #[.int .i64 0, .slice none 0 0, .slice none 0 0, .slice none 0 0] 26)))
  have B0 := box_first w (pgC p (.slice a0 p.ins.length a1) (.slice b0 p.flows.length b1) (.slice c0 p.outs.length c1)) #[.int .i64 0, .slice none 0 0, .slice none 0 0, .slice none 0 0] 26
  clear hP
  go_enter Tryd.func19, Tryd.ntmps19
  go_wp2
  refine wp_region_held_drew (S := fun W => W.cell? ⟨w.heap.size, 0, none⟩ = some (.int .i64 p.st) ∧ W.cell? ⟨w.heap.size, 1, none⟩ = some (.slice a0 p.ins.length a1) ∧ W.cell? ⟨w.heap.size, 2, none⟩ = some (.slice b0 p.flows.length b1) ∧ W.cell? ⟨w.heap.size, 3, none⟩ = some (.slice c0 p.outs.length c1)) (by kernel_rfl) ?_ (fun hHeld => ?_)
  · exact ⟨B0 0 _ rfl, B0 1 _ rfl, B0 2 _ rfl, B0 3 _ rfl⟩
  refine wpAnyH_take (i := 0) (oi := { dst := some 3, op := Go.Op.fieldAddr 26 (Go.Operand.tmp 1) 0, type := 0, pos := _, after := #[], guard := none }) (v := ?_) rfl (by kernel_rfl) (by kernel_rfl) (by kernel_rfl) (fun _ _ _ h => h) (Or.inl ⟨by rfl, ?_⟩) (by assumption) ?_
  rotate_left
  · intro w hSw; (try dsimp only at hSw); go_simp <;> first | with_reducible rfl | (rw [if_neg (by first | omega | (simp only [ByteArray.size_append] at *; omega))])
  simp only [Act.put, List.setIfInBounds_toArray, List.set_cons_zero, List.set_cons_succ]
  refine wpAnyH_take (i := 1) (oi := { dst := some 4, op := Go.Op.load 3 (Go.Operand.tmp 3), type := 3, pos := _, after := #[{ on := 0, ground := Go.Ground.data }], guard := none }) (v := ?_) rfl (by kernel_rfl) (by kernel_rfl) (by kernel_rfl) (fun _ _ _ h => h) (Or.inl ⟨by rfl, ?_⟩) (by assumption) ?_
  rotate_left
  · intro w hSw; (try dsimp only at hSw); go_simp <;> first | with_reducible rfl | (rw [if_neg (by first | omega | (simp only [ByteArray.size_append] at *; omega))])
  simp only [Act.put, List.setIfInBounds_toArray, List.set_cons_zero, List.set_cons_succ]
  refine wpAnyH_take (i := 2) (oi := { dst := some 5, op := Go.Op.fieldAddr 26 (Go.Operand.tmp 1) 1, type := 0, pos := _, after := #[], guard := none }) (v := ?_) rfl (by kernel_rfl) (by kernel_rfl) (by kernel_rfl) (fun _ _ _ h => h) (Or.inl ⟨by rfl, ?_⟩) (by assumption) ?_
  rotate_left
  · intro w hSw; (try dsimp only at hSw); go_simp <;> first | with_reducible rfl | (rw [if_neg (by first | omega | (simp only [ByteArray.size_append] at *; omega))])
  simp only [Act.put, List.setIfInBounds_toArray, List.set_cons_zero, List.set_cons_succ]
  refine wpAnyH_take (i := 3) (oi := { dst := some 6, op := Go.Op.load 22 (Go.Operand.tmp 5), type := 22, pos := _, after := #[{ on := 2, ground := Go.Ground.data }], guard := none }) (v := ?_) rfl (by kernel_rfl) (by kernel_rfl) (by kernel_rfl) (fun _ _ _ h => h) (Or.inl ⟨by rfl, ?_⟩) (by assumption) ?_
  rotate_left
  · intro w hSw; (try dsimp only at hSw); go_simp <;> first | with_reducible rfl | (rw [if_neg (by first | omega | (simp only [ByteArray.size_append] at *; omega))])
  simp only [Act.put, List.setIfInBounds_toArray, List.set_cons_zero, List.set_cons_succ]
  refine wpAnyH_take (i := 5) (oi := { dst := some 8, op := Go.Op.fieldAddr 26 (Go.Operand.tmp 1) 2, type := 0, pos := _, after := #[], guard := none }) (v := ?_) rfl (by kernel_rfl) (by kernel_rfl) (by kernel_rfl) (fun _ _ _ h => h) (Or.inl ⟨by rfl, ?_⟩) (by assumption) ?_
  rotate_left
  · intro w hSw; (try dsimp only at hSw); go_simp <;> first | with_reducible rfl | (rw [if_neg (by first | omega | (simp only [ByteArray.size_append] at *; omega))])
  simp only [Act.put, List.setIfInBounds_toArray, List.set_cons_zero, List.set_cons_succ]
  refine wpAnyH_take (i := 6) (oi := { dst := some 9, op := Go.Op.load 23 (Go.Operand.tmp 8), type := 23, pos := _, after := #[{ on := 5, ground := Go.Ground.data }], guard := none }) (v := ?_) rfl (by kernel_rfl) (by kernel_rfl) (by kernel_rfl) (fun _ _ _ h => h) (Or.inl ⟨by rfl, ?_⟩) (by assumption) ?_
  rotate_left
  · intro w hSw; (try dsimp only at hSw); go_simp <;> first | with_reducible rfl | (rw [if_neg (by first | omega | (simp only [ByteArray.size_append] at *; omega))])
  simp only [Act.put, List.setIfInBounds_toArray, List.set_cons_zero, List.set_cons_succ]
  refine wpAnyH_take (i := 8) (oi := { dst := some 11, op := Go.Op.fieldAddr 26 (Go.Operand.tmp 1) 3, type := 0, pos := _, after := #[], guard := none }) (v := ?_) rfl (by kernel_rfl) (by kernel_rfl) (by kernel_rfl) (fun _ _ _ h => h) (Or.inl ⟨by rfl, ?_⟩) (by assumption) ?_
  rotate_left
  · intro w hSw; (try dsimp only at hSw); go_simp <;> first | with_reducible rfl | (rw [if_neg (by first | omega | (simp only [ByteArray.size_append] at *; omega))])
  simp only [Act.put, List.setIfInBounds_toArray, List.set_cons_zero, List.set_cons_succ]
  refine wpAnyH_take (i := 9) (oi := { dst := some 12, op := Go.Op.load 24 (Go.Operand.tmp 11), type := 24, pos := _, after := #[{ on := 8, ground := Go.Ground.data }], guard := none }) (v := ?_) rfl (by kernel_rfl) (by kernel_rfl) (by kernel_rfl) (fun _ _ _ h => h) (Or.inl ⟨by rfl, ?_⟩) (by assumption) ?_
  rotate_left
  · intro w hSw; (try dsimp only at hSw); go_simp <;> first | with_reducible rfl | (rw [if_neg (by first | omega | (simp only [ByteArray.size_append] at *; omega))])
  simp only [Act.put, List.setIfInBounds_toArray, List.set_cons_zero, List.set_cons_succ]
  refine wpAnyH_ready (rs := [4]) (by kernel_rfl) (by simp) ?_
  refine AllReadyH.cons (o := { dst := some 7, op := Go.Op.call { callee := Go.Callee.value (Go.Operand.func 30), args := #[Go.Operand.tmp 6], argTypes := #[22] }, type := 22, pos := _, after := #[{ on := 3, ground := Go.Ground.data }], guard := none }) rfl (fun K hK => ?_) AllReadyH.nil
  go_simp
  refine (twin_ins _ _ _ (P0.out.keep H2.out.drew).ins).mono ?_
  rintro e w3 ⟨s3, rfl, ht3, hb3⟩
  obtain ⟨g3, k3, rfl, _⟩ := id ht3
  have HB3 := hid (bstep H2.out.drew hb3)
  have HT3 := hid ht3
  have G3 := hid hb3
  obtain ⟨p1, p2, p3⟩ := two_boxes w w3 _ _ 26 hb3
  clear ht3 hb3
  go_wp2_with fail
  refine hK.out _ _ ?_ (fun hHeld1 => ?_)
  · exact ⟨p1 0 _ rfl, p1 1 _ rfl, p1 2 _ rfl, p1 3 _ rfl⟩
  clear hK K
  refine wpAnyH_ready (rs := [7]) (by kernel_rfl) (by simp) ?_
  refine AllReadyH.cons (o := { dst := some 10, op := Go.Op.call { callee := Go.Callee.value (Go.Operand.func 31), args := #[Go.Operand.tmp 9], argTypes := #[23] }, type := 23, pos := _, after := #[{ on := 6, ground := Go.Ground.data }, { on := 4, ground := Go.Ground.chain }], guard := none }) rfl (fun K hK => ?_) AllReadyH.nil
  go_simp
  refine (twin_flows _ _ _ (P0.out.keep HB3.out).flows).mono ?_
  rintro e w4 ⟨s4, rfl, ht4, hb4⟩
  obtain ⟨g4, k4, _, rfl, _⟩ := id ht4
  have HB4 := hid (bstep HB3.out hb4)
  have HT4 := hid ht4
  have G4 := hid (bstep G3.out hb4)
  have F4 := hid hb4
  obtain ⟨q1, q2, q3⟩ := two_boxes w w4 _ _ 26 G4.out
  clear ht4 hb4
  go_wp2_with fail
  refine hK.out _ _ ?_ (fun hHeld2 => ?_)
  · exact ⟨q1 0 _ rfl, q1 1 _ rfl, q1 2 _ rfl, q1 3 _ rfl⟩
  clear hK K
  refine wpAnyH_ready (rs := [10]) (by kernel_rfl) (by simp) ?_
  refine AllReadyH.cons (o := { dst := some 13, op := Go.Op.call { callee := Go.Callee.value (Go.Operand.func 32), args := #[Go.Operand.tmp 12], argTypes := #[24] }, type := 24, pos := _, after := #[{ on := 9, ground := Go.Ground.data }, { on := 7, ground := Go.Ground.chain }], guard := none }) rfl (fun K hK => ?_) AllReadyH.nil
  go_simp
  refine (twin_texts _ _ _ (P0.out.keep HB4.out).outs).mono ?_
  rintro e w5 ⟨s5, rfl, ht5, hb5⟩
  obtain ⟨g5, k5, rfl, _⟩ := id ht5
  have HB5 := hid (bstep HB4.out hb5)
  have HT5 := hid ht5
  have G5 := hid (bstep G4.out hb5)
  have F5 := hid hb5
  obtain ⟨r1, r2, r3⟩ := two_boxes w w5 _ _ 26 G5.out
  clear ht5 hb5
  go_wp2_with fail
  refine hK.out _ _ ?_ (fun hHeld3 => ?_)
  · exact ⟨r1 0 _ rfl, r1 1 _ rfl, r1 2 _ rfl, r1 3 _ rfl⟩
  clear hK K
  refine wpAnyH_take (i := 11) (oi := { dst := some 14, op := Go.Op.build 26 #[(0, Go.Operand.tmp 4), (1, Go.Operand.tmp 7), (2, Go.Operand.tmp 10), (3, Go.Operand.tmp 13)], type := 26, pos := _, after := #[{ on := 1, ground := Go.Ground.data }, { on := 4, ground := Go.Ground.data }, { on := 7, ground := Go.Ground.data }, { on := 10, ground := Go.Ground.data }], guard := none }) (v := ?_) rfl (by kernel_rfl) (by kernel_rfl) (by kernel_rfl) (fun _ _ _ h => h) (Or.inl ⟨by rfl, ?_⟩) (by assumption) ?_
  rotate_left
  · intro w hSw; (try dsimp only at hSw); go_simp <;> first | with_reducible rfl | (rw [if_neg (by first | omega | (simp only [ByteArray.size_append] at *; omega))])
  simp only [Act.put, List.setIfInBounds_toArray, List.set_cons_zero, List.set_cons_succ]
  refine wpAnyH_ready (rs := [12]) (by kernel_rfl) (by simp) ?_
  refine AllReadyH.cons (o := { dst := none, op := Go.Op.store 26 (Go.Operand.tmp 2) (Go.Operand.tmp 14), type := 0, pos := _, after := #[{ on := 11, ground := Go.Ground.data }, { on := 10, ground := Go.Ground.chain }, { on := 0, ground := Go.Ground.phase }, { on := 1, ground := Go.Ground.phase }, { on := 2, ground := Go.Ground.phase }, { on := 3, ground := Go.Ground.phase }, { on := 4, ground := Go.Ground.phase }, { on := 5, ground := Go.Ground.phase }, { on := 6, ground := Go.Ground.phase }, { on := 7, ground := Go.Ground.phase }, { on := 8, ground := Go.Ground.phase }, { on := 9, ground := Go.Ground.phase }, { on := 10, ground := Go.Ground.phase }, { on := 11, ground := Go.Ground.phase }], guard := none }) rfl (fun K hK => ?_) AllReadyH.nil
  refine if_take (by rfl) ?_
  refine wp_store_row 26 _ _ rfl (w.heap.size + 1) (pgC p (.slice (some ⟨g3, 0, none⟩) p.ins.length k3) (.slice (some ⟨g4, 0, none⟩) p.flows.length k4) (.slice (some ⟨g5, 0, none⟩) p.outs.length k5)) rfl rfl 26 _ r3 info26 rfl (by simp [Value.oneCell']) ?_
  refine hK.out _ _ ?_ (fun _ => ?_)
  · have hne : w.heap.size ≠ w.heap.size + 1 := by omega
    have kk : ∀ j v, w5.cell? ⟨w.heap.size, j, none⟩ = some v → (w5.setRow (w.heap.size + 1) (pgC p (.slice (some ⟨g3, 0, none⟩) p.ins.length k3) (.slice (some ⟨g4, 0, none⟩) p.flows.length k4) (.slice (some ⟨g5, 0, none⟩) p.outs.length k5))).cell? ⟨w.heap.size, j, none⟩ = some v := fun j v h => by
      rw [World.cell?_of_block (w := w5) (a := ⟨w.heap.size, j, none⟩) (setRow_other w5 _ _ _ hne)]
      exact h
    exact ⟨kk _ _ (r1 0 _ rfl), kk _ _ (r1 1 _ rfl), kk _ _ (r1 2 _ rfl), kk _ _ (r1 3 _ rfl)⟩
  clear hK K
  refine wpAnyH_done (by kernel_rfl) ?_ _
  go_wp2
  refine bodyPost_ret (results_cell_row rfl _ _ (w.heap.size + 1) 26 (pgC p (.slice (some ⟨g3, 0, none⟩) p.ins.length k3) (.slice (some ⟨g4, 0, none⟩) p.flows.length k4) (.slice (some ⟨g5, 0, none⟩) p.outs.length k5)) (0, 0) _ rfl (setRow_heap _ _ _ _ _ _ r3) Tryd.underlying26 rfl info26) rfl ⟨_, _, _, rfl, ?_, ?_, ?_⟩
  · have hlo : w.heap.size + 2 ≤ (((w.alloc (.cells (pgC p (.slice a0 p.ins.length a1) (.slice b0 p.flows.length b1) (.slice c0 p.outs.length c1)) 26)).alloc (.cells #[.int .i64 0, .slice none 0 0, .slice none 0 0, .slice none 0 0] 26)).drew).heap.size := by simp
    have h3 : w.heap.size + 2 ≤ w3.heap.size := Nat.le_trans hlo G3.out.size
    have h4 : w.heap.size + 2 ≤ w4.heap.size := Nat.le_trans h3 F4.out.size
    have T : TwPg w5 (w.heap.size + 2) p (.slice (some ⟨g3, 0, none⟩) p.ins.length k3) (.slice (some ⟨g4, 0, none⟩) p.flows.length k4) (.slice (some ⟨g5, 0, none⟩) p.outs.length k5) := ⟨P0.out.st, HT3.out.carry (fun b _ hb => (bstep F4.out F5.out).block b hb) hlo, HT4.out.carry (fun b _ hb => F5.out.block b hb) h3, HT5.out.carry (fun _ _ _ => rfl) h4⟩
    exact T.carry (fun b hb _ => setRow_other w5 _ _ _ (by omega)) (by omega)
  · exact below_row HB5.out HB5.out.size (by omega) _
  · intro i n c j m d e1 e2
    injection e1 with e1 _ _
    injection e1 with e1
    injection e1 with e1 _ _
    injection e2 with e2 _ _
    injection e2 with e2
    injection e2 with e2 _ _
    subst e1 e2
    obtain ⟨b, _, e, _, _, _, _, _, _, cur, hk, _⟩ := HT3.out
    injection e with e _ _
    injection e with e
    injection e with e _ _
    subst e
    have l3 := (Array.getElem?_eq_some_iff.1 hk).1
    obtain ⟨b, _, _, e, hlo, _⟩ := HT4.out
    injection e with e _ _
    injection e with e
    injection e with e _ _
    subst e
    omega
theorem twin_prog (p : Pg) (w : World) (a b c : Value) (hP : PgAt w p a b c) :
    Calls Tryd.prog 19 #[pgV p a b c] w fun e w' => ∃ a' b' c', e = .returned (pgV p a' b' c') ∧ TwPg w' w.heap.size p a' b' c' ∧ Below w.heap.size w w' :=
  (twin_prog2 p w a b c hP).mono fun _ _ ⟨a', b', c', h1, h2, h3, _⟩ => ⟨a', b', c', h1, h2, h3⟩
end Go.Proofs.YtjdlmhkfaodkgaaDoor.Lex
namespace Go.Proofs.YtjdlmhkfaodkgaaDoor.Lex
open Go.ChangeShapes Go.WideShapes Go.ChangeAt Go.RowKit Go.Joins
/-- Rows of rows of numbers that are read. -/
def LAt (w : World) (v : Value) (L : List (List Nat)) : Prop := ∃ ao cap, v = .slice ao L.length cap ∧ (L.length = 0 ∨ ∃ g o, ao = some ⟨g, o, none⟩ ∧ ∀ i (h : i < L.length), ∃ u, w.cell? ⟨g, o + i, none⟩ = some u ∧ IAt w u (L[i].map Int.ofNat))
theorem IAt.keep {w w' : World} {v : Value} {l : List Int} (h : IAt w v l) (hb : Below w.heap.size w w') : IAt w' v l := by
  obtain ⟨ao, cap, rfl, h⟩ := h
  refine ⟨ao, cap, rfl, h.imp_right ?_⟩
  rintro ⟨g, o, e, hc⟩
  exact ⟨g, o, e, fun i hi => cell_kept (hc i hi) hb⟩
theorem LAt.keep {w w' : World} {v : Value} {L : List (List Nat)} (h : LAt w v L) (hb : Below w.heap.size w w') : LAt w' v L := by
  obtain ⟨ao, cap, rfl, h⟩ := h
  refine ⟨ao, cap, rfl, h.imp_right ?_⟩
  rintro ⟨g, o, e, hc⟩
  refine ⟨g, o, e, fun i hi => ?_⟩
  obtain ⟨u, h1, h2⟩ := hc i hi
  exact ⟨u, cell_kept h1 hb, h2.keep hb⟩
/-- It stands as long as the blocks of parts stay, but for some. -/
def Sx (K : Nat → Prop) (W : World) (x : Ex) (s : Value) : Prop := ∀ V : World, (∀ b c f, W.heap[b]? = some (.cells c 49 f) → ¬ K b → V.heap[b]? = W.heap[b]?) → St V x s
theorem Sx.st {K : Nat → Prop} {W : World} {x : Ex} {s : Value} (h : Sx K W x s) : St W x s := h W (fun _ _ _ _ _ => rfl)
theorem Sx.keep {K : Nat → Prop} {W W' : World} {x : Ex} {s : Value} (h : Sx K W x s) (hk : ∀ b c f, W.heap[b]? = some (.cells c 49 f) → ¬ K b → W'.heap[b]? = W.heap[b]?) : Sx K W' x s := fun V hV => h V (fun b c f hb hn => by
  have e := hk b c f hb hn
  exact (hV b c f (e.trans hb) hn).trans e)
theorem Sx.below {K : Nat → Prop} {W W' : World} {x : Ex} {s : Value} (h : Sx K W x s) (hb : Below W.heap.size W W') : Sx K W' x s := h.keep fun b _ _ e _ => hb.block b (Array.getElem?_eq_some_iff.1 e).1
theorem Sx.mono {K K' : Nat → Prop} {W : World} {x : Ex} {s : Value} (h : Sx K' W x s) (hk : ∀ b, K b → K' b) : Sx K W x s := fun V hV => h V (fun b c f hb hn => hV b c f hb (fun hK => hn (hk b hK)))
theorem st_leaf (V : World) (op : Nat) (nm : ByteArray) (ho : op < 256) (hn : nm.size ≤ 65536) : St V ⟨op, 0, nm, []⟩ (.slice none 0 0) :=
  St.intro ⟨op, 0, nm, []⟩ none 0 (fun _ => .slice none 0 0) ho ⟨by show (-9223372036854775808 : Int) ≤ 0; omega, by show (0 : Int) ≤ _; omega⟩ (by show nm.size ≤ _; omega) (by simp) (by simp) (.inl rfl) (fun i hi => by simp at hi)
theorem sx_num (K : Nat → Prop) (W : World) : Sx K W exNum (.slice none 0 0) := fun V _ => st_leaf V 1 ⟨#[]⟩ (by decide) (by decide)
theorem sx_nm (K : Nat → Prop) (W : World) (k : Nat) : Sx K W (exNm k) (.slice none 0 0) := fun V _ => st_leaf V 3 (wordB k) (by decide) (by rw [word_size]; omega)
theorem Sx.one {K : Nat → Prop} {W : World} {x : Ex} {s : Value} (h : Sx K W x s) (op : Nat) (ho : op < 256) (hK : ¬ K W.heap.size) : Sx K (W.alloc (.cells #[.int .u8 (x.op : Int), .int .i64 x.n, .string x.name, s] 49)) ⟨op, 0, ⟨#[]⟩, [x]⟩ (.slice (some ⟨W.heap.size, 0, none⟩) 1 1) := by
  intro V hV
  have h0 := heap_alloc_new W (.cells #[.int .u8 (x.op : Int), .int .i64 x.n, .string x.name, s] 49)
  have hr := (hV W.heap.size _ _ h0 hK).trans h0
  have hx : St V x s := (h.below ((Below.refl _ _).alloc (Nat.le_refl _) _)) V hV
  refine St.intro ⟨op, 0, ⟨#[]⟩, [x]⟩ _ 1 (fun _ => s) ho ⟨by show (-9223372036854775808 : Int) ≤ 0; omega, by show (0 : Int) ≤ _; omega⟩ (by show (0 : Nat) ≤ _; omega) (by simp) (by simp) (.inr ⟨W.heap.size, 0, rfl, fun i hi => ?_⟩) (fun i hi => ?_)
  · have hi1 : i < 1 := hi
    obtain rfl : i = 0 := by omega
    refine ⟨?_, ?_, ?_, ?_⟩ <;> (rw [cell_of_row _ _ _ _ 49 (0, 0) hr]; rfl)
  · have hi1 : i < 1 := hi
    obtain rfl : i = 0 := by omega
    exact hx
theorem Sx.two {K : Nat → Prop} {W : World} {x y : Ex} {s t : Value} (h : Sx K W x s) (h2 : Sx K W y t) (op : Nat) (ho : op < 256) (hK : ¬ K W.heap.size) : Sx K (W.alloc (.cells #[.int .u8 (x.op : Int), .int .i64 x.n, .string x.name, s, .int .u8 (y.op : Int), .int .i64 y.n, .string y.name, t] 49)) ⟨op, 0, ⟨#[]⟩, [x, y]⟩ (.slice (some ⟨W.heap.size, 0, none⟩) 2 2) := by
  intro V hV
  have h0 := heap_alloc_new W (.cells #[.int .u8 (x.op : Int), .int .i64 x.n, .string x.name, s, .int .u8 (y.op : Int), .int .i64 y.n, .string y.name, t] 49)
  have hr := (hV W.heap.size _ _ h0 hK).trans h0
  have hx : St V x s := (h.below ((Below.refl _ _).alloc (Nat.le_refl _) _)) V hV
  have hy : St V y t := (h2.below ((Below.refl _ _).alloc (Nat.le_refl _) _)) V hV
  refine St.intro ⟨op, 0, ⟨#[]⟩, [x, y]⟩ _ 2 (fun i => if i = 0 then s else t) ho ⟨by show (-9223372036854775808 : Int) ≤ 0; omega, by show (0 : Int) ≤ _; omega⟩ (by show (0 : Nat) ≤ _; omega) (by simp) (by simp) (.inr ⟨W.heap.size, 0, rfl, fun i hi => ?_⟩) (fun i hi => ?_)
  · have hi1 : i < 2 := hi
    rcases (by omega : i = 0 ∨ i = 1) with rfl | rfl <;> refine ⟨?_, ?_, ?_, ?_⟩ <;> (rw [cell_of_row _ _ _ _ 49 (0, 0) hr]; rfl)
  · have hi1 : i < 2 := hi
    rcases (by omega : i = 0 ∨ i = 1) with rfl | rfl
    · exact hx
    · exact hy
abbrev exC (x : Ex) (s : Value) : Array Value := #[.int .u8 (x.op : Int), .int .i64 x.n, .string x.name, s]
/-- The body that is made, in its variable. -/
structure OX (W0 : World) (kx : Nat) (x : Ex) (a : Option Addr) (n c : Nat) (W : World) : Prop where
  var : W.heap[kx]? = some (.cells #[.int .u8 (x.op : Int), .int .i64 x.n, .string x.name, .slice a n c] 49 (0, 0))
  sx : Sx (fun b => b = kx) W x (.slice a n c)
  lt : W0.heap.size ≤ kx
  below : Below W0.heap.size W0 W
theorem OX.keep {W0 W W' : World} {kx : Nat} {x : Ex} {a : Option Addr} {n c : Nat} (h : OX W0 kx x a n c W) (hb : Below W.heap.size W W') : OX W0 kx x a n c W' := ⟨keep_row h.var hb, h.sx.below hb, h.lt, bstep h.below hb⟩
theorem OX.cells {W0 W : World} {kx : Nat} {x : Ex} {a : Option Addr} {n c : Nat} (h : OX W0 kx x a n c W) : W.cell? ⟨kx, 0, none⟩ = some (.int .u8 (x.op : Int)) ∧ W.cell? ⟨kx, 1, none⟩ = some (.int .i64 x.n) ∧ W.cell? ⟨kx, 2, none⟩ = some (.string x.name) ∧ W.cell? ⟨kx, 3, none⟩ = some (.slice a n c) := by
  refine ⟨?_, ?_, ?_, ?_⟩ <;> (rw [cell_of_row _ _ _ _ 49 (0, 0) h.var]; rfl)
theorem OX.ne {W0 W : World} {kx : Nat} {x : Ex} {a : Option Addr} {n c : Nat} (h : OX W0 kx x a n c W) : ¬ W.heap.size = kx := by
  have := (Array.getElem?_eq_some_iff.1 h.var).1
  omega
theorem OX.set {W0 W : World} {kx : Nat} {x y : Ex} {a a' : Option Addr} {n c n' c' : Nat} (h : OX W0 kx x a n c W) (hy : Sx (fun b => b = kx) W y (.slice a' n' c')) : OX W0 kx y a' n' c' (W.setRow kx #[.int .u8 (y.op : Int), .int .i64 y.n, .string y.name, .slice a' n' c']) :=
  ⟨setRow_heap _ _ _ _ _ _ h.var, hy.keep (fun _ _ _ _ hn => setRow_other _ _ _ _ hn), h.lt, below_row h.below h.below.size h.lt _⟩
/-- The program that is made, in its variable, and what is answered. -/
structure OQ (w : World) (v : Value) (fs : List (Fl × Value)) (W : World) : Prop where
  res : W.heap[w.heap.size]? = some (.cells #[.int .i64 0, .slice none 0 0, .slice none 0 0, .slice none 0 0] 26 (0, 0))
  row : W.heap[w.heap.size + 1]? = some (.cells #[.int .i64 1, .slice none 0 0, v, .slice none 0 0] 26 (0, 0))
  own : W.ownsRow (w.heap.size + 2) 51 8 v fs.length (fs.map fun q => flL q.1 q.2).flatten
  sts : ∀ q ∈ fs, Sx (fun _ => False) W q.1.body q.2
  oks : ∀ q ∈ fs, q.1.ok
  below : Below w.heap.size w W
theorem OQ.size {w W : World} {v : Value} {fs : List (Fl × Value)} (h : OQ w v fs W) : w.heap.size + 2 ≤ W.heap.size := (Array.getElem?_eq_some_iff.1 h.row).1
theorem OQ.keep {w W W' : World} {v : Value} {fs : List (Fl × Value)} (h : OQ w v fs W) (hb : Below W.heap.size W W') : OQ w v fs W' := ⟨keep_row h.res hb, keep_row h.row hb, own_carry9 h.own (fun b _ hl => hb.block b hl), fun q hq => (h.sts q hq).below hb, h.oks, bstep h.below hb⟩
theorem OQ.cells {w W : World} {v : Value} {fs : List (Fl × Value)} (h : OQ w v fs W) : W.cell? ⟨w.heap.size + 1, 0, none⟩ = some (.int .i64 1) ∧ W.cell? ⟨w.heap.size + 1, 1, none⟩ = some (.slice none 0 0) ∧ W.cell? ⟨w.heap.size + 1, 2, none⟩ = some v ∧ W.cell? ⟨w.heap.size + 1, 3, none⟩ = some (.slice none 0 0) := by
  refine ⟨?_, ?_, ?_, ?_⟩ <;> (rw [cell_of_row _ _ _ _ 26 (0, 0) h.row]; rfl)
theorem OQ.own51 {w W : World} {v : Value} {fs : List (Fl × Value)} (h : OQ w v fs W) : ∀ g, v.ownBlock = some g → w.heap.size + 2 ≤ g ∧ ∃ c, W.heap[g]? = some (.cells c 51 (0, 0)) := fun g hg => by
  refine ⟨(own_lo9 h.own g hg).1, ?_⟩
  rcases h.own.2 with ⟨e, _⟩ | ⟨g', cap, cur, e, _, hr, _⟩
  · rw [e] at hg; cases hg
  · rw [e] at hg
    obtain rfl : g' = g := by simpa [Value.ownBlock] using hg
    exact ⟨cur, hr⟩
/-- One flow more. -/
theorem OQ.grow {w W W' : World} {v v' : Value} {fs : List (Fl × Value)} {f : Fl} {s : Value} (h : OQ w v fs W) (hown : W'.ownsRow (w.heap.size + 2) 51 8 v' (fs.length + 1) ((fs.map fun q => flL q.1 q.2).flatten ++ flL f s)) (hg : W.grownBy W' v.ownBlock)
    (hs : Sx (fun _ => False) W f.body s) (hok : f.ok) : OQ w v' (fs ++ [(f, s)]) (W'.setCell ⟨w.heap.size + 1, 2, none⟩ v') := by
  have hsz := h.size
  have k49 : ∀ (b : Nat) (c : Array Value) (f : Nat × Nat), W.heap[b]? = some (.cells c 49 f) → ¬ False → (W'.setCell ⟨w.heap.size + 1, 2, none⟩ v').heap[b]? = W.heap[b]? := fun b c f hb _ => by
    have hlt := (Array.getElem?_eq_some_iff.1 hb).1
    have hne : b ≠ w.heap.size + 1 := fun e => by
      rw [e, h.row] at hb
      simp at hb
    rw [Below.heap_setCell _ _ _ _ hne]
    refine hg.block b hlt (fun e => ?_)
    obtain ⟨_, c', hc'⟩ := h.own51 b e.symm
    rw [hb] at hc'
    simp at hc'
  have krow : ∀ b, b < w.heap.size + 2 → W'.heap[b]? = W.heap[b]? := fun b hb => hg.block b (by omega) (fun e => by have := (h.own51 b e.symm).1; omega)
  refine ⟨?_, ?_, ?_, fun q hq => ?_, fun q hq => ?_, ?_⟩
  · rw [Below.heap_setCell _ _ _ _ (by show w.heap.size ≠ w.heap.size + 1; omega), krow _ (by omega)]
    exact h.res
  · rw [set_same ((krow _ (by omega)).trans h.row)]
    rfl
  · rw [List.length_append, List.map_append, List.flatten_append]
    have hown2 : (W'.setCell ⟨w.heap.size + 1, 2, none⟩ v').ownsRow (w.heap.size + 2) 51 8 v' (fs.length + 1) ((fs.map fun q => flL q.1 q.2).flatten ++ flL f s) := own_carry9 hown (fun b hb _ => Below.heap_setCell _ _ _ _ (by show b ≠ w.heap.size + 1; omega))
    simpa using hown2
  · rcases List.mem_append.1 hq with hq | hq
    · exact (h.sts q hq).keep k49
    · obtain rfl : q = (f, s) := by simpa using hq
      exact hs.keep k49
  · rcases List.mem_append.1 hq with hq | hq
    · exact h.oks q hq
    · obtain rfl : q = (f, s) := by simpa using hq
      exact hok
  · exact (h.below.grown hg h.below.size (fun j hj => by have := (h.own51 j hj).1; omega)).setCell (by show w.heap.size ≤ w.heap.size + 1; omega) _
/-- It is a row of flows in memory. -/
theorem fl_at {W : World} {lo : Nat} {v : Value} {fs : List (Fl × Value)} (hown : W.ownsRow lo 51 8 v fs.length (fs.map fun q => flL q.1 q.2).flatten) (hst : ∀ q ∈ fs, St W q.1.body q.2) (hok : ∀ q ∈ fs, q.1.ok) (hl : fs.length ≤ 1000) : FlowsAt W (fs.map (·.1)) v := by
  have each : ∀ e ∈ fs.map (fun q => flL q.1 q.2), e.length = 8 := fun e he => by
    obtain ⟨q, _, rfl⟩ := List.mem_map.1 he
    rfl
  have sl : ∀ i (hi : i < (fs.map (·.1)).length), i < fs.length := fun i hi => by simpa using hi
  rcases hown.2 with ⟨e, e0⟩ | ⟨g, cap, cur, e, _⟩
  · have e1 : fs = [] := List.length_eq_zero_iff.1 e0
    subst e1
    exact ⟨none, 0, fun _ => .slice none 0 0, e, by simp, by simp, by simp, .inl rfl, fun i hi => by simp at hi⟩
  · subst e
    have hcap : fs.length ≤ cap := by
      rcases hown.2 with ⟨e, _⟩ | ⟨g', cap', cur', e, _, _, hc, _⟩
      · cases e
      · injection e with _ _ e3
        rw [e3]
        exact hc
    refine ⟨some ⟨g, 0, none⟩, cap, fun i => (fs[i]?.map (·.2)).getD (.slice none 0 0), by simp, by simp; omega, by simpa using hcap, fun x hx => ?_, .inr ⟨g, 0, rfl, fun i hi => ?_⟩, fun i hi => ?_⟩
    · obtain ⟨q, hq, rfl⟩ := List.mem_map.1 hx
      exact hok q hq
    · have hi' := sl i hi
      have cellj : ∀ j u, (flL fs[i].1 fs[i].2)[j]? = some u → W.cell? ⟨g, i * 8 + j, none⟩ = some u := fun j u hu => by
        have hj : j < 8 := (List.getElem?_eq_some_iff.1 hu).1
        rw [hown.cellAt (i * 8 + j) (by omega)]
        have := flat_at (c := 8) (es := fs.map fun q => flL q.1 q.2) (i := i) (e := flL fs[i].1 fs[i].2) (j := j) (rest := []) each (by simp [hi']) hj
        rw [List.append_nil] at this
        rw [this]
        exact hu
      have e1 : (fs.map (·.1))[i] = fs[i].1 := by simp
      have e2 : (fs[i]?.map (·.2)).getD (.slice none 0 0) = fs[i].2 := by simp [hi']
      show FlCells W g (0 + i * 8) _ ((fs[i]?.map (·.2)).getD (.slice none 0 0))
      rw [e1, e2, Nat.zero_add]
      exact ⟨cellj 0 _ rfl, cellj 1 _ rfl, cellj 2 _ rfl, cellj 3 _ rfl, cellj 4 _ rfl, cellj 5 _ rfl, cellj 6 _ rfl, cellj 7 _ rfl⟩
    · have hi' := sl i hi
      have e1 : (fs.map (·.1))[i] = fs[i].1 := by simp
      have e2 : (fs[i]?.map (·.2)).getD (.slice none 0 0) = fs[i].2 := by simp [hi']
      show St W _ ((fs[i]?.map (·.2)).getD (.slice none 0 0))
      rw [e1, e2]
      exact hst _ (List.getElem_mem hi')
theorem OQ.done {w W : World} {v : Value} {fs : List (Fl × Value)} (h : OQ w v fs W) (hl : fs.length ≤ 1000) (c : Array Value) : FlowsAt (W.setRow w.heap.size c) (fs.map (·.1)) v ∧ Below w.heap.size w (W.setRow w.heap.size c) :=
  ⟨fl_at (own_carry9 h.own (fun b hb _ => setRow_other _ _ _ _ (by omega))) (fun q hq => ((h.sts q hq).keep (fun b c f hb _ => setRow_other _ _ _ _ (fun e => by
    rw [e, h.res] at hb
    simp at hb))).st) h.oks hl, below_row h.below h.below.size (Nat.le_refl _) _⟩
theorem add_take {x : Ex} {l : List Nat} {k : Nat} (h : k < l.length) : addN x (l.take (k + 1)) = exAdd (addN x (l.take k)) (exNm l[k]) := by
  unfold addN
  rw [List.take_succ_eq_append_getElem h, List.foldl_append]
  rfl
theorem addP_take {x : Ex} {l : List Nat} {k : Nat} (h : k < l.length) : addP x (l.take (k + 1)) = exAdd (addP x (l.take k)) (exPre (exNm l[k])) := by
  unfold addP
  rw [List.take_succ_eq_append_getElem h, List.foldl_append]
  rfl
end Go.Proofs.YtjdlmhkfaodkgaaDoor.Lex
