/-
  What has a type, and what its parts have: plain mathematics.
  fits: may a default be of a type.
  Is each flow of its type: the contract of types.Check.
  What the chapter's program has for names, and the type of something in it: the contracts of name, of, small, is.
-/
import Derived.Test.YtakjkhfglihggaaDoorG6
import Derived.Test.YtakjkhfglihggaaDoorG4
import Derived.Test.YtakjkhfglihggaaDoorG5
import Derived.Laws.ResultCell
namespace Go.Proofs.YtakjkhfglihggaaDoor.Lex
/-- All that it asks for, as often as it does. -/
def pl : Nat → Ex → Nat → List Rf
  | 0, _, _ => []
  | k + 1, x, ago => (if x.op = 3 then [(x.name, ago)] else []) ++ x.args.flatMap fun y => pl k y (nextAgo x ago)
theorem foldl_flat {α β γ : Type} (f : β → γ → β) (g : α → List γ) : ∀ (l : List α) (b : β), l.foldl (fun b a => (g a).foldl f b) b = (l.flatMap g).foldl f b
  | [], _ => rfl
  | a :: l, b => by simp only [List.foldl_cons, List.flatMap_cons, List.foldl_append]; exact foldl_flat f g l _
theorem gat_pl : ∀ (k : Nat) (x : Ex) (ago : Nat) (acc : List Rf), gat k x ago acc = (pl k x ago).foldl addR acc
  | 0, _, _, _ => rfl
  | k + 1, x, ago, acc => by
    have e : (fun (acc : List Rf) (y : Ex) => gat k y (nextAgo x ago) acc) = fun acc y => (pl k y (nextAgo x ago)).foldl addR acc := by
      funext acc y
      exact gat_pl k y (nextAgo x ago) acc
    rw [gat, pl, e, foldl_flat addR (fun y => pl k y (nextAgo x ago)), List.foldl_append]
    congr 1
    unfold ownRefs
    split <;> rfl
theorem addR_mem (acc : List Rf) (r : Rf) (s : Rf) : s ∈ addR acc r ↔ s ∈ acc ∨ s = r := by
  unfold addR
  split
  · rename_i h
    constructor
    · exact .inl
    · rintro (h1 | rfl)
      · exact h1
      · exact rIn_mem.1 h
  · simp
theorem addR_in {acc : List Rf} {r : Rf} (h : r ∈ acc) : addR acc r = acc := by unfold addR; rw [if_pos (rIn_mem.2 h)]
theorem addR_new {acc : List Rf} {r : Rf} (h : r ∉ acc) : addR acc r = acc ++ [r] := by unfold addR; rw [if_neg (fun h' => h (rIn_mem.1 h'))]
theorem fold_mem : ∀ (l acc : List Rf) (s : Rf), s ∈ l.foldl addR acc ↔ s ∈ acc ∨ s ∈ l
  | [], acc, s => by simp
  | r :: l, acc, s => by rw [List.foldl_cons, fold_mem l, addR_mem, List.mem_cons, or_assoc]
theorem gat_mem (k : Nat) (x : Ex) (ago : Nat) (r : Rf) : r ∈ gat k x ago [] ↔ r ∈ pl k x ago := by
  rw [gat_pl, fold_mem]
  simp
/-- The names that it asks for. -/
def nmz : Nat → Ex → List ByteArray
  | 0, _ => []
  | k + 1, x => (if x.op = 3 then [x.name] else []) ++ x.args.flatMap (nmz k)
theorem pl_nmz : ∀ (k : Nat) (x : Ex) (ago : Nat), (pl k x ago).map (·.1) = nmz k x
  | 0, _, _ => rfl
  | k + 1, x, ago => by
    rw [pl, nmz, List.map_append]
    congr 1
    · split <;> rfl
    · rw [List.map_flatMap]
      congr 1
      funext y
      exact pl_nmz k y (nextAgo x ago)
theorem asks_nmz (p : Pg) (x : Ex) : asksAll p x = true ↔ ∀ s ∈ nmz 32 x, (findT (thingsL p) s).isSome = true := by
  unfold asksAll
  rw [List.all_eq_true]
  constructor
  · intro h s hs
    rw [← pl_nmz 32 x 0] at hs
    obtain ⟨r, hr, rfl⟩ := List.mem_map.1 hs
    exact h r ((gat_mem 32 x 0 r).2 hr)
  · intro h r hr
    exact h r.1 (by rw [← pl_nmz 32 x 0]; exact List.mem_map.2 ⟨r, (gat_mem 32 x 0 r).1 hr, rfl⟩)
theorem nmz_deep : ∀ (d : Nat) (x : Ex), okD d x → nmz (d + 1) x = nmz d x
  | 0, _, h => h.elim
  | d + 1, x, h => by
    rw [nmz, nmz]
    congr 1
    have key : ∀ l : List Ex, (∀ y ∈ l, okD d y) → l.flatMap (nmz (d + 1)) = l.flatMap (nmz d) := by
      intro l
      induction l with
      | nil => intro _; rfl
      | cons a l ih => intro hl; rw [List.flatMap_cons, List.flatMap_cons, nmz_deep d a (hl a (List.mem_cons_self ..)), ih fun y hy => hl y (List.mem_cons_of_mem _ hy)]
    exact key x.args h.2
theorem szL_mono {f g : Nat → Ex → Option Nat} (h : ∀ m m' a j, m ≤ m' → f m a = some j → g m' a = some j) (m m' : Nat) (hm : m ≤ m') : ∀ (l : List Ex) (n k : Nat), szL f m n l = some k → szL g m' n l = some k
  | [], n, k, hs => by simpa [szL] using hs
  | a :: l, n, k, hs => by
    simp only [szL] at hs ⊢
    cases e : f (m - n) a with
    | none => rw [e] at hs; cases hs
    | some j =>
      rw [e] at hs
      rw [h (m - n) (m' - n) a j (by omega) e]
      exact szL_mono h m m' hm l _ k hs
theorem sz_mono : ∀ (d d' : Nat), d ≤ d' → ∀ (m m' : Nat) (x : Ex) (k : Nat), m ≤ m' → sz d m x = some k → sz d' m' x = some k
  | 0, _, _, _, _, _, _, _, h => by simp [sz] at h
  | d + 1, 0, hd, _, _, _, _, _, _ => by omega
  | d + 1, d' + 1, hd, m, m', x, k, hm, h => by
    unfold sz at h ⊢
    by_cases hc : m = 0 ∨ fieldsOk x.op x.n x.name x.args.length = false
    · rw [if_pos hc] at h; cases h
    · rw [if_neg hc] at h
      rw [if_neg (fun h' => hc (by rcases h' with h' | h'; · exact .inl (by omega)
                                   · exact .inr h'))]
      exact szL_mono (fun a b y j hab hj => sz_mono d d' (by omega) a b y j hab hj) m m' hm x.args 1 k h
theorem chk_part {x y : Ex} (h : chk x = true) (hy : y ∈ x.args) : chk y = true := by
  unfold chk at h ⊢
  obtain ⟨k, hk⟩ := Option.isSome_iff_exists.1 h
  unfold sz at hk
  by_cases hc : 200 = 0 ∨ fieldsOk x.op x.n x.name x.args.length = false
  · rw [if_pos hc] at hk; cases hk
  · rw [if_neg hc] at hk
    have key : ∀ (l : List Ex) (n k : Nat), szL (sz 31) 200 n l = some k → y ∈ l → (sz 32 200 y).isSome = true := by
      intro l
      induction l with
      | nil => intro n k _ hy; cases hy
      | cons a l ih =>
        intro n k hs hy
        simp only [szL] at hs
        cases e : sz 31 (200 - n) a with
        | none => rw [e] at hs; cases hs
        | some j =>
          rw [e] at hs
          rcases List.mem_cons.1 hy with rfl | hy
          · rw [sz_mono 31 32 (by omega) (200 - n) 200 y j (by omega) e]; rfl
          · exact ih _ _ hs hy
    exact key x.args 1 k hk hy
theorem asks_part {p : Pg} {x y : Ex} (h : chk x = true) (ha : asksAll p x = true) (hy : y ∈ x.args) : asksAll p y = true := by
  rw [asks_nmz] at ha ⊢
  intro s hs
  have ho := chk_ok h
  have h31 : okD 31 y := ho.2 y hy
  rw [nmz_deep 31 y h31] at hs
  refine ha s ?_
  rw [nmz]
  exact List.mem_append.2 (.inr (List.mem_flatMap.2 ⟨y, hy, hs⟩))
theorem com_all {ts : List Nat} (h : com ts ≠ 0) : ∀ u ∈ ts, u = com ts := by
  intro u hu
  unfold com at h ⊢
  by_cases hc : (ts.all fun t => t == ts.headD 0) = true
  · rw [if_pos hc]
    exact beq_iff_eq.1 (List.all_eq_true.1 hc u hu)
  · rw [if_neg hc] at h; exact (h rfl).elim
theorem of_zero (p : Pg) (x : Ex) : (ofV p x).2 = 0 ↔ chk x = true ∧ asksAll p x = true ∧ tyE p x ≠ 0 := by
  unfold ofV
  by_cases h1 : chk x = false
  · rw [if_pos h1]; simp [h1]
  · rw [if_neg h1]
    have h1' : chk x = true := by simpa using h1
    by_cases h2 : asksAll p x = false
    · rw [if_pos h2]; simp [h2]
    · rw [if_neg h2]
      have h2' : asksAll p x = true := by simpa using h2
      by_cases h3 : tyE p x = 0
      · rw [if_pos h3]; simp [h3]
      · rw [if_neg h3]; simp [h1', h2', h3]
theorem of_ok {p : Pg} {x : Ex} (h1 : chk x = true) (h2 : asksAll p x = true) (h3 : tyE p x ≠ 0) : ofV p x = (tyE p x, 0) := by
  unfold ofV
  rw [if_neg (by rw [h1]; simp), if_neg (by rw [h2]; simp), if_neg h3]
theorem of_not {p : Pg} {x : Ex} (h : (ofV p x).2 ≠ 0) : (ofV p x).1 = 0 ∧ (decide ((ofV p x).2 = 1) = !chk x) := by
  unfold ofV at h ⊢
  by_cases h1 : chk x = false
  · rw [if_pos h1]; simp [h1]
  · rw [if_neg h1] at h ⊢
    have h1' : chk x = true := by simpa using h1
    by_cases h2 : asksAll p x = false
    · rw [if_pos h2]; simp [h1']
    · rw [if_neg h2] at h ⊢
      by_cases h3 : tyE p x = 0
      · rw [if_pos h3]; simp [h1']
      · rw [if_neg h3] at h; exact (h rfl).elim
/-- What is known of one that has a type. -/
theorem fields_len {x : Ex} (h : chk x = true) : fieldsOk x.op x.n x.name x.args.length = true := (chk_ok h).1
theorem part_ty {p : Pg} {x y : Ex} (h : chk x = true) (ht : tyE p x ≠ 0) (hy : y ∈ x.args) : tyE p y ≠ 0 := by
  have hf := fields_len h
  have hlen : x.args.length ≠ 0 := by intro e; rw [List.length_eq_zero_iff.1 e] at hy; cases hy
  by_cases h1 : x.op = 1
  · unfold fieldsOk at hf; rw [if_pos h1] at hf; simp at hf; rw [hf.2.2] at hy; cases hy
  by_cases h2 : x.op = 2
  · unfold fieldsOk at hf; rw [if_neg h1, if_pos h2] at hf; simp at hf; rw [hf.2.2] at hy; cases hy
  by_cases h3 : x.op = 3
  · unfold fieldsOk at hf; rw [if_neg h1, if_neg h2, if_pos h3] at hf; simp at hf; rw [hf.2.2] at hy; cases hy
  have hp := ok_parts hf h1 h2 h3
  rw [tyE_eq, if_neg h1, if_neg h2, if_neg h3] at ht
  have hm : tyE p y ∈ x.args.map (tyE p) := List.mem_map.2 ⟨y, hy, rfl⟩
  unfold ruleT at ht
  by_cases hk0 : x.op = 4 ∨ x.op = 6 ∨ x.op = 7 ∨ x.op = 8 ∨ x.op = 9 ∨ x.op = 10
  · rw [if_pos hk0] at ht
    by_cases hc : com (x.args.map (tyE p)) = 1
    · rw [com_all (by omega) _ hm]; omega
    · rw [if_neg hc] at ht; exact (ht rfl).elim
  rw [if_neg hk0] at ht
  by_cases hk1 : x.op = 5 ∨ x.op = 15 ∨ x.op = 16
  · rw [if_pos hk1] at ht
    by_cases hc : com (x.args.map (tyE p)) = 2
    · rw [com_all (by omega) _ hm]; omega
    · rw [if_neg hc] at ht; exact (ht rfl).elim
  rw [if_neg hk1] at ht
  by_cases hk2 : x.op = 13 ∨ x.op = 14
  · rw [if_pos hk2] at ht
    by_cases hc : com (x.args.map (tyE p)) = 1
    · rw [com_all (by omega) _ hm]; omega
    · rw [if_neg hc] at ht; exact (ht rfl).elim
  rw [if_neg hk2] at ht
  by_cases hk3 : x.op = 11 ∨ x.op = 12
  · rw [if_pos hk3] at ht
    by_cases hc : com (x.args.map (tyE p)) = 0
    · rw [if_pos hc] at ht; exact (ht rfl).elim
    · rw [com_all hc _ hm]; exact hc
  rw [if_neg hk3] at ht
  by_cases hk4 : x.op = 17
  · rw [if_pos hk4] at ht
    by_cases hc : (x.args.map (tyE p)).headD 0 = 2
    · rw [if_pos hc] at ht
      cases hts : x.args.map (tyE p) with
      | nil => rw [hts] at hm; cases hm
      | cons a l =>
        rw [hts] at hm hc ht
        rcases List.mem_cons.1 hm with e | hm'
        · rw [e]; simp at hc; omega
        · rw [com_all (ts := l) ht _ hm']; exact ht
    · rw [if_neg hc] at ht; exact (ht rfl).elim
  rw [if_neg hk4] at ht
  rw [com_all ht _ hm]; exact ht
theorem of_part {p : Pg} {x y : Ex} (h : (ofV p x).2 = 0) (hy : y ∈ x.args) : ofV p y = (tyE p y, 0) ∧ tyE p y ≠ 0 := by
  obtain ⟨h1, h2, h3⟩ := (of_zero p x).1 h
  have ht := part_ty h1 h3 hy
  exact ⟨of_ok (chk_part h1 hy) (asks_part h1 h2 hy) ht, ht⟩
/-- By the operator, what the parts have. -/
theorem ty_num {p : Pg} {x : Ex} (ht : tyE p x ≠ 0) (hk : x.op = 4 ∨ x.op = 6 ∨ x.op = 7 ∨ x.op = 8 ∨ x.op = 9 ∨ x.op = 10) : tyE p x = 1 ∧ ∀ u ∈ x.args.map (tyE p), u = 1 := by
  have h1 : x.op ≠ 1 := by omega
  have h2 : x.op ≠ 2 := by omega
  have h3 : x.op ≠ 3 := by omega
  have e := tyE_eq p x
  rw [if_neg h1, if_neg h2, if_neg h3] at e
  unfold ruleT at e
  rw [if_pos hk] at e
  by_cases hc : com (x.args.map (tyE p)) = 1
  · rw [if_pos hc] at e
    exact ⟨e, fun u hu => (com_all (by omega) u hu).trans hc⟩
  · rw [if_neg hc] at e; exact (ht e).elim
theorem ty_log {p : Pg} {x : Ex} (ht : tyE p x ≠ 0) (hk : x.op = 5 ∨ x.op = 15 ∨ x.op = 16) : tyE p x = 2 ∧ ∀ u ∈ x.args.map (tyE p), u = 2 := by
  have h1 : x.op ≠ 1 := by omega
  have h2 : x.op ≠ 2 := by omega
  have h3 : x.op ≠ 3 := by omega
  have e := tyE_eq p x
  rw [if_neg h1, if_neg h2, if_neg h3] at e
  unfold ruleT at e
  rw [if_neg (by omega), if_pos hk] at e
  by_cases hc : com (x.args.map (tyE p)) = 2
  · rw [if_pos hc] at e
    exact ⟨e, fun u hu => (com_all (by omega) u hu).trans hc⟩
  · rw [if_neg hc] at e; exact (ht e).elim
theorem ty_less {p : Pg} {x : Ex} (ht : tyE p x ≠ 0) (hk : x.op = 13 ∨ x.op = 14) : tyE p x = 2 ∧ ∀ u ∈ x.args.map (tyE p), u = 1 := by
  have h1 : x.op ≠ 1 := by omega
  have h2 : x.op ≠ 2 := by omega
  have h3 : x.op ≠ 3 := by omega
  have e := tyE_eq p x
  rw [if_neg h1, if_neg h2, if_neg h3] at e
  unfold ruleT at e
  rw [if_neg (by omega), if_neg (by omega), if_pos hk] at e
  by_cases hc : com (x.args.map (tyE p)) = 1
  · rw [if_pos hc] at e
    exact ⟨e, fun u hu => (com_all (by omega) u hu).trans hc⟩
  · rw [if_neg hc] at e; exact (ht e).elim
theorem ty_eq {p : Pg} {x : Ex} (ht : tyE p x ≠ 0) (hk : x.op = 11 ∨ x.op = 12) : tyE p x = 2 ∧ ∃ c, ∀ u ∈ x.args.map (tyE p), u = c := by
  have h1 : x.op ≠ 1 := by omega
  have h2 : x.op ≠ 2 := by omega
  have h3 : x.op ≠ 3 := by omega
  have e := tyE_eq p x
  rw [if_neg h1, if_neg h2, if_neg h3] at e
  unfold ruleT at e
  rw [if_neg (by omega), if_neg (by omega), if_neg (by omega), if_pos hk] at e
  by_cases hc : com (x.args.map (tyE p)) = 0
  · rw [if_pos hc] at e; exact (ht e).elim
  · rw [if_neg hc] at e
    exact ⟨e, _, com_all hc⟩
theorem ty_if {p : Pg} {x : Ex} (ht : tyE p x ≠ 0) (hk : x.op = 17) : (x.args.map (tyE p)).headD 0 = 2 ∧ ∀ u ∈ (x.args.map (tyE p)).drop 1, u = tyE p x := by
  have h1 : x.op ≠ 1 := by omega
  have h2 : x.op ≠ 2 := by omega
  have h3 : x.op ≠ 3 := by omega
  have e := tyE_eq p x
  rw [if_neg h1, if_neg h2, if_neg h3] at e
  unfold ruleT at e
  rw [if_neg (by omega), if_neg (by omega), if_neg (by omega), if_neg (by omega), if_pos hk] at e
  by_cases hc : (x.args.map (tyE p)).headD 0 = 2
  · rw [if_pos hc] at e
    refine ⟨hc, fun u hu => ?_⟩
    rw [e]
    exact com_all (fun h => ht (e.trans h)) u hu
  · rw [if_neg hc] at e; exact (ht e).elim
theorem ty_same {p : Pg} {x : Ex} (ht : tyE p x ≠ 0) (hk : x.op = 18 ∨ x.op = 19) : ∀ u ∈ x.args.map (tyE p), u = tyE p x := by
  have h1 : x.op ≠ 1 := by omega
  have h2 : x.op ≠ 2 := by omega
  have h3 : x.op ≠ 3 := by omega
  have e := tyE_eq p x
  rw [if_neg h1, if_neg h2, if_neg h3] at e
  unfold ruleT at e
  rw [if_neg (by omega), if_neg (by omega), if_neg (by omega), if_neg (by omega), if_neg (by omega)] at e
  intro u hu
  rw [e]
  exact com_all (fun h => ht (e.trans h)) u hu
theorem ty_name {p : Pg} {x : Ex} (ht : tyE p x ≠ 0) (hk : x.op = 3) : ∃ z, findT (thingsL p) x.name = some z ∧ z.2.ty = tyE p x := by
  have e := tyE_eq p x
  rw [if_neg (by omega), if_neg (by omega), if_pos hk] at e
  unfold tyN at e
  cases hz : findT (thingsL p) x.name with
  | none => rw [hz] at e; exact (ht e).elim
  | some z =>
    rw [hz] at e
    simp only at e
    by_cases hc : z.2.ty = 1 ∨ z.2.ty = 2
    · rw [if_pos hc] at e; exact ⟨z, rfl, e.symm⟩
    · rw [if_neg hc] at e; exact (ht e).elim
theorem len_parts {x : Ex} (h : chk x = true) (h1 : x.op ≠ 1) (h2 : x.op ≠ 2) (h3 : x.op ≠ 3) : x.args.length = parts x.op := by
  have hf := fields_len h
  unfold fieldsOk at hf
  rw [if_neg h1, if_neg h2, if_neg h3] at hf
  simp only [Bool.and_eq_true, decide_eq_true_eq] at hf
  exact hf.2.2.2
theorem parts_two {op : Nat} (h : op = 11 ∨ op = 12 ∨ op = 18) : parts op = 2 := by
  rcases h with rfl | rfl | rfl <;> decide +kernel
theorem parts_one : parts 19 = 1 := by decide +kernel
end Go.Proofs.YtakjkhfglihggaaDoor.Lex
namespace Go.Proofs.YtakjkhfglihggaaDoor.Lex
open Go.ChangeShapes Go.WideShapes Go.ChangeAt Go.RowKit Go.Joins
def fitT (v : Int) (t : Nat) : Bool := !decide (t = 2) || decide (v = 0) || decide (v = 1)
set_option maxRecDepth 100000 in
set_option maxHeartbeats 1000000 in
theorem fits_t (v : Int) (t : Nat) (w : World) :
    Calls Tryd.prog 41 #[.int .i64 v, .int .u8 (t : Int)] w fun e w' => e = .returned (.bool (fitT v t)) ∧ Below w.heap.size w w' := by
  have B0 := Below.refl w.heap.size w
  by_cases ht : t = 2
  · have ht' : (t : Int) = 2 := by omega
    by_cases h0 : v = 0
    · go_enter Tryd.func41, Tryd.ntmps41
      go_wp2_with (fail)
      go_ret
      refine ⟨?_, B0⟩
      simp [fitT, ht, h0]
    · go_enter Tryd.func41, Tryd.ntmps41
      go_wp2_with (fail)
      go_ret
      refine ⟨?_, B0⟩
      by_cases h1 : v = 1 <;> simp [fitT, ht, h0, h1]
  · have ht' : ¬ (t : Int) = 2 := by omega
    go_enter Tryd.func41, Tryd.ntmps41
    go_wp2_with (fail)
    go_ret
    refine ⟨?_, B0⟩
    simp [fitT, ht]
end Go.Proofs.YtakjkhfglihggaaDoor.Lex
namespace Go.Proofs.YtakjkhfglihggaaDoor.Lex
open Go.ChangeShapes Go.WideShapes Go.ChangeAt Go.RowKit Go.Joins
/-- Is a flow of its type, and its default? -/
def flT (p : Pg) (f : Fl) : Bool := decide (tyE p f.body = f.ty) && fitT f.df f.ty
/-- What types.Check answers. -/
def ckV (p : Pg) : Int := if nmErr p = 0 then (if p.flows.all (flT p) then 0 else 7) else nmErr p
theorem nmErr_ok {p : Pg} (h : nmErr p = 0) : pgOk p = true := by
  unfold nmErr at h
  by_cases hp : pgOk p = true
  · exact hp
  · rw [if_neg hp] at h; omega
set_option maxRecDepth 100000 in
set_option maxHeartbeats 4000000 in
theorem types_check (p : Pg) (w : World) (A B C : Value) (hP : PgAt w p A B C) (hR : TabR w) (hJ : TabJ w) : Calls Tryd.prog 17 #[pgV p A B C] w fun e w' => e = .returned (.int .i64 (ckV p)) ∧ Below w.heap.size w w' := by
  have X0 := hid (FV.new hP hR hJ)
  obtain ⟨ao, cap, sl0, rfl, _⟩ := hP.flows
  clear hP hR hJ
  go_enter Tryd.func17, Tryd.ntmps17
  go_wp2_with (fail)
  refine ((callsIn_wide (n := 20)).1 (names_check p _ _ _ _ X0.out.P X0.out.R X0.out.J)).mono ?_
  rintro e w1 ⟨rfl, hb1⟩
  have X1 := hid (X0.out.keep hb1)
  clear hb1 X0
  by_cases hn : nmErr p = 0
  · have HK := hid (pgOk_chk (nmErr_ok hn))
    have HOV : Hid (ckV p = if p.flows.all (flT p) then 0 else 7) := hid (by unfold ckV; rw [if_pos hn])
    rw [hn]
    clear hn
    go_wp2_with (fail)
    refine (rules _).mono ?_
    rintro e w2 ⟨ab, rfl, hasks, hb2⟩
    have X2 := hid (X1.out.keep hb2)
    have AS := hid hasks
    generalize w1.heap.size = an at AS
    obtain ⟨s0, s1, s2, s3⟩ := row4 X2.out.row
    clear hb2 hasks X1
    go_wp2_with (fail)
    clear s0 s1 s2 s3
    obtain ⟨ao', cap', sl, heq, hlen, _, hok, hc, hs⟩ := X2.out.P.flows
    obtain ⟨rfl, rfl⟩ : ao = ao' ∧ cap = cap' := by simpa using heq
    have HC := hid hc
    have HS := hid hs
    clear hc hs hok heq
    go_loopw [16] (fun i wr => ∃ r : Nat, r ≤ p.flows.length ∧ i = .int .i64 (r : Int) ∧ Hid (∀ z ∈ p.flows.take r, flT p z = true) ∧ Hid (Below w2.heap.size w2 wr)) (fun i _ => p.flows.length - (intOf i).toNat)
    case atStart => exact ⟨0, Nat.zero_le _, rfl, hid (by simp), hid (Below.refl _ _)⟩
    case round =>
      obtain ⟨r, hr, rfl, HE, hB⟩ := hrel
      have FX := hid (X2.out.keep hB.out)
      by_cases hrl : r < p.flows.length
      · have hrl' : (r : Int) < (p.flows.length : Int) := by omega
        have hr0 : (0 : Int) ≤ (r : Int) := by omega
        obtain ⟨gb, go, rfl, hcc⟩ := HC.out.resolve_left (by omega)
        obtain ⟨y0, y1, y2, y3, y4, y5, y6, y7⟩ := (hcc r hrl).keep hB.out
        have HTK := hid (List.take_succ_eq_append_getElem hrl)
        have HMG := hid (List.getElem_mem hrl)
        have HST := hid ((HS.out r hrl).keep hB.out)
        clear hcc
        generalize sl r = sv at *
        generalize hy : p.flows[r] = y at *
        clear hy
        obtain ⟨sa, sc, _, rfl, _⟩ := HST.out.out
        have BA := hid ((Below.refl wr.heap.size wr).alloc (Nat.le_refl _) (.cells #[.string y.name, .int .u8 (y.ty : Int), .int .i64 y.st, .int .i64 y.df, .int .u8 (y.body.op : Int), .int .i64 y.body.n, .string y.body.name, .slice sa y.body.args.length sc] 52))
        have FA := hid (FX.out.keep BA.out)
        have bx := fun j v => box_at wr #[.string y.name, .int .u8 (y.ty : Int), .int .i64 y.st, .int .i64 y.df, .int .u8 (y.body.op : Int), .int .i64 y.body.n, .string y.body.name, .slice sa y.body.args.length sc] 52 j v
        have q0 := bx 0 _ rfl
        have q1 := bx 1 _ rfl
        have q2 := bx 2 _ rfl
        have q3 := bx 3 _ rfl
        have q4 := bx 4 _ rfl
        have q5 := bx 5 _ rfl
        have q6 := bx 6 _ rfl
        have q7 := bx 7 _ rfl
        clear bx
        obtain ⟨s0, s1, s2, s3⟩ := row4 FA.out.row
        have c31 := type_of p y.body (HK.out y HMG.out) _ _ _ _ _ an ab (FA.out.P.keep (Below.refl _ _).drew) ((AS.out.keep (hB.out.trans (BA.out.mono hB.out.size))).keep (Below.refl _ _).drew) ((HST.out.keep BA.out).keep (Below.refl _ _).drew)
        by_cases ht : tyE p y.body = y.ty
        · rw [ht] at c31
          have HTB : Hid (((y.ty : Int) != (y.ty : Int)) = false) := hid (by simp)
          go_wp2_with (fail)
          refine wp_region_held_drew (S := fun W => W.cell? ⟨w.heap.size, 0, none⟩ = some (.int .i64 p.st) ∧ W.cell? ⟨w.heap.size, 1, none⟩ = some (A) ∧ W.cell? ⟨w.heap.size, 2, none⟩ = some ((.slice (some ⟨gb, go, none⟩) p.flows.length cap)) ∧ W.cell? ⟨w.heap.size, 3, none⟩ = some (C) ∧ W.cell? ⟨wr.heap.size, 0, none⟩ = some (.string y.name) ∧ W.cell? ⟨wr.heap.size, 1, none⟩ = some (.int .u8 (y.ty : Int)) ∧ W.cell? ⟨wr.heap.size, 2, none⟩ = some (.int .i64 y.st) ∧ W.cell? ⟨wr.heap.size, 3, none⟩ = some (.int .i64 y.df) ∧ W.cell? ⟨wr.heap.size, 4, none⟩ = some (.int .u8 (y.body.op : Int)) ∧ W.cell? ⟨wr.heap.size, 5, none⟩ = some (.int .i64 y.body.n) ∧ W.cell? ⟨wr.heap.size, 6, none⟩ = some (.string y.body.name) ∧ W.cell? ⟨wr.heap.size, 7, none⟩ = some (.slice sa y.body.args.length sc)) (by kernel_rfl) ?_ (fun hHeld => ?_)
          · exact ⟨s0, s1, s2, s3, q0, q1, q2, q3, q4, q5, q6, q7⟩
          refine wpAnyH_take (i := 0) (oi := { dst := some 20, op := Go.Op.load 26 (Go.Operand.tmp 1), type := 26, pos := _, after := #[], guard := none }) (v := ?_) rfl (by kernel_rfl) (by kernel_rfl) (by kernel_rfl) (fun _ _ _ h => h) (Or.inl ⟨by rfl, ?_⟩) (by assumption) ?_
          rotate_left
          · intro w hSw; (try dsimp only at hSw); go_simp <;> first | with_reducible rfl | (rw [if_neg (by first | omega | (simp only [ByteArray.size_append] at *; omega))])
          simp only [Act.put, List.setIfInBounds_toArray, List.set_cons_zero, List.set_cons_succ]
          refine wpAnyH_take (i := 1) (oi := { dst := some 21, op := Go.Op.move (Go.Operand.tmp 4), type := 68, pos := _, after := #[], guard := none }) (v := ?_) rfl (by kernel_rfl) (by kernel_rfl) (by kernel_rfl) (fun _ _ _ h => h) (Or.inl ⟨by rfl, ?_⟩) (by assumption) ?_
          rotate_left
          · intro w hSw; (try dsimp only at hSw); go_simp <;> first | with_reducible rfl | (rw [if_neg (by first | omega | (simp only [ByteArray.size_append] at *; omega))])
          simp only [Act.put, List.setIfInBounds_toArray, List.set_cons_zero, List.set_cons_succ]
          refine wpAnyH_take (i := 2) (oi := { dst := some 22, op := Go.Op.fieldAddr 52 (Go.Operand.tmp 6) 4, type := 0, pos := _, after := #[], guard := none }) (v := ?_) rfl (by kernel_rfl) (by kernel_rfl) (by kernel_rfl) (fun _ _ _ h => h) (Or.inl ⟨by rfl, ?_⟩) (by assumption) ?_
          rotate_left
          · intro w hSw; (try dsimp only at hSw); go_simp <;> first | with_reducible rfl | (rw [if_neg (by first | omega | (simp only [ByteArray.size_append] at *; omega))])
          simp only [Act.put, List.setIfInBounds_toArray, List.set_cons_zero, List.set_cons_succ]
          refine wpAnyH_take (i := 3) (oi := { dst := some 23, op := Go.Op.load 30 (Go.Operand.tmp 22), type := 30, pos := _, after := #[{ on := 2, ground := Go.Ground.data }], guard := none }) (v := ?_) rfl (by kernel_rfl) (by kernel_rfl) (by kernel_rfl) (fun _ _ _ h => h) (Or.inl ⟨by rfl, ?_⟩) (by assumption) ?_
          rotate_left
          · intro w hSw; (try dsimp only at hSw); go_simp <;> first | with_reducible rfl | (rw [if_neg (by first | omega | (simp only [ByteArray.size_append] at *; omega))])
          simp only [Act.put, List.setIfInBounds_toArray, List.set_cons_zero, List.set_cons_succ]
          refine wpAnyH_take (i := 5) (oi := { dst := some 25, op := Go.Op.fieldAddr 52 (Go.Operand.tmp 6) 1, type := 0, pos := _, after := #[], guard := none }) (v := ?_) rfl (by kernel_rfl) (by kernel_rfl) (by kernel_rfl) (fun _ _ _ h => h) (Or.inl ⟨by rfl, ?_⟩) (by assumption) ?_
          rotate_left
          · intro w hSw; (try dsimp only at hSw); go_simp <;> first | with_reducible rfl | (rw [if_neg (by first | omega | (simp only [ByteArray.size_append] at *; omega))])
          simp only [Act.put, List.setIfInBounds_toArray, List.set_cons_zero, List.set_cons_succ]
          refine wpAnyH_take (i := 6) (oi := { dst := some 26, op := Go.Op.load 35 (Go.Operand.tmp 25), type := 35, pos := _, after := #[{ on := 5, ground := Go.Ground.data }], guard := none }) (v := ?_) rfl (by kernel_rfl) (by kernel_rfl) (by kernel_rfl) (fun _ _ _ h => h) (Or.inl ⟨by rfl, ?_⟩) (by assumption) ?_
          rotate_left
          · intro w hSw; (try dsimp only at hSw); go_simp <;> first | with_reducible rfl | (rw [if_neg (by first | omega | (simp only [ByteArray.size_append] at *; omega))])
          simp only [Act.put, List.setIfInBounds_toArray, List.set_cons_zero, List.set_cons_succ]
          refine wpAnyH_ready (rs := [4]) (by kernel_rfl) (by simp) ?_
          refine AllReadyH.cons (o := { dst := some 24, op := Go.Op.call { callee := Go.Callee.value (Go.Operand.func 31), args := #[Go.Operand.tmp 20, Go.Operand.tmp 21, Go.Operand.tmp 23], argTypes := #[26, 68, 30] }, type := 35, pos := _, after := #[{ on := 0, ground := Go.Ground.data }, { on := 1, ground := Go.Ground.data }, { on := 3, ground := Go.Ground.data }], guard := none }) rfl (fun K hK => ?_) AllReadyH.nil
          go_simp
          refine c31.mono ?_
          rintro e v1 ⟨rfl, hb1⟩
          have HG1 : Hid (Below (wr.alloc (.cells #[.string y.name, .int .u8 (y.ty : Int), .int .i64 y.st, .int .i64 y.df, .int .u8 (y.body.op : Int), .int .i64 y.body.n, .string y.body.name, .slice sa y.body.args.length sc] 52)).heap.size (wr.alloc (.cells #[.string y.name, .int .u8 (y.ty : Int), .int .i64 y.st, .int .i64 y.df, .int .u8 (y.body.op : Int), .int .i64 y.body.n, .string y.body.name, .slice sa y.body.args.length sc] 52)) v1) := hid ((Below.refl _ _).drew.trans (hb1.mono (by simp)))
          have X1 := hid (FA.out.keep HG1.out)
          obtain ⟨t0, t1, t2, t3⟩ := row4 X1.out.row
          have u0 := cell_kept q0 HG1.out
          have u1 := cell_kept q1 HG1.out
          have u2 := cell_kept q2 HG1.out
          have u3 := cell_kept q3 HG1.out
          have u4 := cell_kept q4 HG1.out
          have u5 := cell_kept q5 HG1.out
          have u6 := cell_kept q6 HG1.out
          have u7 := cell_kept q7 HG1.out
          clear hb1
          go_wp2_with fail
          refine hK.out _ _ ?_ (fun hHeld1 => ?_)
          · exact ⟨t0, t1, t2, t3, u0, u1, u2, u3, u4, u5, u6, u7⟩
          clear hK K
          refine wpAnyH_take (i := 7) (oi := { dst := some 27, op := Go.Op.binOp Go.BinOp.neq 35 (Go.Operand.tmp 24) (Go.Operand.tmp 26) 35, type := 4, pos := _, after := #[{ on := 4, ground := Go.Ground.data }, { on := 6, ground := Go.Ground.data }], guard := none }) (v := ?_) rfl (by kernel_rfl) (by kernel_rfl) (by kernel_rfl) (fun _ _ _ h => h) (Or.inl ⟨by rfl, ?_⟩) (by assumption) ?_
          rotate_left
          · intro w hSw; (try dsimp only at hSw); go_simp <;> first | with_reducible rfl | (rw [if_neg (by first | omega | (simp only [ByteArray.size_append] at *; omega))])
          simp only [Act.put, List.setIfInBounds_toArray, List.set_cons_zero, List.set_cons_succ]
          (try simp only [HTB.out])
          refine wpAnyH_take (i := 8) (oi := { dst := some 28, op := Go.Op.move (Go.Operand.tmp 27), type := 4, pos := _, after := #[{ on := 7, ground := Go.Ground.data }, { on := 4, ground := Go.Ground.chain }], guard := none }) (v := ?_) rfl (by kernel_rfl) (by kernel_rfl) (by kernel_rfl) (fun _ _ _ h => h) (Or.inl ⟨by rfl, ?_⟩) (by assumption) ?_
          rotate_left
          · intro w hSw; (try dsimp only at hSw); go_simp <;> first | with_reducible rfl | (rw [if_neg (by first | omega | (simp only [ByteArray.size_append] at *; omega))])
          simp only [Act.put, List.setIfInBounds_toArray, List.set_cons_zero, List.set_cons_succ]
          refine wpAnyH_take (i := 9) (oi := { dst := some 29, op := Go.Op.fieldAddr 52 (Go.Operand.tmp 6) 3, type := 0, pos := _, after := #[{ on := 8, ground := Go.Ground.guard }], guard := some (8, false) }) (v := ?_) rfl (by kernel_rfl) (by kernel_rfl) (by kernel_rfl) (fun _ _ _ h => h) (Or.inl ⟨by rfl, ?_⟩) (by assumption) ?_
          rotate_left
          · intro w hSw; (try dsimp only at hSw); go_simp <;> first | with_reducible rfl | (rw [if_neg (by first | omega | (simp only [ByteArray.size_append] at *; omega))])
          simp only [Act.put, List.setIfInBounds_toArray, List.set_cons_zero, List.set_cons_succ]
          refine wpAnyH_take (i := 10) (oi := { dst := some 30, op := Go.Op.load 2 (Go.Operand.tmp 29), type := 2, pos := _, after := #[{ on := 9, ground := Go.Ground.data }, { on := 8, ground := Go.Ground.guard }], guard := some (8, false) }) (v := ?_) rfl (by kernel_rfl) (by kernel_rfl) (by kernel_rfl) (fun _ _ _ h => h) (Or.inl ⟨by rfl, ?_⟩) (by assumption) ?_
          rotate_left
          · intro w hSw; (try dsimp only at hSw); go_simp <;> first | with_reducible rfl | (rw [if_neg (by first | omega | (simp only [ByteArray.size_append] at *; omega))])
          simp only [Act.put, List.setIfInBounds_toArray, List.set_cons_zero, List.set_cons_succ]
          refine wpAnyH_take (i := 11) (oi := { dst := some 31, op := Go.Op.fieldAddr 52 (Go.Operand.tmp 6) 1, type := 0, pos := _, after := #[{ on := 8, ground := Go.Ground.guard }], guard := some (8, false) }) (v := ?_) rfl (by kernel_rfl) (by kernel_rfl) (by kernel_rfl) (fun _ _ _ h => h) (Or.inl ⟨by rfl, ?_⟩) (by assumption) ?_
          rotate_left
          · intro w hSw; (try dsimp only at hSw); go_simp <;> first | with_reducible rfl | (rw [if_neg (by first | omega | (simp only [ByteArray.size_append] at *; omega))])
          simp only [Act.put, List.setIfInBounds_toArray, List.set_cons_zero, List.set_cons_succ]
          refine wpAnyH_take (i := 12) (oi := { dst := some 32, op := Go.Op.load 35 (Go.Operand.tmp 31), type := 35, pos := _, after := #[{ on := 11, ground := Go.Ground.data }, { on := 8, ground := Go.Ground.guard }], guard := some (8, false) }) (v := ?_) rfl (by kernel_rfl) (by kernel_rfl) (by kernel_rfl) (fun _ _ _ h => h) (Or.inl ⟨by rfl, ?_⟩) (by assumption) ?_
          rotate_left
          · intro w hSw; (try dsimp only at hSw); go_simp <;> first | with_reducible rfl | (rw [if_neg (by first | omega | (simp only [ByteArray.size_append] at *; omega))])
          simp only [Act.put, List.setIfInBounds_toArray, List.set_cons_zero, List.set_cons_succ]
          refine wpAnyH_ready (rs := [13]) (by kernel_rfl) (by simp) ?_
          refine AllReadyH.cons (o := { dst := some 33, op := Go.Op.call { callee := Go.Callee.value (Go.Operand.func 41), args := #[Go.Operand.tmp 30, Go.Operand.tmp 32], argTypes := #[2, 35] }, type := 4, pos := _, after := #[{ on := 10, ground := Go.Ground.data }, { on := 12, ground := Go.Ground.data }, { on := 8, ground := Go.Ground.chain }, { on := 8, ground := Go.Ground.guard }], guard := some (8, false) }) rfl (fun K hK => ?_) AllReadyH.nil
          go_simp
          refine (fits_t y.df y.ty _).mono ?_
          rintro e v2 ⟨rfl, hb2⟩
          have X2' := hid (X1.out.keep hb2)
          obtain ⟨m0, m1, m2, m3⟩ := row4 X2'.out.row
          have n0 := cell_kept u0 hb2
          have n1 := cell_kept u1 hb2
          have n2 := cell_kept u2 hb2
          have n3 := cell_kept u3 hb2
          have n4 := cell_kept u4 hb2
          have n5 := cell_kept u5 hb2
          have n6 := cell_kept u6 hb2
          have n7 := cell_kept u7 hb2
          have HG2 := hid hb2
          clear hb2
          go_wp2_with fail
          refine hK.out _ _ ?_ (fun hHeld2 => ?_)
          · exact ⟨m0, m1, m2, m3, n0, n1, n2, n3, n4, n5, n6, n7⟩
          clear hK K
          refine wpAnyH_take (i := 14) (oi := { dst := some 34, op := Go.Op.unOp Go.UnOp.not 4 (Go.Operand.tmp 33), type := 4, pos := _, after := #[{ on := 13, ground := Go.Ground.data }, { on := 8, ground := Go.Ground.guard }], guard := some (8, false) }) (v := ?_) rfl (by kernel_rfl) (by kernel_rfl) (by kernel_rfl) (fun _ _ _ h => h) (Or.inl ⟨by rfl, ?_⟩) (by assumption) ?_
          rotate_left
          · intro w hSw; (try dsimp only at hSw); go_simp <;> first | with_reducible rfl | (rw [if_neg (by first | omega | (simp only [ByteArray.size_append] at *; omega))])
          simp only [Act.put, List.setIfInBounds_toArray, List.set_cons_zero, List.set_cons_succ]
          refine wpAnyH_take (i := 15) (oi := { dst := some 35, op := Go.Op.pick (Go.Operand.tmp 28) (Go.Operand.const (Go.Value.bool true)) (Go.Operand.tmp 34), type := 4, pos := _, after := #[{ on := 8, ground := Go.Ground.data }, { on := 14, ground := Go.Ground.data }], guard := none }) (v := ?_) rfl (by kernel_rfl) (by kernel_rfl) (by kernel_rfl) (fun _ _ _ h => h) (Or.inl ⟨by rfl, ?_⟩) (by assumption) ?_
          rotate_left
          · intro w hSw; (try dsimp only at hSw); go_simp <;> first | with_reducible rfl | (rw [if_neg (by first | omega | (simp only [ByteArray.size_append] at *; omega))])
          simp only [Act.put, List.setIfInBounds_toArray, List.set_cons_zero, List.set_cons_succ]
          refine wpAnyH_done (by kernel_rfl) ?_ _
          clear s0 s1 s2 s3 t0 t1 t2 t3 m0 m1 m2 m3 q0 q1 q2 q3 q4 q5 q6 q7 u0 u1 u2 u3 u4 u5 u6 u7 n0 n1 n2 n3 n4 n5 n6 n7 y0 y1 y2 y3 y4 y5 y6 y7
          cases hf : fitT y.df y.ty with
          | true =>
            have HE2 : Hid (∀ q ∈ p.flows.take (r + 1), flT p q = true) := hid (fun q hq => by
              rw [HTK.out] at hq
              rcases List.mem_append.1 hq with h | h
              · exact HE.out q h
              · rw [List.mem_singleton.1 h]; unfold flT; rw [hf, ht]; simp)
            have HB3 := hid (hB.out.trans ((bstep (bstep BA.out HG1.out) HG2.out).mono hB.out.size))
            clear hf ht
            go_wp2_with (fail)
            go_roundw
            case rel => exact ⟨r + 1, by omega, by go_num, HE2, HB3⟩
            case measure => simp [intOf]; omega
          | false =>
            have HV : Hid (ckV p = 7) := hid (by rw [HOV.out, if_neg]; intro h; have := List.all_eq_true.1 h y HMG.out; unfold flT at this; rw [hf] at this; simp at this)
            clear hf ht
            go_wp2_with (fail)
            go_ret
            exact ⟨by rw [HV.out]; rfl, X2'.out.below⟩
        · have HTB : Hid (((tyE p y.body : Int) != (y.ty : Int)) = true) := hid (by rw [bne_iff_ne]; omega)
          have HV : Hid (ckV p = 7) := hid (by rw [HOV.out, if_neg]; intro h; have := List.all_eq_true.1 h y HMG.out; unfold flT at this; simp [ht] at this)
          generalize tyE p y.body = ty at *
          go_wp2_with (fail)
          refine wp_region_held_drew (S := fun W => W.cell? ⟨w.heap.size, 0, none⟩ = some (.int .i64 p.st) ∧ W.cell? ⟨w.heap.size, 1, none⟩ = some (A) ∧ W.cell? ⟨w.heap.size, 2, none⟩ = some ((.slice (some ⟨gb, go, none⟩) p.flows.length cap)) ∧ W.cell? ⟨w.heap.size, 3, none⟩ = some (C) ∧ W.cell? ⟨wr.heap.size, 0, none⟩ = some (.string y.name) ∧ W.cell? ⟨wr.heap.size, 1, none⟩ = some (.int .u8 (y.ty : Int)) ∧ W.cell? ⟨wr.heap.size, 2, none⟩ = some (.int .i64 y.st) ∧ W.cell? ⟨wr.heap.size, 3, none⟩ = some (.int .i64 y.df) ∧ W.cell? ⟨wr.heap.size, 4, none⟩ = some (.int .u8 (y.body.op : Int)) ∧ W.cell? ⟨wr.heap.size, 5, none⟩ = some (.int .i64 y.body.n) ∧ W.cell? ⟨wr.heap.size, 6, none⟩ = some (.string y.body.name) ∧ W.cell? ⟨wr.heap.size, 7, none⟩ = some (.slice sa y.body.args.length sc)) (by kernel_rfl) ?_ (fun hHeld => ?_)
          · exact ⟨s0, s1, s2, s3, q0, q1, q2, q3, q4, q5, q6, q7⟩
          refine wpAnyH_take (i := 0) (oi := { dst := some 20, op := Go.Op.load 26 (Go.Operand.tmp 1), type := 26, pos := _, after := #[], guard := none }) (v := ?_) rfl (by kernel_rfl) (by kernel_rfl) (by kernel_rfl) (fun _ _ _ h => h) (Or.inl ⟨by rfl, ?_⟩) (by assumption) ?_
          rotate_left
          · intro w hSw; (try dsimp only at hSw); go_simp <;> first | with_reducible rfl | (rw [if_neg (by first | omega | (simp only [ByteArray.size_append] at *; omega))])
          simp only [Act.put, List.setIfInBounds_toArray, List.set_cons_zero, List.set_cons_succ]
          refine wpAnyH_take (i := 1) (oi := { dst := some 21, op := Go.Op.move (Go.Operand.tmp 4), type := 68, pos := _, after := #[], guard := none }) (v := ?_) rfl (by kernel_rfl) (by kernel_rfl) (by kernel_rfl) (fun _ _ _ h => h) (Or.inl ⟨by rfl, ?_⟩) (by assumption) ?_
          rotate_left
          · intro w hSw; (try dsimp only at hSw); go_simp <;> first | with_reducible rfl | (rw [if_neg (by first | omega | (simp only [ByteArray.size_append] at *; omega))])
          simp only [Act.put, List.setIfInBounds_toArray, List.set_cons_zero, List.set_cons_succ]
          refine wpAnyH_take (i := 2) (oi := { dst := some 22, op := Go.Op.fieldAddr 52 (Go.Operand.tmp 6) 4, type := 0, pos := _, after := #[], guard := none }) (v := ?_) rfl (by kernel_rfl) (by kernel_rfl) (by kernel_rfl) (fun _ _ _ h => h) (Or.inl ⟨by rfl, ?_⟩) (by assumption) ?_
          rotate_left
          · intro w hSw; (try dsimp only at hSw); go_simp <;> first | with_reducible rfl | (rw [if_neg (by first | omega | (simp only [ByteArray.size_append] at *; omega))])
          simp only [Act.put, List.setIfInBounds_toArray, List.set_cons_zero, List.set_cons_succ]
          refine wpAnyH_take (i := 3) (oi := { dst := some 23, op := Go.Op.load 30 (Go.Operand.tmp 22), type := 30, pos := _, after := #[{ on := 2, ground := Go.Ground.data }], guard := none }) (v := ?_) rfl (by kernel_rfl) (by kernel_rfl) (by kernel_rfl) (fun _ _ _ h => h) (Or.inl ⟨by rfl, ?_⟩) (by assumption) ?_
          rotate_left
          · intro w hSw; (try dsimp only at hSw); go_simp <;> first | with_reducible rfl | (rw [if_neg (by first | omega | (simp only [ByteArray.size_append] at *; omega))])
          simp only [Act.put, List.setIfInBounds_toArray, List.set_cons_zero, List.set_cons_succ]
          refine wpAnyH_take (i := 5) (oi := { dst := some 25, op := Go.Op.fieldAddr 52 (Go.Operand.tmp 6) 1, type := 0, pos := _, after := #[], guard := none }) (v := ?_) rfl (by kernel_rfl) (by kernel_rfl) (by kernel_rfl) (fun _ _ _ h => h) (Or.inl ⟨by rfl, ?_⟩) (by assumption) ?_
          rotate_left
          · intro w hSw; (try dsimp only at hSw); go_simp <;> first | with_reducible rfl | (rw [if_neg (by first | omega | (simp only [ByteArray.size_append] at *; omega))])
          simp only [Act.put, List.setIfInBounds_toArray, List.set_cons_zero, List.set_cons_succ]
          refine wpAnyH_take (i := 6) (oi := { dst := some 26, op := Go.Op.load 35 (Go.Operand.tmp 25), type := 35, pos := _, after := #[{ on := 5, ground := Go.Ground.data }], guard := none }) (v := ?_) rfl (by kernel_rfl) (by kernel_rfl) (by kernel_rfl) (fun _ _ _ h => h) (Or.inl ⟨by rfl, ?_⟩) (by assumption) ?_
          rotate_left
          · intro w hSw; (try dsimp only at hSw); go_simp <;> first | with_reducible rfl | (rw [if_neg (by first | omega | (simp only [ByteArray.size_append] at *; omega))])
          simp only [Act.put, List.setIfInBounds_toArray, List.set_cons_zero, List.set_cons_succ]
          refine wpAnyH_ready (rs := [4]) (by kernel_rfl) (by simp) ?_
          refine AllReadyH.cons (o := { dst := some 24, op := Go.Op.call { callee := Go.Callee.value (Go.Operand.func 31), args := #[Go.Operand.tmp 20, Go.Operand.tmp 21, Go.Operand.tmp 23], argTypes := #[26, 68, 30] }, type := 35, pos := _, after := #[{ on := 0, ground := Go.Ground.data }, { on := 1, ground := Go.Ground.data }, { on := 3, ground := Go.Ground.data }], guard := none }) rfl (fun K hK => ?_) AllReadyH.nil
          go_simp
          refine c31.mono ?_
          rintro e v1 ⟨rfl, hb1⟩
          have HG1 : Hid (Below (wr.alloc (.cells #[.string y.name, .int .u8 (y.ty : Int), .int .i64 y.st, .int .i64 y.df, .int .u8 (y.body.op : Int), .int .i64 y.body.n, .string y.body.name, .slice sa y.body.args.length sc] 52)).heap.size (wr.alloc (.cells #[.string y.name, .int .u8 (y.ty : Int), .int .i64 y.st, .int .i64 y.df, .int .u8 (y.body.op : Int), .int .i64 y.body.n, .string y.body.name, .slice sa y.body.args.length sc] 52)) v1) := hid ((Below.refl _ _).drew.trans (hb1.mono (by simp)))
          have X1 := hid (FA.out.keep HG1.out)
          obtain ⟨t0, t1, t2, t3⟩ := row4 X1.out.row
          have u0 := cell_kept q0 HG1.out
          have u1 := cell_kept q1 HG1.out
          have u2 := cell_kept q2 HG1.out
          have u3 := cell_kept q3 HG1.out
          have u4 := cell_kept q4 HG1.out
          have u5 := cell_kept q5 HG1.out
          have u6 := cell_kept q6 HG1.out
          have u7 := cell_kept q7 HG1.out
          clear hb1
          go_wp2_with fail
          refine hK.out _ _ ?_ (fun hHeld1 => ?_)
          · exact ⟨t0, t1, t2, t3, u0, u1, u2, u3, u4, u5, u6, u7⟩
          clear hK K
          refine wpAnyH_take (i := 7) (oi := { dst := some 27, op := Go.Op.binOp Go.BinOp.neq 35 (Go.Operand.tmp 24) (Go.Operand.tmp 26) 35, type := 4, pos := _, after := #[{ on := 4, ground := Go.Ground.data }, { on := 6, ground := Go.Ground.data }], guard := none }) (v := ?_) rfl (by kernel_rfl) (by kernel_rfl) (by kernel_rfl) (fun _ _ _ h => h) (Or.inl ⟨by rfl, ?_⟩) (by assumption) ?_
          rotate_left
          · intro w hSw; (try dsimp only at hSw); go_simp <;> first | with_reducible rfl | (rw [if_neg (by first | omega | (simp only [ByteArray.size_append] at *; omega))])
          simp only [Act.put, List.setIfInBounds_toArray, List.set_cons_zero, List.set_cons_succ]
          (try simp only [HTB.out])
          refine wpAnyH_take (i := 8) (oi := { dst := some 28, op := Go.Op.move (Go.Operand.tmp 27), type := 4, pos := _, after := #[{ on := 7, ground := Go.Ground.data }, { on := 4, ground := Go.Ground.chain }], guard := none }) (v := ?_) rfl (by kernel_rfl) (by kernel_rfl) (by kernel_rfl) (fun _ _ _ h => h) (Or.inl ⟨by rfl, ?_⟩) (by assumption) ?_
          rotate_left
          · intro w hSw; (try dsimp only at hSw); go_simp <;> first | with_reducible rfl | (rw [if_neg (by first | omega | (simp only [ByteArray.size_append] at *; omega))])
          simp only [Act.put, List.setIfInBounds_toArray, List.set_cons_zero, List.set_cons_succ]
          refine wpAnyH_take (i := 9) (oi := { dst := some 29, op := Go.Op.fieldAddr 52 (Go.Operand.tmp 6) 3, type := 0, pos := _, after := #[{ on := 8, ground := Go.Ground.guard }], guard := some (8, false) }) (v := undef) rfl (by kernel_rfl) (by kernel_rfl) (by kernel_rfl) (fun _ _ _ h => h) (Or.inr ⟨by rfl, rfl⟩) (by assumption) ?_
          simp only [Act.put, List.setIfInBounds_toArray, List.set_cons_zero, List.set_cons_succ]
          refine wpAnyH_take (i := 10) (oi := { dst := some 30, op := Go.Op.load 2 (Go.Operand.tmp 29), type := 2, pos := _, after := #[{ on := 9, ground := Go.Ground.data }, { on := 8, ground := Go.Ground.guard }], guard := some (8, false) }) (v := undef) rfl (by kernel_rfl) (by kernel_rfl) (by kernel_rfl) (fun _ _ _ h => h) (Or.inr ⟨by rfl, rfl⟩) (by assumption) ?_
          simp only [Act.put, List.setIfInBounds_toArray, List.set_cons_zero, List.set_cons_succ]
          refine wpAnyH_take (i := 11) (oi := { dst := some 31, op := Go.Op.fieldAddr 52 (Go.Operand.tmp 6) 1, type := 0, pos := _, after := #[{ on := 8, ground := Go.Ground.guard }], guard := some (8, false) }) (v := undef) rfl (by kernel_rfl) (by kernel_rfl) (by kernel_rfl) (fun _ _ _ h => h) (Or.inr ⟨by rfl, rfl⟩) (by assumption) ?_
          simp only [Act.put, List.setIfInBounds_toArray, List.set_cons_zero, List.set_cons_succ]
          refine wpAnyH_take (i := 12) (oi := { dst := some 32, op := Go.Op.load 35 (Go.Operand.tmp 31), type := 35, pos := _, after := #[{ on := 11, ground := Go.Ground.data }, { on := 8, ground := Go.Ground.guard }], guard := some (8, false) }) (v := undef) rfl (by kernel_rfl) (by kernel_rfl) (by kernel_rfl) (fun _ _ _ h => h) (Or.inr ⟨by rfl, rfl⟩) (by assumption) ?_
          simp only [Act.put, List.setIfInBounds_toArray, List.set_cons_zero, List.set_cons_succ]
          refine wpAnyH_take (i := 13) (oi := { dst := some 33, op := Go.Op.call { callee := Go.Callee.value (Go.Operand.func 41), args := #[Go.Operand.tmp 30, Go.Operand.tmp 32], argTypes := #[2, 35] }, type := 4, pos := _, after := #[{ on := 10, ground := Go.Ground.data }, { on := 12, ground := Go.Ground.data }, { on := 8, ground := Go.Ground.chain }, { on := 8, ground := Go.Ground.guard }], guard := some (8, false) }) (v := undef) rfl (by kernel_rfl) (by kernel_rfl) (by kernel_rfl) (fun _ _ _ h => h) (Or.inr ⟨by rfl, rfl⟩) (by assumption) ?_
          simp only [Act.put, List.setIfInBounds_toArray, List.set_cons_zero, List.set_cons_succ]
          refine wpAnyH_take (i := 14) (oi := { dst := some 34, op := Go.Op.unOp Go.UnOp.not 4 (Go.Operand.tmp 33), type := 4, pos := _, after := #[{ on := 13, ground := Go.Ground.data }, { on := 8, ground := Go.Ground.guard }], guard := some (8, false) }) (v := undef) rfl (by kernel_rfl) (by kernel_rfl) (by kernel_rfl) (fun _ _ _ h => h) (Or.inr ⟨by rfl, rfl⟩) (by assumption) ?_
          simp only [Act.put, List.setIfInBounds_toArray, List.set_cons_zero, List.set_cons_succ]
          refine wpAnyH_take (i := 15) (oi := { dst := some 35, op := Go.Op.pick (Go.Operand.tmp 28) (Go.Operand.const (Go.Value.bool true)) (Go.Operand.tmp 34), type := 4, pos := _, after := #[{ on := 8, ground := Go.Ground.data }, { on := 14, ground := Go.Ground.data }], guard := none }) (v := ?_) rfl (by kernel_rfl) (by kernel_rfl) (by kernel_rfl) (fun _ _ _ h => h) (Or.inl ⟨by rfl, ?_⟩) (by assumption) ?_
          rotate_left
          · intro w hSw; (try dsimp only at hSw); go_simp <;> first | with_reducible rfl | (rw [if_neg (by first | omega | (simp only [ByteArray.size_append] at *; omega))])
          simp only [Act.put, List.setIfInBounds_toArray, List.set_cons_zero, List.set_cons_succ]
          refine wpAnyH_done (by kernel_rfl) ?_ _
          go_wp2_with (fail)
          go_ret
          exact ⟨by rw [HV.out]; rfl, X1.out.below⟩
      · have hrl' : ¬ (r : Int) < (p.flows.length : Int) := by omega
        obtain rfl : r = p.flows.length := by omega
        have HV : Hid (ckV p = 0) := hid (by rw [HOV.out, if_pos]; exact List.all_eq_true.2 (fun q hq => HE.out q (by rw [List.take_length]; exact hq)))
        go_wp2_with (fail)
        go_ret
        exact ⟨by rw [HV.out]; rfl, FX.out.below⟩
  · have HV : Hid (ckV p = nmErr p) := hid (by unfold ckV; rw [if_neg hn])
    generalize nmErr p = ne at *
    go_wp2_with (fail)
    go_ret
    exact ⟨by rw [HV.out]; rfl, X1.out.below⟩
end Go.Proofs.YtakjkhfglihggaaDoor.Lex
namespace Go.Proofs.YtakjkhfglihggaaDoor.Lex
open Go.ChangeShapes Go.WideShapes Go.ChangeAt Go.RowKit Go.Joins
theorem row4e {W : World} {k : Nat} {x : Ex} {D : Value} (h : W.heap[k]? = some (.cells #[.int .u8 (x.op : Int), .int .i64 x.n, .string x.name, D] 30 (0, 0))) : W.cell? ⟨k, 0, none⟩ = some (.int .u8 (x.op : Int)) ∧ W.cell? ⟨k, 1, none⟩ = some (.int .i64 x.n) ∧ W.cell? ⟨k, 2, none⟩ = some (.string x.name) ∧ W.cell? ⟨k, 3, none⟩ = some D :=
  ⟨(cell_of_row _ _ _ _ 30 (0, 0) h).trans rfl, (cell_of_row _ _ _ _ 30 (0, 0) h).trans rfl, (cell_of_row _ _ _ _ 30 (0, 0) h).trans rfl, (cell_of_row _ _ _ _ 30 (0, 0) h).trans rfl⟩
/-- The chapter's program. -/
def smQ : Pg := ⟨1, [⟨⟨#[97]⟩, 1, 1⟩, ⟨⟨#[98]⟩, 2, 1⟩], [], []⟩
abbrev N0 : Value := .slice none 0 0
theorem pg_small {W : World} {b : Nat} (h : W.heap[b]? = some (.cells #[.string ⟨#[97]⟩, .int .u8 1, .int .i64 1, .string ⟨#[98]⟩, .int .u8 2, .int .i64 1] 59 (0, 0))) : PgAt W smQ (.slice (some ⟨b, 0, none⟩) 2 2) N0 N0 where
  ins := by
    refine ⟨some ⟨b, 0, none⟩, 2, rfl, by decide, by decide, ?_, .inr ⟨b, 0, rfl, fun i hi => ?_⟩⟩
    · intro x hx
      simp only [smQ, List.mem_cons, List.not_mem_nil, or_false] at hx
      rcases hx with rfl | rfl <;> refine ⟨by show (1 : Nat) ≤ _; omega, by decide, by decide, by decide⟩
    · have hi2 : i < 2 := hi
      rcases (by omega : i = 0 ∨ i = 1) with rfl | rfl <;> refine ⟨?_, ?_, ?_⟩ <;> (rw [cell_of_row _ _ _ _ 59 (0, 0) h]; rfl)
  flows := ⟨none, 0, fun _ => N0, rfl, by decide, by decide, fun x hx => (List.not_mem_nil hx).elim, .inl rfl, fun i hi => absurd hi (Nat.not_lt_zero i)⟩
  outs := ⟨none, 0, rfl, by decide, by decide, fun x hx => (List.not_mem_nil hx).elim, .inl rfl⟩
  st := by decide
set_option maxRecDepth 100000 in
set_option maxHeartbeats 1000000 in
theorem small_at (w : World) : Calls Tryd.prog 46 #[] w fun e w' => ∃ b, e = .returned (pgV smQ (.slice (some ⟨b, 0, none⟩) 2 2) N0 N0) ∧ PgAt w' smQ (.slice (some ⟨b, 0, none⟩) 2 2) N0 N0 ∧ Below w.heap.size w w' := by
  go_enter Tryd.func46, Tryd.ntmps46
  go_wp2
  have hb := fun o0 o1 => ((Below.refl w.heap.size w).alloc (by simp; try omega) o0).alloc (by simp; try omega) o1
  refine bodyPost_ret (v := pgV smQ (.slice (some ⟨w.heap.size + 1, 0, none⟩) 2 2) N0 N0) ?_ rfl ⟨_, rfl, pg_small (push_new _ _ _ (by simp)), hb _ _⟩
  simp [results, Tryd.f46, go_sem]
  rfl
abbrev c30 : Array Value := #[.int .u8 0, .int .i64 0, .string ⟨#[]⟩, .slice none 0 0]
theorem info30 : (Tryd.prog.info? 30).map (·.size) = some 4 := by kernel_rfl
theorem name_at (s : ByteArray) (w : World) : Calls Tryd.prog 43 #[.string s] w fun e w' => e = .returned (exV ⟨3, 0, s, []⟩ (.slice none 0 0)) ∧ Below w.heap.size w w' := by
  have B0 := hid ((Below.refl w.heap.size w).alloc (Nat.le_refl _) (.cells c30 30))
  have X0 := heap_alloc_new w (.cells c30 30)
  go_enter Tryd.func43, Tryd.ntmps43
  go_wp2_with (refine wpList_store_row rfl 30 _ _ rfl w.heap.size #[.int .u8 3, .int .i64 0, .string s, .slice none 0 0] rfl rfl 30 _ X0 info30 rfl (by simp [Value.oneCell']) ?_)
  exact bodyPost_ret (results_cell_row rfl _ _ w.heap.size 30 #[.int .u8 3, .int .i64 0, .string s, .slice none 0 0] (0, 0) _ rfl (setRow_heap _ _ _ _ _ _ X0) Tryd.underlying30 rfl info30) rfl ⟨rfl, below_row B0.out B0.out.size (Nat.le_refl _) _⟩
/-- of, as a value. -/
theorem of_pl (z : Int) (a : Option Addr) (n c : Nat) (w : World) : Calls Tryd.prog 45 #[.int .u8 z, .slice a n c] w fun e w' => e = .returned (.agg #[.int .u8 z, .int .i64 0, .string ⟨#[]⟩, .slice a n c]) ∧ Below w.heap.size w w' := by
  have B0 := hid ((Below.refl w.heap.size w).alloc (Nat.le_refl _) (.cells c30 30))
  have X0 := heap_alloc_new w (.cells c30 30)
  go_enter Tryd.func45, Tryd.ntmps45
  go_wp2_with (refine wpList_store_row rfl 30 _ _ rfl w.heap.size #[.int .u8 z, .int .i64 0, .string ⟨#[]⟩, .slice a n c] rfl rfl 30 _ X0 info30 rfl (by simp [Value.oneCell']) ?_)
  exact bodyPost_ret (results_cell_row rfl _ _ w.heap.size 30 #[.int .u8 z, .int .i64 0, .string ⟨#[]⟩, .slice a n c] (0, 0) _ rfl (setRow_heap _ _ _ _ _ _ X0) Tryd.underlying30 rfl info30) rfl ⟨rfl, below_row B0.out B0.out.size (Nat.le_refl _) _⟩
/-- Something that is worked out, in its variable. -/
structure XQ (w : World) (x : Ex) (ao : Option Addr) (cap : Nat) (W : World) : Prop where
  row : W.heap[w.heap.size]? = some (.cells #[.int .u8 (x.op : Int), .int .i64 x.n, .string x.name, .slice ao x.args.length cap] 30 (0, 0))
  S : St W x (.slice ao x.args.length cap)
  R : TabR W
  J : TabJ W
  below : Below w.heap.size w W
theorem XQ.keep {w W W' : World} {x : Ex} {ao : Option Addr} {cap : Nat} (h : XQ w x ao cap W) (hb : Below W.heap.size W W') : XQ w x ao cap W' :=
  ⟨keep_row h.row hb, h.S.keep hb, h.R.below hb, h.J.below hb, h.below.trans (hb.mono h.below.size)⟩
theorem XQ.cells {w W : World} {x : Ex} {ao : Option Addr} {cap : Nat} (h : XQ w x ao cap W) : W.cell? ⟨w.heap.size, 0, none⟩ = some (.int .u8 (x.op : Int)) ∧ W.cell? ⟨w.heap.size, 1, none⟩ = some (.int .i64 x.n) ∧ W.cell? ⟨w.heap.size, 2, none⟩ = some (.string x.name) ∧ W.cell? ⟨w.heap.size, 3, none⟩ = some (.slice ao x.args.length cap) := row4e h.row
set_option maxRecDepth 100000 in
set_option maxHeartbeats 2000000 in
theorem is_at (x : Ex) (t : Nat) (er : Int) (ho : ofV smQ x = (t, er)) (w : World) (s : Value) (hS : St w x s) (hR : TabR w) (hJ : TabJ w) : Calls Tryd.prog 44 #[exV x s, .int .u8 (t : Int), .int .i64 er] w fun e w' => e = .returned (.bool true) ∧ Below w.heap.size w w' := by
  obtain ⟨ao, cap, _, rfl, _⟩ := hS.out
  have b0 := (Below.refl w.heap.size w).alloc (Nat.le_refl _) (.cells #[.int .u8 (x.op : Int), .int .i64 x.n, .string x.name, .slice ao x.args.length cap] 30)
  have X0 : Hid (XQ w x ao cap (w.alloc (.cells #[.int .u8 (x.op : Int), .int .i64 x.n, .string x.name, .slice ao x.args.length cap] 30))) := hid ⟨heap_alloc_new w _, hS.keep b0, hR.below b0, hJ.below b0, b0⟩
  have HO := hid ho
  clear b0 hS hR hJ ho
  obtain ⟨p0, p1, p2, p3⟩ := X0.out.cells
  go_enter Tryd.func44, Tryd.ntmps44
  go_wp2_with (fail)
  generalize w.alloc (.cells #[.int .u8 (x.op : Int), .int .i64 x.n, .string x.name, .slice ao x.args.length cap] 30) = W0 at *
  refine wp_region_held_drew (S := fun W => W.cell? ⟨w.heap.size, 0, none⟩ = some (.int .u8 (x.op : Int)) ∧ W.cell? ⟨w.heap.size, 1, none⟩ = some (.int .i64 x.n) ∧ W.cell? ⟨w.heap.size, 2, none⟩ = some (.string x.name) ∧ W.cell? ⟨w.heap.size, 3, none⟩ = some (.slice ao x.args.length cap)) (by kernel_rfl) ?_ (fun hHeld => ?_)
  · exact ⟨p0, p1, p2, p3⟩
  refine wpAnyH_take (i := 1) (oi := { dst := some 11, op := Go.Op.load 30 (Go.Operand.tmp 3), type := 30, pos := _, after := #[], guard := none }) (v := ?_) rfl (by kernel_rfl) (by kernel_rfl) (by kernel_rfl) (fun _ _ _ h => h) (Or.inl ⟨by rfl, ?_⟩) (by assumption) ?_
  rotate_left
  · intro w hSw; (try dsimp only at hSw); go_simp <;> first | with_reducible rfl | (rw [if_neg (by first | omega | (simp only [ByteArray.size_append] at *; omega))])
  simp only [Act.put, List.setIfInBounds_toArray, List.set_cons_zero, List.set_cons_succ]
  refine wpAnyH_ready (rs := [0]) (by kernel_rfl) (by simp) ?_
  refine AllReadyH.cons (o := { dst := some 10, op := Go.Op.call { callee := Go.Callee.value (Go.Operand.func 46), args := #[], argTypes := #[] }, type := 26, pos := _, after := #[], guard := none }) rfl (fun K hK => ?_) AllReadyH.nil
  go_simp
  refine (small_at _).mono ?_
  rintro e w1 ⟨sb, rfl, hP1, hb1'⟩
  have hb1 : Below W0.heap.size W0 w1 := (Below.refl _ _).drew.trans (hb1'.mono (by simp))
  have X1 := hid (X0.out.keep hb1)
  have P1 := hid hP1
  obtain ⟨q0, q1, q2, q3⟩ := X1.out.cells
  clear hP1 hb1 hb1'
  go_wp2_with fail
  refine hK.out _ _ ?_ (fun hHeld1 => ?_)
  · exact ⟨q0, q1, q2, q3⟩
  clear hK K
  refine wpAnyH_ready (rs := [2]) (by kernel_rfl) (by simp) ?_
  refine AllReadyH.cons (o := { dst := some 12, op := Go.Op.call { callee := Go.Callee.value (Go.Operand.func 13), args := #[Go.Operand.tmp 10, Go.Operand.tmp 11], argTypes := #[26, 30] }, type := 37, pos := _, after := #[{ on := 0, ground := Go.Ground.data }, { on := 1, ground := Go.Ground.data }, { on := 0, ground := Go.Ground.chain }], guard := none }) rfl (fun K hK => ?_) AllReadyH.nil
  go_simp
  refine (of_ smQ x _ _ _ _ _ P1.out X1.out.S X1.out.R X1.out.J).mono ?_
  rintro e w2 ⟨rfl, hb2⟩
  have X2 := hid (X1.out.keep hb2)
  obtain ⟨t0, t1, t2, t3⟩ := X2.out.cells
  rw [HO.out]
  clear hb2
  go_wp2_with fail
  refine hK.out _ _ ?_ (fun hHeld2 => ?_)
  · exact ⟨t0, t1, t2, t3⟩
  clear hK K
  refine wpAnyH_take (i := 3) (oi := { dst := some 9, op := Go.Op.move (Go.Operand.tmp 12), type := 37, pos := _, after := #[{ on := 2, ground := Go.Ground.data }], guard := none }) (v := ?_) rfl (by kernel_rfl) (by kernel_rfl) (by kernel_rfl) (fun _ _ _ h => h) (Or.inl ⟨by rfl, ?_⟩) (by assumption) ?_
  rotate_left
  · intro w hSw; (try dsimp only at hSw); go_simp <;> first | with_reducible rfl | (rw [if_neg (by first | omega | (simp only [ByteArray.size_append] at *; omega))])
  simp only [Act.put, List.setIfInBounds_toArray, List.set_cons_zero, List.set_cons_succ]
  refine wpAnyH_take (i := 4) (oi := { dst := some 13, op := Go.Op.extract (Go.Operand.tmp 9) 0, type := 35, pos := _, after := #[{ on := 3, ground := Go.Ground.data }], guard := none }) (v := ?_) rfl (by kernel_rfl) (by kernel_rfl) (by kernel_rfl) (fun _ _ _ h => h) (Or.inl ⟨by rfl, ?_⟩) (by assumption) ?_
  rotate_left
  · intro w hSw; (try dsimp only at hSw); go_simp <;> first | with_reducible rfl | (rw [if_neg (by first | omega | (simp only [ByteArray.size_append] at *; omega))])
  simp only [Act.put, List.setIfInBounds_toArray, List.set_cons_zero, List.set_cons_succ]
  refine wpAnyH_take (i := 5) (oi := { dst := some 14, op := Go.Op.extract (Go.Operand.tmp 9) 1, type := 36, pos := _, after := #[{ on := 3, ground := Go.Ground.data }, { on := 6, ground := Go.Ground.gcOnly Go.Departure.lateStores }], guard := none }) (v := ?_) rfl (by kernel_rfl) (by kernel_rfl) (by kernel_rfl) (fun _ _ _ h => h) (Or.inl ⟨by rfl, ?_⟩) (by assumption) ?_
  rotate_left
  · intro w hSw; (try dsimp only at hSw); go_simp <;> first | with_reducible rfl | (rw [if_neg (by first | omega | (simp only [ByteArray.size_append] at *; omega))])
  simp only [Act.put, List.setIfInBounds_toArray, List.set_cons_zero, List.set_cons_succ]
  refine wpAnyH_take (i := 6) (oi := { dst := some 7, op := Go.Op.assign (Go.Operand.tmp 13), type := 35, pos := _, after := #[{ on := 4, ground := Go.Ground.data }, { on := 2, ground := Go.Ground.chain }, { on := 0, ground := Go.Ground.phase }, { on := 1, ground := Go.Ground.phase }, { on := 2, ground := Go.Ground.phase }, { on := 3, ground := Go.Ground.phase }, { on := 4, ground := Go.Ground.phase }, { on := 5, ground := Go.Ground.textOnly Go.Departure.lateStores }], guard := none }) (v := ?_) rfl (by kernel_rfl) (by kernel_rfl) (by kernel_rfl) (fun _ _ _ h => h) (Or.inl ⟨by rfl, ?_⟩) (by assumption) ?_
  rotate_left
  · intro w hSw; (try dsimp only at hSw); go_simp <;> first | with_reducible rfl | (rw [if_neg (by first | omega | (simp only [ByteArray.size_append] at *; omega))])
  simp only [Act.put, List.setIfInBounds_toArray, List.set_cons_zero, List.set_cons_succ]
  refine wpAnyH_take (i := 7) (oi := { dst := some 8, op := Go.Op.assign (Go.Operand.tmp 14), type := 36, pos := _, after := #[{ on := 5, ground := Go.Ground.data }, { on := 6, ground := Go.Ground.chain }, { on := 0, ground := Go.Ground.phase }, { on := 1, ground := Go.Ground.phase }, { on := 2, ground := Go.Ground.phase }, { on := 3, ground := Go.Ground.phase }, { on := 4, ground := Go.Ground.phase }, { on := 5, ground := Go.Ground.phase }, { on := 6, ground := Go.Ground.phase }], guard := none }) (v := ?_) rfl (by kernel_rfl) (by kernel_rfl) (by kernel_rfl) (fun _ _ _ h => h) (Or.inl ⟨by rfl, ?_⟩) (by assumption) ?_
  rotate_left
  · intro w hSw; (try dsimp only at hSw); go_simp <;> first | with_reducible rfl | (rw [if_neg (by first | omega | (simp only [ByteArray.size_append] at *; omega))])
  simp only [Act.put, List.setIfInBounds_toArray, List.set_cons_zero, List.set_cons_succ]
  refine wpAnyH_done (by kernel_rfl) ?_ _
  have e1 : ((t : Int) == (t : Int)) = true := by simp
  have e2 : (er == er) = true := by simp
  have hB := X2.out.below
  go_wp2_with (fail)
  go_ret
  exact ⟨rfl, hB⟩
end Go.Proofs.YtakjkhfglihggaaDoor.Lex
