/-
  What has a type, and what its parts have: plain mathematics.
  fits: may a default be of a type.
  Is each flow of its type: the contract of types.Check.
  What the chapter's program has for names, and the type of something in it: the contracts of name, of, small, is.
  A part exchanged for another one of its type: the contract of changed.
  A part exchanged for another one of its type leaves the type as it is: plain mathematics.
-/
import Derived.Test.YtakjkhfglihggaaDoorG6
import Derived.Test.YtakjkhfglihggaaDoorG4
import Derived.Test.YtakjkhfglihggaaDoorG5
import Derived.Laws.ResultCell
import Derived.Laws.OwnMore
import Derived.Deep.MidRow
namespace Go.Proofs.YtakjkhfglihggaaDoor.Lex
/-- All that it asks for, as often as it does. -/
def pl : Nat → Ex → Nat → List Rf
  | 0, _, _ => []
  | k + 1, x, ago => (if x.op = 3 then [(x.name, ago)] else []) ++ x.args.flatMap fun y => pl k y (nextAgo x ago)
theorem foldl_flat {α β γ : Type} (f : β → γ → β) (g : α → List γ) : ∀ (l : List α) (b : β), l.foldl (fun b a => (g a).foldl f b) b = (l.flatMap g).foldl f b
  | [], _ => rfl
  | a :: l, b => by simp only [List.foldl_cons, List.flatMap_cons, List.foldl_append]; exact foldl_flat f g l _
theorem gat_pl : ∀ (k : Nat) (x : Ex) (ago : Nat) (acc : List Rf), gat k x ago acc = (pl k x ago).foldl addR acc
  | 0, _, _, _ => rfl
  | k + 1, x, ago, acc => by
    have e : (fun (acc : List Rf) (y : Ex) => gat k y (nextAgo x ago) acc) = fun acc y => (pl k y (nextAgo x ago)).foldl addR acc := by
      funext acc y
      exact gat_pl k y (nextAgo x ago) acc
    rw [gat, pl, e, foldl_flat addR (fun y => pl k y (nextAgo x ago)), List.foldl_append]
    congr 1
    unfold ownRefs
    split <;> rfl
theorem addR_mem (acc : List Rf) (r : Rf) (s : Rf) : s ∈ addR acc r ↔ s ∈ acc ∨ s = r := by
  unfold addR
  split
  · rename_i h
    constructor
    · exact .inl
    · rintro (h1 | rfl)
      · exact h1
      · exact rIn_mem.1 h
  · simp
theorem addR_in {acc : List Rf} {r : Rf} (h : r ∈ acc) : addR acc r = acc := by unfold addR; rw [if_pos (rIn_mem.2 h)]
theorem addR_new {acc : List Rf} {r : Rf} (h : r ∉ acc) : addR acc r = acc ++ [r] := by unfold addR; rw [if_neg (fun h' => h (rIn_mem.1 h'))]
theorem fold_mem : ∀ (l acc : List Rf) (s : Rf), s ∈ l.foldl addR acc ↔ s ∈ acc ∨ s ∈ l
  | [], acc, s => by simp
  | r :: l, acc, s => by rw [List.foldl_cons, fold_mem l, addR_mem, List.mem_cons, or_assoc]
theorem gat_mem (k : Nat) (x : Ex) (ago : Nat) (r : Rf) : r ∈ gat k x ago [] ↔ r ∈ pl k x ago := by
  rw [gat_pl, fold_mem]
  simp
/-- The names that it asks for. -/
def nmz : Nat → Ex → List ByteArray
  | 0, _ => []
  | k + 1, x => (if x.op = 3 then [x.name] else []) ++ x.args.flatMap (nmz k)
theorem pl_nmz : ∀ (k : Nat) (x : Ex) (ago : Nat), (pl k x ago).map (·.1) = nmz k x
  | 0, _, _ => rfl
  | k + 1, x, ago => by
    rw [pl, nmz, List.map_append]
    congr 1
    · split <;> rfl
    · rw [List.map_flatMap]
      congr 1
      funext y
      exact pl_nmz k y (nextAgo x ago)
theorem asks_nmz (p : Pg) (x : Ex) : asksAll p x = true ↔ ∀ s ∈ nmz 32 x, (findT (thingsL p) s).isSome = true := by
  unfold asksAll
  rw [List.all_eq_true]
  constructor
  · intro h s hs
    rw [← pl_nmz 32 x 0] at hs
    obtain ⟨r, hr, rfl⟩ := List.mem_map.1 hs
    exact h r ((gat_mem 32 x 0 r).2 hr)
  · intro h r hr
    exact h r.1 (by rw [← pl_nmz 32 x 0]; exact List.mem_map.2 ⟨r, (gat_mem 32 x 0 r).1 hr, rfl⟩)
theorem nmz_deep : ∀ (d : Nat) (x : Ex), okD d x → nmz (d + 1) x = nmz d x
  | 0, _, h => h.elim
  | d + 1, x, h => by
    rw [nmz, nmz]
    congr 1
    have key : ∀ l : List Ex, (∀ y ∈ l, okD d y) → l.flatMap (nmz (d + 1)) = l.flatMap (nmz d) := by
      intro l
      induction l with
      | nil => intro _; rfl
      | cons a l ih => intro hl; rw [List.flatMap_cons, List.flatMap_cons, nmz_deep d a (hl a (List.mem_cons_self ..)), ih fun y hy => hl y (List.mem_cons_of_mem _ hy)]
    exact key x.args h.2
theorem szL_mono {f g : Nat → Ex → Option Nat} (h : ∀ m m' a j, m ≤ m' → f m a = some j → g m' a = some j) (m m' : Nat) (hm : m ≤ m') : ∀ (l : List Ex) (n k : Nat), szL f m n l = some k → szL g m' n l = some k
  | [], n, k, hs => by simpa [szL] using hs
  | a :: l, n, k, hs => by
    simp only [szL] at hs ⊢
    cases e : f (m - n) a with
    | none => rw [e] at hs; cases hs
    | some j =>
      rw [e] at hs
      rw [h (m - n) (m' - n) a j (by omega) e]
      exact szL_mono h m m' hm l _ k hs
theorem sz_mono : ∀ (d d' : Nat), d ≤ d' → ∀ (m m' : Nat) (x : Ex) (k : Nat), m ≤ m' → sz d m x = some k → sz d' m' x = some k
  | 0, _, _, _, _, _, _, _, h => by simp [sz] at h
  | d + 1, 0, hd, _, _, _, _, _, _ => by omega
  | d + 1, d' + 1, hd, m, m', x, k, hm, h => by
    unfold sz at h ⊢
    by_cases hc : m = 0 ∨ fieldsOk x.op x.n x.name x.args.length = false
    · rw [if_pos hc] at h; cases h
    · rw [if_neg hc] at h
      rw [if_neg (fun h' => hc (by rcases h' with h' | h'; · exact .inl (by omega)
                                   · exact .inr h'))]
      exact szL_mono (fun a b y j hab hj => sz_mono d d' (by omega) a b y j hab hj) m m' hm x.args 1 k h
theorem chk_part {x y : Ex} (h : chk x = true) (hy : y ∈ x.args) : chk y = true := by
  unfold chk at h ⊢
  obtain ⟨k, hk⟩ := Option.isSome_iff_exists.1 h
  unfold sz at hk
  by_cases hc : 200 = 0 ∨ fieldsOk x.op x.n x.name x.args.length = false
  · rw [if_pos hc] at hk; cases hk
  · rw [if_neg hc] at hk
    have key : ∀ (l : List Ex) (n k : Nat), szL (sz 31) 200 n l = some k → y ∈ l → (sz 32 200 y).isSome = true := by
      intro l
      induction l with
      | nil => intro n k _ hy; cases hy
      | cons a l ih =>
        intro n k hs hy
        simp only [szL] at hs
        cases e : sz 31 (200 - n) a with
        | none => rw [e] at hs; cases hs
        | some j =>
          rw [e] at hs
          rcases List.mem_cons.1 hy with rfl | hy
          · rw [sz_mono 31 32 (by omega) (200 - n) 200 y j (by omega) e]; rfl
          · exact ih _ _ hs hy
    exact key x.args 1 k hk hy
theorem asks_part {p : Pg} {x y : Ex} (h : chk x = true) (ha : asksAll p x = true) (hy : y ∈ x.args) : asksAll p y = true := by
  rw [asks_nmz] at ha ⊢
  intro s hs
  have ho := chk_ok h
  have h31 : okD 31 y := ho.2 y hy
  rw [nmz_deep 31 y h31] at hs
  refine ha s ?_
  rw [nmz]
  exact List.mem_append.2 (.inr (List.mem_flatMap.2 ⟨y, hy, hs⟩))
theorem com_all {ts : List Nat} (h : com ts ≠ 0) : ∀ u ∈ ts, u = com ts := by
  intro u hu
  unfold com at h ⊢
  by_cases hc : (ts.all fun t => t == ts.headD 0) = true
  · rw [if_pos hc]
    exact beq_iff_eq.1 (List.all_eq_true.1 hc u hu)
  · rw [if_neg hc] at h; exact (h rfl).elim
theorem of_zero (p : Pg) (x : Ex) : (ofV p x).2 = 0 ↔ chk x = true ∧ asksAll p x = true ∧ tyE p x ≠ 0 := by
  unfold ofV
  by_cases h1 : chk x = false
  · rw [if_pos h1]; simp [h1]
  · rw [if_neg h1]
    have h1' : chk x = true := by simpa using h1
    by_cases h2 : asksAll p x = false
    · rw [if_pos h2]; simp [h2]
    · rw [if_neg h2]
      have h2' : asksAll p x = true := by simpa using h2
      by_cases h3 : tyE p x = 0
      · rw [if_pos h3]; simp [h3]
      · rw [if_neg h3]; simp [h1', h2', h3]
theorem of_ok {p : Pg} {x : Ex} (h1 : chk x = true) (h2 : asksAll p x = true) (h3 : tyE p x ≠ 0) : ofV p x = (tyE p x, 0) := by
  unfold ofV
  rw [if_neg (by rw [h1]; simp), if_neg (by rw [h2]; simp), if_neg h3]
theorem of_not {p : Pg} {x : Ex} (h : (ofV p x).2 ≠ 0) : (ofV p x).1 = 0 ∧ (decide ((ofV p x).2 = 1) = !chk x) := by
  unfold ofV at h ⊢
  by_cases h1 : chk x = false
  · rw [if_pos h1]; simp [h1]
  · rw [if_neg h1] at h ⊢
    have h1' : chk x = true := by simpa using h1
    by_cases h2 : asksAll p x = false
    · rw [if_pos h2]; simp [h1']
    · rw [if_neg h2] at h ⊢
      by_cases h3 : tyE p x = 0
      · rw [if_pos h3]; simp [h1']
      · rw [if_neg h3] at h; exact (h rfl).elim
/-- What is known of one that has a type. -/
theorem fields_len {x : Ex} (h : chk x = true) : fieldsOk x.op x.n x.name x.args.length = true := (chk_ok h).1
theorem part_ty {p : Pg} {x y : Ex} (h : chk x = true) (ht : tyE p x ≠ 0) (hy : y ∈ x.args) : tyE p y ≠ 0 := by
  have hf := fields_len h
  have hlen : x.args.length ≠ 0 := by intro e; rw [List.length_eq_zero_iff.1 e] at hy; cases hy
  by_cases h1 : x.op = 1
  · unfold fieldsOk at hf; rw [if_pos h1] at hf; simp at hf; rw [hf.2.2] at hy; cases hy
  by_cases h2 : x.op = 2
  · unfold fieldsOk at hf; rw [if_neg h1, if_pos h2] at hf; simp at hf; rw [hf.2.2] at hy; cases hy
  by_cases h3 : x.op = 3
  · unfold fieldsOk at hf; rw [if_neg h1, if_neg h2, if_pos h3] at hf; simp at hf; rw [hf.2.2] at hy; cases hy
  have hp := ok_parts hf h1 h2 h3
  rw [tyE_eq, if_neg h1, if_neg h2, if_neg h3] at ht
  have hm : tyE p y ∈ x.args.map (tyE p) := List.mem_map.2 ⟨y, hy, rfl⟩
  unfold ruleT at ht
  by_cases hk0 : x.op = 4 ∨ x.op = 6 ∨ x.op = 7 ∨ x.op = 8 ∨ x.op = 9 ∨ x.op = 10
  · rw [if_pos hk0] at ht
    by_cases hc : com (x.args.map (tyE p)) = 1
    · rw [com_all (by omega) _ hm]; omega
    · rw [if_neg hc] at ht; exact (ht rfl).elim
  rw [if_neg hk0] at ht
  by_cases hk1 : x.op = 5 ∨ x.op = 15 ∨ x.op = 16
  · rw [if_pos hk1] at ht
    by_cases hc : com (x.args.map (tyE p)) = 2
    · rw [com_all (by omega) _ hm]; omega
    · rw [if_neg hc] at ht; exact (ht rfl).elim
  rw [if_neg hk1] at ht
  by_cases hk2 : x.op = 13 ∨ x.op = 14
  · rw [if_pos hk2] at ht
    by_cases hc : com (x.args.map (tyE p)) = 1
    · rw [com_all (by omega) _ hm]; omega
    · rw [if_neg hc] at ht; exact (ht rfl).elim
  rw [if_neg hk2] at ht
  by_cases hk3 : x.op = 11 ∨ x.op = 12
  · rw [if_pos hk3] at ht
    by_cases hc : com (x.args.map (tyE p)) = 0
    · rw [if_pos hc] at ht; exact (ht rfl).elim
    · rw [com_all hc _ hm]; exact hc
  rw [if_neg hk3] at ht
  by_cases hk4 : x.op = 17
  · rw [if_pos hk4] at ht
    by_cases hc : (x.args.map (tyE p)).headD 0 = 2
    · rw [if_pos hc] at ht
      cases hts : x.args.map (tyE p) with
      | nil => rw [hts] at hm; cases hm
      | cons a l =>
        rw [hts] at hm hc ht
        rcases List.mem_cons.1 hm with e | hm'
        · rw [e]; simp at hc; omega
        · rw [com_all (ts := l) ht _ hm']; exact ht
    · rw [if_neg hc] at ht; exact (ht rfl).elim
  rw [if_neg hk4] at ht
  rw [com_all ht _ hm]; exact ht
theorem of_part {p : Pg} {x y : Ex} (h : (ofV p x).2 = 0) (hy : y ∈ x.args) : ofV p y = (tyE p y, 0) ∧ tyE p y ≠ 0 := by
  obtain ⟨h1, h2, h3⟩ := (of_zero p x).1 h
  have ht := part_ty h1 h3 hy
  exact ⟨of_ok (chk_part h1 hy) (asks_part h1 h2 hy) ht, ht⟩
/-- By the operator, what the parts have. -/
theorem ty_num {p : Pg} {x : Ex} (ht : tyE p x ≠ 0) (hk : x.op = 4 ∨ x.op = 6 ∨ x.op = 7 ∨ x.op = 8 ∨ x.op = 9 ∨ x.op = 10) : tyE p x = 1 ∧ ∀ u ∈ x.args.map (tyE p), u = 1 := by
  have h1 : x.op ≠ 1 := by omega
  have h2 : x.op ≠ 2 := by omega
  have h3 : x.op ≠ 3 := by omega
  have e := tyE_eq p x
  rw [if_neg h1, if_neg h2, if_neg h3] at e
  unfold ruleT at e
  rw [if_pos hk] at e
  by_cases hc : com (x.args.map (tyE p)) = 1
  · rw [if_pos hc] at e
    exact ⟨e, fun u hu => (com_all (by omega) u hu).trans hc⟩
  · rw [if_neg hc] at e; exact (ht e).elim
theorem ty_log {p : Pg} {x : Ex} (ht : tyE p x ≠ 0) (hk : x.op = 5 ∨ x.op = 15 ∨ x.op = 16) : tyE p x = 2 ∧ ∀ u ∈ x.args.map (tyE p), u = 2 := by
  have h1 : x.op ≠ 1 := by omega
  have h2 : x.op ≠ 2 := by omega
  have h3 : x.op ≠ 3 := by omega
  have e := tyE_eq p x
  rw [if_neg h1, if_neg h2, if_neg h3] at e
  unfold ruleT at e
  rw [if_neg (by omega), if_pos hk] at e
  by_cases hc : com (x.args.map (tyE p)) = 2
  · rw [if_pos hc] at e
    exact ⟨e, fun u hu => (com_all (by omega) u hu).trans hc⟩
  · rw [if_neg hc] at e; exact (ht e).elim
theorem ty_less {p : Pg} {x : Ex} (ht : tyE p x ≠ 0) (hk : x.op = 13 ∨ x.op = 14) : tyE p x = 2 ∧ ∀ u ∈ x.args.map (tyE p), u = 1 := by
  have h1 : x.op ≠ 1 := by omega
  have h2 : x.op ≠ 2 := by omega
  have h3 : x.op ≠ 3 := by omega
  have e := tyE_eq p x
  rw [if_neg h1, if_neg h2, if_neg h3] at e
  unfold ruleT at e
  rw [if_neg (by omega), if_neg (by omega), if_pos hk] at e
  by_cases hc : com (x.args.map (tyE p)) = 1
  · rw [if_pos hc] at e
    exact ⟨e, fun u hu => (com_all (by omega) u hu).trans hc⟩
  · rw [if_neg hc] at e; exact (ht e).elim
theorem ty_eq {p : Pg} {x : Ex} (ht : tyE p x ≠ 0) (hk : x.op = 11 ∨ x.op = 12) : tyE p x = 2 ∧ ∃ c, ∀ u ∈ x.args.map (tyE p), u = c := by
  have h1 : x.op ≠ 1 := by omega
  have h2 : x.op ≠ 2 := by omega
  have h3 : x.op ≠ 3 := by omega
  have e := tyE_eq p x
  rw [if_neg h1, if_neg h2, if_neg h3] at e
  unfold ruleT at e
  rw [if_neg (by omega), if_neg (by omega), if_neg (by omega), if_pos hk] at e
  by_cases hc : com (x.args.map (tyE p)) = 0
  · rw [if_pos hc] at e; exact (ht e).elim
  · rw [if_neg hc] at e
    exact ⟨e, _, com_all hc⟩
theorem ty_if {p : Pg} {x : Ex} (ht : tyE p x ≠ 0) (hk : x.op = 17) : (x.args.map (tyE p)).headD 0 = 2 ∧ ∀ u ∈ (x.args.map (tyE p)).drop 1, u = tyE p x := by
  have h1 : x.op ≠ 1 := by omega
  have h2 : x.op ≠ 2 := by omega
  have h3 : x.op ≠ 3 := by omega
  have e := tyE_eq p x
  rw [if_neg h1, if_neg h2, if_neg h3] at e
  unfold ruleT at e
  rw [if_neg (by omega), if_neg (by omega), if_neg (by omega), if_neg (by omega), if_pos hk] at e
  by_cases hc : (x.args.map (tyE p)).headD 0 = 2
  · rw [if_pos hc] at e
    refine ⟨hc, fun u hu => ?_⟩
    rw [e]
    exact com_all (fun h => ht (e.trans h)) u hu
  · rw [if_neg hc] at e; exact (ht e).elim
theorem ty_same {p : Pg} {x : Ex} (ht : tyE p x ≠ 0) (hk : x.op = 18 ∨ x.op = 19) : ∀ u ∈ x.args.map (tyE p), u = tyE p x := by
  have h1 : x.op ≠ 1 := by omega
  have h2 : x.op ≠ 2 := by omega
  have h3 : x.op ≠ 3 := by omega
  have e := tyE_eq p x
  rw [if_neg h1, if_neg h2, if_neg h3] at e
  unfold ruleT at e
  rw [if_neg (by omega), if_neg (by omega), if_neg (by omega), if_neg (by omega), if_neg (by omega)] at e
  intro u hu
  rw [e]
  exact com_all (fun h => ht (e.trans h)) u hu
theorem ty_name {p : Pg} {x : Ex} (ht : tyE p x ≠ 0) (hk : x.op = 3) : ∃ z, findT (thingsL p) x.name = some z ∧ z.2.ty = tyE p x := by
  have e := tyE_eq p x
  rw [if_neg (by omega), if_neg (by omega), if_pos hk] at e
  unfold tyN at e
  cases hz : findT (thingsL p) x.name with
  | none => rw [hz] at e; exact (ht e).elim
  | some z =>
    rw [hz] at e
    simp only at e
    by_cases hc : z.2.ty = 1 ∨ z.2.ty = 2
    · rw [if_pos hc] at e; exact ⟨z, rfl, e.symm⟩
    · rw [if_neg hc] at e; exact (ht e).elim
theorem len_parts {x : Ex} (h : chk x = true) (h1 : x.op ≠ 1) (h2 : x.op ≠ 2) (h3 : x.op ≠ 3) : x.args.length = parts x.op := by
  have hf := fields_len h
  unfold fieldsOk at hf
  rw [if_neg h1, if_neg h2, if_neg h3] at hf
  simp only [Bool.and_eq_true, decide_eq_true_eq] at hf
  exact hf.2.2.2
theorem parts_two {op : Nat} (h : op = 11 ∨ op = 12 ∨ op = 18) : parts op = 2 := by
  rcases h with rfl | rfl | rfl <;> decide +kernel
theorem parts_one : parts 19 = 1 := by decide +kernel
end Go.Proofs.YtakjkhfglihggaaDoor.Lex
namespace Go.Proofs.YtakjkhfglihggaaDoor.Lex
open Go.ChangeShapes Go.WideShapes Go.ChangeAt Go.RowKit Go.Joins
def fitT (v : Int) (t : Nat) : Bool := !decide (t = 2) || decide (v = 0) || decide (v = 1)
set_option maxRecDepth 100000 in
set_option maxHeartbeats 1000000 in
theorem fits_t (v : Int) (t : Nat) (w : World) :
    Calls Tryd.prog 41 #[.int .i64 v, .int .u8 (t : Int)] w fun e w' => e = .returned (.bool (fitT v t)) ∧ Below w.heap.size w w' := by
  have B0 := Below.refl w.heap.size w
  by_cases ht : t = 2
  · have ht' : (t : Int) = 2 := by omega
    by_cases h0 : v = 0
    · go_enter Tryd.func41, Tryd.ntmps41
      go_wp2_with (fail)
      go_ret
      refine ⟨?_, B0⟩
      simp [fitT, ht, h0]
    · go_enter Tryd.func41, Tryd.ntmps41
      go_wp2_with (fail)
      go_ret
      refine ⟨?_, B0⟩
      by_cases h1 : v = 1 <;> simp [fitT, ht, h0, h1]
  · have ht' : ¬ (t : Int) = 2 := by omega
    go_enter Tryd.func41, Tryd.ntmps41
    go_wp2_with (fail)
    go_ret
    refine ⟨?_, B0⟩
    simp [fitT, ht]
end Go.Proofs.YtakjkhfglihggaaDoor.Lex
namespace Go.Proofs.YtakjkhfglihggaaDoor.Lex
open Go.ChangeShapes Go.WideShapes Go.ChangeAt Go.RowKit Go.Joins
/-- Is a flow of its type, and its default? -/
def flT (p : Pg) (f : Fl) : Bool := decide (tyE p f.body = f.ty) && fitT f.df f.ty
/-- What types.Check answers. -/
def ckV (p : Pg) : Int := if nmErr p = 0 then (if p.flows.all (flT p) then 0 else 7) else nmErr p
theorem nmErr_ok {p : Pg} (h : nmErr p = 0) : pgOk p = true := by
  unfold nmErr at h
  by_cases hp : pgOk p = true
  · exact hp
  · rw [if_neg hp] at h; omega
set_option maxRecDepth 100000 in
set_option maxHeartbeats 4000000 in
theorem types_check (p : Pg) (w : World) (A B C : Value) (hP : PgAt w p A B C) (hR : TabR w) (hJ : TabJ w) : Calls Tryd.prog 17 #[pgV p A B C] w fun e w' => e = .returned (.int .i64 (ckV p)) ∧ Below w.heap.size w w' := by
  have X0 := hid (FV.new hP hR hJ)
  obtain ⟨ao, cap, sl0, rfl, _⟩ := hP.flows
  clear hP hR hJ
  go_enter Tryd.func17, Tryd.ntmps17
  go_wp2_with (fail)
  refine ((callsIn_wide (n := 20)).1 (names_check p _ _ _ _ X0.out.P X0.out.R X0.out.J)).mono ?_
  rintro e w1 ⟨rfl, hb1⟩
  have X1 := hid (X0.out.keep hb1)
  clear hb1 X0
  by_cases hn : nmErr p = 0
  · have HK := hid (pgOk_chk (nmErr_ok hn))
    have HOV : Hid (ckV p = if p.flows.all (flT p) then 0 else 7) := hid (by unfold ckV; rw [if_pos hn])
    rw [hn]
    clear hn
    go_wp2_with (fail)
    refine (rules _).mono ?_
    rintro e w2 ⟨ab, rfl, hasks, hb2⟩
    have X2 := hid (X1.out.keep hb2)
    have AS := hid hasks
    generalize w1.heap.size = an at AS
    obtain ⟨s0, s1, s2, s3⟩ := row4 X2.out.row
    clear hb2 hasks X1
    go_wp2_with (fail)
    clear s0 s1 s2 s3
    obtain ⟨ao', cap', sl, heq, hlen, _, hok, hc, hs⟩ := X2.out.P.flows
    obtain ⟨rfl, rfl⟩ : ao = ao' ∧ cap = cap' := by simpa using heq
    have HC := hid hc
    have HS := hid hs
    clear hc hs hok heq
    go_loopw [16] (fun i wr => ∃ r : Nat, r ≤ p.flows.length ∧ i = .int .i64 (r : Int) ∧ Hid (∀ z ∈ p.flows.take r, flT p z = true) ∧ Hid (Below w2.heap.size w2 wr)) (fun i _ => p.flows.length - (intOf i).toNat)
    case atStart => exact ⟨0, Nat.zero_le _, rfl, hid (by simp), hid (Below.refl _ _)⟩
    case round =>
      obtain ⟨r, hr, rfl, HE, hB⟩ := hrel
      have FX := hid (X2.out.keep hB.out)
      by_cases hrl : r < p.flows.length
      · have hrl' : (r : Int) < (p.flows.length : Int) := by omega
        have hr0 : (0 : Int) ≤ (r : Int) := by omega
        obtain ⟨gb, go, rfl, hcc⟩ := HC.out.resolve_left (by omega)
        obtain ⟨y0, y1, y2, y3, y4, y5, y6, y7⟩ := (hcc r hrl).keep hB.out
        have HTK := hid (List.take_succ_eq_append_getElem hrl)
        have HMG := hid (List.getElem_mem hrl)
        have HST := hid ((HS.out r hrl).keep hB.out)
        clear hcc
        generalize sl r = sv at *
        generalize hy : p.flows[r] = y at *
        clear hy
        obtain ⟨sa, sc, _, rfl, _⟩ := HST.out.out
        have BA := hid ((Below.refl wr.heap.size wr).alloc (Nat.le_refl _) (.cells #[.string y.name, .int .u8 (y.ty : Int), .int .i64 y.st, .int .i64 y.df, .int .u8 (y.body.op : Int), .int .i64 y.body.n, .string y.body.name, .slice sa y.body.args.length sc] 52))
        have FA := hid (FX.out.keep BA.out)
        have bx := fun j v => box_at wr #[.string y.name, .int .u8 (y.ty : Int), .int .i64 y.st, .int .i64 y.df, .int .u8 (y.body.op : Int), .int .i64 y.body.n, .string y.body.name, .slice sa y.body.args.length sc] 52 j v
        have q0 := bx 0 _ rfl
        have q1 := bx 1 _ rfl
        have q2 := bx 2 _ rfl
        have q3 := bx 3 _ rfl
        have q4 := bx 4 _ rfl
        have q5 := bx 5 _ rfl
        have q6 := bx 6 _ rfl
        have q7 := bx 7 _ rfl
        clear bx
        obtain ⟨s0, s1, s2, s3⟩ := row4 FA.out.row
        have c31 := type_of p y.body (HK.out y HMG.out) _ _ _ _ _ an ab (FA.out.P.keep (Below.refl _ _).drew) ((AS.out.keep (hB.out.trans (BA.out.mono hB.out.size))).keep (Below.refl _ _).drew) ((HST.out.keep BA.out).keep (Below.refl _ _).drew)
        by_cases ht : tyE p y.body = y.ty
        · rw [ht] at c31
          have HTB : Hid (((y.ty : Int) != (y.ty : Int)) = false) := hid (by simp)
          go_wp2_with (fail)
          refine wp_region_held_drew (S := fun W => W.cell? ⟨w.heap.size, 0, none⟩ = some (.int .i64 p.st) ∧ W.cell? ⟨w.heap.size, 1, none⟩ = some (A) ∧ W.cell? ⟨w.heap.size, 2, none⟩ = some ((.slice (some ⟨gb, go, none⟩) p.flows.length cap)) ∧ W.cell? ⟨w.heap.size, 3, none⟩ = some (C) ∧ W.cell? ⟨wr.heap.size, 0, none⟩ = some (.string y.name) ∧ W.cell? ⟨wr.heap.size, 1, none⟩ = some (.int .u8 (y.ty : Int)) ∧ W.cell? ⟨wr.heap.size, 2, none⟩ = some (.int .i64 y.st) ∧ W.cell? ⟨wr.heap.size, 3, none⟩ = some (.int .i64 y.df) ∧ W.cell? ⟨wr.heap.size, 4, none⟩ = some (.int .u8 (y.body.op : Int)) ∧ W.cell? ⟨wr.heap.size, 5, none⟩ = some (.int .i64 y.body.n) ∧ W.cell? ⟨wr.heap.size, 6, none⟩ = some (.string y.body.name) ∧ W.cell? ⟨wr.heap.size, 7, none⟩ = some (.slice sa y.body.args.length sc)) (by kernel_rfl) ?_ (fun hHeld => ?_)
          · exact ⟨s0, s1, s2, s3, q0, q1, q2, q3, q4, q5, q6, q7⟩
          refine wpAnyH_take (i := 0) (oi := { dst := some 20, op := Go.Op.load 26 (Go.Operand.tmp 1), type := 26, pos := _, after := #[], guard := none }) (v := ?_) rfl (by kernel_rfl) (by kernel_rfl) (by kernel_rfl) (fun _ _ _ h => h) (Or.inl ⟨by rfl, ?_⟩) (by assumption) ?_
          rotate_left
          · intro w hSw; (try dsimp only at hSw); go_simp <;> first | with_reducible rfl | (rw [if_neg (by first | omega | (simp only [ByteArray.size_append] at *; omega))])
          simp only [Act.put, List.setIfInBounds_toArray, List.set_cons_zero, List.set_cons_succ]
          refine wpAnyH_take (i := 1) (oi := { dst := some 21, op := Go.Op.move (Go.Operand.tmp 4), type := 68, pos := _, after := #[], guard := none }) (v := ?_) rfl (by kernel_rfl) (by kernel_rfl) (by kernel_rfl) (fun _ _ _ h => h) (Or.inl ⟨by rfl, ?_⟩) (by assumption) ?_
          rotate_left
          · intro w hSw; (try dsimp only at hSw); go_simp <;> first | with_reducible rfl | (rw [if_neg (by first | omega | (simp only [ByteArray.size_append] at *; omega))])
          simp only [Act.put, List.setIfInBounds_toArray, List.set_cons_zero, List.set_cons_succ]
          refine wpAnyH_take (i := 2) (oi := { dst := some 22, op := Go.Op.fieldAddr 52 (Go.Operand.tmp 6) 4, type := 0, pos := _, after := #[], guard := none }) (v := ?_) rfl (by kernel_rfl) (by kernel_rfl) (by kernel_rfl) (fun _ _ _ h => h) (Or.inl ⟨by rfl, ?_⟩) (by assumption) ?_
          rotate_left
          · intro w hSw; (try dsimp only at hSw); go_simp <;> first | with_reducible rfl | (rw [if_neg (by first | omega | (simp only [ByteArray.size_append] at *; omega))])
          simp only [Act.put, List.setIfInBounds_toArray, List.set_cons_zero, List.set_cons_succ]
          refine wpAnyH_take (i := 3) (oi := { dst := some 23, op := Go.Op.load 30 (Go.Operand.tmp 22), type := 30, pos := _, after := #[{ on := 2, ground := Go.Ground.data }], guard := none }) (v := ?_) rfl (by kernel_rfl) (by kernel_rfl) (by kernel_rfl) (fun _ _ _ h => h) (Or.inl ⟨by rfl, ?_⟩) (by assumption) ?_
          rotate_left
          · intro w hSw; (try dsimp only at hSw); go_simp <;> first | with_reducible rfl | (rw [if_neg (by first | omega | (simp only [ByteArray.size_append] at *; omega))])
          simp only [Act.put, List.setIfInBounds_toArray, List.set_cons_zero, List.set_cons_succ]
          refine wpAnyH_take (i := 5) (oi := { dst := some 25, op := Go.Op.fieldAddr 52 (Go.Operand.tmp 6) 1, type := 0, pos := _, after := #[], guard := none }) (v := ?_) rfl (by kernel_rfl) (by kernel_rfl) (by kernel_rfl) (fun _ _ _ h => h) (Or.inl ⟨by rfl, ?_⟩) (by assumption) ?_
          rotate_left
          · intro w hSw; (try dsimp only at hSw); go_simp <;> first | with_reducible rfl | (rw [if_neg (by first | omega | (simp only [ByteArray.size_append] at *; omega))])
          simp only [Act.put, List.setIfInBounds_toArray, List.set_cons_zero, List.set_cons_succ]
          refine wpAnyH_take (i := 6) (oi := { dst := some 26, op := Go.Op.load 35 (Go.Operand.tmp 25), type := 35, pos := _, after := #[{ on := 5, ground := Go.Ground.data }], guard := none }) (v := ?_) rfl (by kernel_rfl) (by kernel_rfl) (by kernel_rfl) (fun _ _ _ h => h) (Or.inl ⟨by rfl, ?_⟩) (by assumption) ?_
          rotate_left
          · intro w hSw; (try dsimp only at hSw); go_simp <;> first | with_reducible rfl | (rw [if_neg (by first | omega | (simp only [ByteArray.size_append] at *; omega))])
          simp only [Act.put, List.setIfInBounds_toArray, List.set_cons_zero, List.set_cons_succ]
          refine wpAnyH_ready (rs := [4]) (by kernel_rfl) (by simp) ?_
          refine AllReadyH.cons (o := { dst := some 24, op := Go.Op.call { callee := Go.Callee.value (Go.Operand.func 31), args := #[Go.Operand.tmp 20, Go.Operand.tmp 21, Go.Operand.tmp 23], argTypes := #[26, 68, 30] }, type := 35, pos := _, after := #[{ on := 0, ground := Go.Ground.data }, { on := 1, ground := Go.Ground.data }, { on := 3, ground := Go.Ground.data }], guard := none }) rfl (fun K hK => ?_) AllReadyH.nil
          go_simp
          refine c31.mono ?_
          rintro e v1 ⟨rfl, hb1⟩
          have HG1 : Hid (Below (wr.alloc (.cells #[.string y.name, .int .u8 (y.ty : Int), .int .i64 y.st, .int .i64 y.df, .int .u8 (y.body.op : Int), .int .i64 y.body.n, .string y.body.name, .slice sa y.body.args.length sc] 52)).heap.size (wr.alloc (.cells #[.string y.name, .int .u8 (y.ty : Int), .int .i64 y.st, .int .i64 y.df, .int .u8 (y.body.op : Int), .int .i64 y.body.n, .string y.body.name, .slice sa y.body.args.length sc] 52)) v1) := hid ((Below.refl _ _).drew.trans (hb1.mono (by simp)))
          have X1 := hid (FA.out.keep HG1.out)
          obtain ⟨t0, t1, t2, t3⟩ := row4 X1.out.row
          have u0 := cell_kept q0 HG1.out
          have u1 := cell_kept q1 HG1.out
          have u2 := cell_kept q2 HG1.out
          have u3 := cell_kept q3 HG1.out
          have u4 := cell_kept q4 HG1.out
          have u5 := cell_kept q5 HG1.out
          have u6 := cell_kept q6 HG1.out
          have u7 := cell_kept q7 HG1.out
          clear hb1
          go_wp2_with fail
          refine hK.out _ _ ?_ (fun hHeld1 => ?_)
          · exact ⟨t0, t1, t2, t3, u0, u1, u2, u3, u4, u5, u6, u7⟩
          clear hK K
          refine wpAnyH_take (i := 7) (oi := { dst := some 27, op := Go.Op.binOp Go.BinOp.neq 35 (Go.Operand.tmp 24) (Go.Operand.tmp 26) 35, type := 4, pos := _, after := #[{ on := 4, ground := Go.Ground.data }, { on := 6, ground := Go.Ground.data }], guard := none }) (v := ?_) rfl (by kernel_rfl) (by kernel_rfl) (by kernel_rfl) (fun _ _ _ h => h) (Or.inl ⟨by rfl, ?_⟩) (by assumption) ?_
          rotate_left
          · intro w hSw; (try dsimp only at hSw); go_simp <;> first | with_reducible rfl | (rw [if_neg (by first | omega | (simp only [ByteArray.size_append] at *; omega))])
          simp only [Act.put, List.setIfInBounds_toArray, List.set_cons_zero, List.set_cons_succ]
          (try simp only [HTB.out])
          refine wpAnyH_take (i := 8) (oi := { dst := some 28, op := Go.Op.move (Go.Operand.tmp 27), type := 4, pos := _, after := #[{ on := 7, ground := Go.Ground.data }, { on := 4, ground := Go.Ground.chain }], guard := none }) (v := ?_) rfl (by kernel_rfl) (by kernel_rfl) (by kernel_rfl) (fun _ _ _ h => h) (Or.inl ⟨by rfl, ?_⟩) (by assumption) ?_
          rotate_left
          · intro w hSw; (try dsimp only at hSw); go_simp <;> first | with_reducible rfl | (rw [if_neg (by first | omega | (simp only [ByteArray.size_append] at *; omega))])
          simp only [Act.put, List.setIfInBounds_toArray, List.set_cons_zero, List.set_cons_succ]
          refine wpAnyH_take (i := 9) (oi := { dst := some 29, op := Go.Op.fieldAddr 52 (Go.Operand.tmp 6) 3, type := 0, pos := _, after := #[{ on := 8, ground := Go.Ground.guard }], guard := some (8, false) }) (v := ?_) rfl (by kernel_rfl) (by kernel_rfl) (by kernel_rfl) (fun _ _ _ h => h) (Or.inl ⟨by rfl, ?_⟩) (by assumption) ?_
          rotate_left
          · intro w hSw; (try dsimp only at hSw); go_simp <;> first | with_reducible rfl | (rw [if_neg (by first | omega | (simp only [ByteArray.size_append] at *; omega))])
          simp only [Act.put, List.setIfInBounds_toArray, List.set_cons_zero, List.set_cons_succ]
          refine wpAnyH_take (i := 10) (oi := { dst := some 30, op := Go.Op.load 2 (Go.Operand.tmp 29), type := 2, pos := _, after := #[{ on := 9, ground := Go.Ground.data }, { on := 8, ground := Go.Ground.guard }], guard := some (8, false) }) (v := ?_) rfl (by kernel_rfl) (by kernel_rfl) (by kernel_rfl) (fun _ _ _ h => h) (Or.inl ⟨by rfl, ?_⟩) (by assumption) ?_
          rotate_left
          · intro w hSw; (try dsimp only at hSw); go_simp <;> first | with_reducible rfl | (rw [if_neg (by first | omega | (simp only [ByteArray.size_append] at *; omega))])
          simp only [Act.put, List.setIfInBounds_toArray, List.set_cons_zero, List.set_cons_succ]
          refine wpAnyH_take (i := 11) (oi := { dst := some 31, op := Go.Op.fieldAddr 52 (Go.Operand.tmp 6) 1, type := 0, pos := _, after := #[{ on := 8, ground := Go.Ground.guard }], guard := some (8, false) }) (v := ?_) rfl (by kernel_rfl) (by kernel_rfl) (by kernel_rfl) (fun _ _ _ h => h) (Or.inl ⟨by rfl, ?_⟩) (by assumption) ?_
          rotate_left
          · intro w hSw; (try dsimp only at hSw); go_simp <;> first | with_reducible rfl | (rw [if_neg (by first | omega | (simp only [ByteArray.size_append] at *; omega))])
          simp only [Act.put, List.setIfInBounds_toArray, List.set_cons_zero, List.set_cons_succ]
          refine wpAnyH_take (i := 12) (oi := { dst := some 32, op := Go.Op.load 35 (Go.Operand.tmp 31), type := 35, pos := _, after := #[{ on := 11, ground := Go.Ground.data }, { on := 8, ground := Go.Ground.guard }], guard := some (8, false) }) (v := ?_) rfl (by kernel_rfl) (by kernel_rfl) (by kernel_rfl) (fun _ _ _ h => h) (Or.inl ⟨by rfl, ?_⟩) (by assumption) ?_
          rotate_left
          · intro w hSw; (try dsimp only at hSw); go_simp <;> first | with_reducible rfl | (rw [if_neg (by first | omega | (simp only [ByteArray.size_append] at *; omega))])
          simp only [Act.put, List.setIfInBounds_toArray, List.set_cons_zero, List.set_cons_succ]
          refine wpAnyH_ready (rs := [13]) (by kernel_rfl) (by simp) ?_
          refine AllReadyH.cons (o := { dst := some 33, op := Go.Op.call { callee := Go.Callee.value (Go.Operand.func 41), args := #[Go.Operand.tmp 30, Go.Operand.tmp 32], argTypes := #[2, 35] }, type := 4, pos := _, after := #[{ on := 10, ground := Go.Ground.data }, { on := 12, ground := Go.Ground.data }, { on := 8, ground := Go.Ground.chain }, { on := 8, ground := Go.Ground.guard }], guard := some (8, false) }) rfl (fun K hK => ?_) AllReadyH.nil
          go_simp
          refine (fits_t y.df y.ty _).mono ?_
          rintro e v2 ⟨rfl, hb2⟩
          have X2' := hid (X1.out.keep hb2)
          obtain ⟨m0, m1, m2, m3⟩ := row4 X2'.out.row
          have n0 := cell_kept u0 hb2
          have n1 := cell_kept u1 hb2
          have n2 := cell_kept u2 hb2
          have n3 := cell_kept u3 hb2
          have n4 := cell_kept u4 hb2
          have n5 := cell_kept u5 hb2
          have n6 := cell_kept u6 hb2
          have n7 := cell_kept u7 hb2
          have HG2 := hid hb2
          clear hb2
          go_wp2_with fail
          refine hK.out _ _ ?_ (fun hHeld2 => ?_)
          · exact ⟨m0, m1, m2, m3, n0, n1, n2, n3, n4, n5, n6, n7⟩
          clear hK K
          refine wpAnyH_take (i := 14) (oi := { dst := some 34, op := Go.Op.unOp Go.UnOp.not 4 (Go.Operand.tmp 33), type := 4, pos := _, after := #[{ on := 13, ground := Go.Ground.data }, { on := 8, ground := Go.Ground.guard }], guard := some (8, false) }) (v := ?_) rfl (by kernel_rfl) (by kernel_rfl) (by kernel_rfl) (fun _ _ _ h => h) (Or.inl ⟨by rfl, ?_⟩) (by assumption) ?_
          rotate_left
          · intro w hSw; (try dsimp only at hSw); go_simp <;> first | with_reducible rfl | (rw [if_neg (by first | omega | (simp only [ByteArray.size_append] at *; omega))])
          simp only [Act.put, List.setIfInBounds_toArray, List.set_cons_zero, List.set_cons_succ]
          refine wpAnyH_take (i := 15) (oi := { dst := some 35, op := Go.Op.pick (Go.Operand.tmp 28) (Go.Operand.const (Go.Value.bool true)) (Go.Operand.tmp 34), type := 4, pos := _, after := #[{ on := 8, ground := Go.Ground.data }, { on := 14, ground := Go.Ground.data }], guard := none }) (v := ?_) rfl (by kernel_rfl) (by kernel_rfl) (by kernel_rfl) (fun _ _ _ h => h) (Or.inl ⟨by rfl, ?_⟩) (by assumption) ?_
          rotate_left
          · intro w hSw; (try dsimp only at hSw); go_simp <;> first | with_reducible rfl | (rw [if_neg (by first | omega | (simp only [ByteArray.size_append] at *; omega))])
          simp only [Act.put, List.setIfInBounds_toArray, List.set_cons_zero, List.set_cons_succ]
          refine wpAnyH_done (by kernel_rfl) ?_ _
          clear s0 s1 s2 s3 t0 t1 t2 t3 m0 m1 m2 m3 q0 q1 q2 q3 q4 q5 q6 q7 u0 u1 u2 u3 u4 u5 u6 u7 n0 n1 n2 n3 n4 n5 n6 n7 y0 y1 y2 y3 y4 y5 y6 y7
          cases hf : fitT y.df y.ty with
          | true =>
            have HE2 : Hid (∀ q ∈ p.flows.take (r + 1), flT p q = true) := hid (fun q hq => by
              rw [HTK.out] at hq
              rcases List.mem_append.1 hq with h | h
              · exact HE.out q h
              · rw [List.mem_singleton.1 h]; unfold flT; rw [hf, ht]; simp)
            have HB3 := hid (hB.out.trans ((bstep (bstep BA.out HG1.out) HG2.out).mono hB.out.size))
            clear hf ht
            go_wp2_with (fail)
            go_roundw
            case rel => exact ⟨r + 1, by omega, by go_num, HE2, HB3⟩
            case measure => simp [intOf]; omega
          | false =>
            have HV : Hid (ckV p = 7) := hid (by rw [HOV.out, if_neg]; intro h; have := List.all_eq_true.1 h y HMG.out; unfold flT at this; rw [hf] at this; simp at this)
            clear hf ht
            go_wp2_with (fail)
            go_ret
            exact ⟨by rw [HV.out]; rfl, X2'.out.below⟩
        · have HTB : Hid (((tyE p y.body : Int) != (y.ty : Int)) = true) := hid (by rw [bne_iff_ne]; omega)
          have HV : Hid (ckV p = 7) := hid (by rw [HOV.out, if_neg]; intro h; have := List.all_eq_true.1 h y HMG.out; unfold flT at this; simp [ht] at this)
          generalize tyE p y.body = ty at *
          go_wp2_with (fail)
          refine wp_region_held_drew (S := fun W => W.cell? ⟨w.heap.size, 0, none⟩ = some (.int .i64 p.st) ∧ W.cell? ⟨w.heap.size, 1, none⟩ = some (A) ∧ W.cell? ⟨w.heap.size, 2, none⟩ = some ((.slice (some ⟨gb, go, none⟩) p.flows.length cap)) ∧ W.cell? ⟨w.heap.size, 3, none⟩ = some (C) ∧ W.cell? ⟨wr.heap.size, 0, none⟩ = some (.string y.name) ∧ W.cell? ⟨wr.heap.size, 1, none⟩ = some (.int .u8 (y.ty : Int)) ∧ W.cell? ⟨wr.heap.size, 2, none⟩ = some (.int .i64 y.st) ∧ W.cell? ⟨wr.heap.size, 3, none⟩ = some (.int .i64 y.df) ∧ W.cell? ⟨wr.heap.size, 4, none⟩ = some (.int .u8 (y.body.op : Int)) ∧ W.cell? ⟨wr.heap.size, 5, none⟩ = some (.int .i64 y.body.n) ∧ W.cell? ⟨wr.heap.size, 6, none⟩ = some (.string y.body.name) ∧ W.cell? ⟨wr.heap.size, 7, none⟩ = some (.slice sa y.body.args.length sc)) (by kernel_rfl) ?_ (fun hHeld => ?_)
          · exact ⟨s0, s1, s2, s3, q0, q1, q2, q3, q4, q5, q6, q7⟩
          refine wpAnyH_take (i := 0) (oi := { dst := some 20, op := Go.Op.load 26 (Go.Operand.tmp 1), type := 26, pos := _, after := #[], guard := none }) (v := ?_) rfl (by kernel_rfl) (by kernel_rfl) (by kernel_rfl) (fun _ _ _ h => h) (Or.inl ⟨by rfl, ?_⟩) (by assumption) ?_
          rotate_left
          · intro w hSw; (try dsimp only at hSw); go_simp <;> first | with_reducible rfl | (rw [if_neg (by first | omega | (simp only [ByteArray.size_append] at *; omega))])
          simp only [Act.put, List.setIfInBounds_toArray, List.set_cons_zero, List.set_cons_succ]
          refine wpAnyH_take (i := 1) (oi := { dst := some 21, op := Go.Op.move (Go.Operand.tmp 4), type := 68, pos := _, after := #[], guard := none }) (v := ?_) rfl (by kernel_rfl) (by kernel_rfl) (by kernel_rfl) (fun _ _ _ h => h) (Or.inl ⟨by rfl, ?_⟩) (by assumption) ?_
          rotate_left
          · intro w hSw; (try dsimp only at hSw); go_simp <;> first | with_reducible rfl | (rw [if_neg (by first | omega | (simp only [ByteArray.size_append] at *; omega))])
          simp only [Act.put, List.setIfInBounds_toArray, List.set_cons_zero, List.set_cons_succ]
          refine wpAnyH_take (i := 2) (oi := { dst := some 22, op := Go.Op.fieldAddr 52 (Go.Operand.tmp 6) 4, type := 0, pos := _, after := #[], guard := none }) (v := ?_) rfl (by kernel_rfl) (by kernel_rfl) (by kernel_rfl) (fun _ _ _ h => h) (Or.inl ⟨by rfl, ?_⟩) (by assumption) ?_
          rotate_left
          · intro w hSw; (try dsimp only at hSw); go_simp <;> first | with_reducible rfl | (rw [if_neg (by first | omega | (simp only [ByteArray.size_append] at *; omega))])
          simp only [Act.put, List.setIfInBounds_toArray, List.set_cons_zero, List.set_cons_succ]
          refine wpAnyH_take (i := 3) (oi := { dst := some 23, op := Go.Op.load 30 (Go.Operand.tmp 22), type := 30, pos := _, after := #[{ on := 2, ground := Go.Ground.data }], guard := none }) (v := ?_) rfl (by kernel_rfl) (by kernel_rfl) (by kernel_rfl) (fun _ _ _ h => h) (Or.inl ⟨by rfl, ?_⟩) (by assumption) ?_
          rotate_left
          · intro w hSw; (try dsimp only at hSw); go_simp <;> first | with_reducible rfl | (rw [if_neg (by first | omega | (simp only [ByteArray.size_append] at *; omega))])
          simp only [Act.put, List.setIfInBounds_toArray, List.set_cons_zero, List.set_cons_succ]
          refine wpAnyH_take (i := 5) (oi := { dst := some 25, op := Go.Op.fieldAddr 52 (Go.Operand.tmp 6) 1, type := 0, pos := _, after := #[], guard := none }) (v := ?_) rfl (by kernel_rfl) (by kernel_rfl) (by kernel_rfl) (fun _ _ _ h => h) (Or.inl ⟨by rfl, ?_⟩) (by assumption) ?_
          rotate_left
          · intro w hSw; (try dsimp only at hSw); go_simp <;> first | with_reducible rfl | (rw [if_neg (by first | omega | (simp only [ByteArray.size_append] at *; omega))])
          simp only [Act.put, List.setIfInBounds_toArray, List.set_cons_zero, List.set_cons_succ]
          refine wpAnyH_take (i := 6) (oi := { dst := some 26, op := Go.Op.load 35 (Go.Operand.tmp 25), type := 35, pos := _, after := #[{ on := 5, ground := Go.Ground.data }], guard := none }) (v := ?_) rfl (by kernel_rfl) (by kernel_rfl) (by kernel_rfl) (fun _ _ _ h => h) (Or.inl ⟨by rfl, ?_⟩) (by assumption) ?_
          rotate_left
          · intro w hSw; (try dsimp only at hSw); go_simp <;> first | with_reducible rfl | (rw [if_neg (by first | omega | (simp only [ByteArray.size_append] at *; omega))])
          simp only [Act.put, List.setIfInBounds_toArray, List.set_cons_zero, List.set_cons_succ]
          refine wpAnyH_ready (rs := [4]) (by kernel_rfl) (by simp) ?_
          refine AllReadyH.cons (o := { dst := some 24, op := Go.Op.call { callee := Go.Callee.value (Go.Operand.func 31), args := #[Go.Operand.tmp 20, Go.Operand.tmp 21, Go.Operand.tmp 23], argTypes := #[26, 68, 30] }, type := 35, pos := _, after := #[{ on := 0, ground := Go.Ground.data }, { on := 1, ground := Go.Ground.data }, { on := 3, ground := Go.Ground.data }], guard := none }) rfl (fun K hK => ?_) AllReadyH.nil
          go_simp
          refine c31.mono ?_
          rintro e v1 ⟨rfl, hb1⟩
          have HG1 : Hid (Below (wr.alloc (.cells #[.string y.name, .int .u8 (y.ty : Int), .int .i64 y.st, .int .i64 y.df, .int .u8 (y.body.op : Int), .int .i64 y.body.n, .string y.body.name, .slice sa y.body.args.length sc] 52)).heap.size (wr.alloc (.cells #[.string y.name, .int .u8 (y.ty : Int), .int .i64 y.st, .int .i64 y.df, .int .u8 (y.body.op : Int), .int .i64 y.body.n, .string y.body.name, .slice sa y.body.args.length sc] 52)) v1) := hid ((Below.refl _ _).drew.trans (hb1.mono (by simp)))
          have X1 := hid (FA.out.keep HG1.out)
          obtain ⟨t0, t1, t2, t3⟩ := row4 X1.out.row
          have u0 := cell_kept q0 HG1.out
          have u1 := cell_kept q1 HG1.out
          have u2 := cell_kept q2 HG1.out
          have u3 := cell_kept q3 HG1.out
          have u4 := cell_kept q4 HG1.out
          have u5 := cell_kept q5 HG1.out
          have u6 := cell_kept q6 HG1.out
          have u7 := cell_kept q7 HG1.out
          clear hb1
          go_wp2_with fail
          refine hK.out _ _ ?_ (fun hHeld1 => ?_)
          · exact ⟨t0, t1, t2, t3, u0, u1, u2, u3, u4, u5, u6, u7⟩
          clear hK K
          refine wpAnyH_take (i := 7) (oi := { dst := some 27, op := Go.Op.binOp Go.BinOp.neq 35 (Go.Operand.tmp 24) (Go.Operand.tmp 26) 35, type := 4, pos := _, after := #[{ on := 4, ground := Go.Ground.data }, { on := 6, ground := Go.Ground.data }], guard := none }) (v := ?_) rfl (by kernel_rfl) (by kernel_rfl) (by kernel_rfl) (fun _ _ _ h => h) (Or.inl ⟨by rfl, ?_⟩) (by assumption) ?_
          rotate_left
          · intro w hSw; (try dsimp only at hSw); go_simp <;> first | with_reducible rfl | (rw [if_neg (by first | omega | (simp only [ByteArray.size_append] at *; omega))])
          simp only [Act.put, List.setIfInBounds_toArray, List.set_cons_zero, List.set_cons_succ]
          (try simp only [HTB.out])
          refine wpAnyH_take (i := 8) (oi := { dst := some 28, op := Go.Op.move (Go.Operand.tmp 27), type := 4, pos := _, after := #[{ on := 7, ground := Go.Ground.data }, { on := 4, ground := Go.Ground.chain }], guard := none }) (v := ?_) rfl (by kernel_rfl) (by kernel_rfl) (by kernel_rfl) (fun _ _ _ h => h) (Or.inl ⟨by rfl, ?_⟩) (by assumption) ?_
          rotate_left
          · intro w hSw; (try dsimp only at hSw); go_simp <;> first | with_reducible rfl | (rw [if_neg (by first | omega | (simp only [ByteArray.size_append] at *; omega))])
          simp only [Act.put, List.setIfInBounds_toArray, List.set_cons_zero, List.set_cons_succ]
          refine wpAnyH_take (i := 9) (oi := { dst := some 29, op := Go.Op.fieldAddr 52 (Go.Operand.tmp 6) 3, type := 0, pos := _, after := #[{ on := 8, ground := Go.Ground.guard }], guard := some (8, false) }) (v := undef) rfl (by kernel_rfl) (by kernel_rfl) (by kernel_rfl) (fun _ _ _ h => h) (Or.inr ⟨by rfl, rfl⟩) (by assumption) ?_
          simp only [Act.put, List.setIfInBounds_toArray, List.set_cons_zero, List.set_cons_succ]
          refine wpAnyH_take (i := 10) (oi := { dst := some 30, op := Go.Op.load 2 (Go.Operand.tmp 29), type := 2, pos := _, after := #[{ on := 9, ground := Go.Ground.data }, { on := 8, ground := Go.Ground.guard }], guard := some (8, false) }) (v := undef) rfl (by kernel_rfl) (by kernel_rfl) (by kernel_rfl) (fun _ _ _ h => h) (Or.inr ⟨by rfl, rfl⟩) (by assumption) ?_
          simp only [Act.put, List.setIfInBounds_toArray, List.set_cons_zero, List.set_cons_succ]
          refine wpAnyH_take (i := 11) (oi := { dst := some 31, op := Go.Op.fieldAddr 52 (Go.Operand.tmp 6) 1, type := 0, pos := _, after := #[{ on := 8, ground := Go.Ground.guard }], guard := some (8, false) }) (v := undef) rfl (by kernel_rfl) (by kernel_rfl) (by kernel_rfl) (fun _ _ _ h => h) (Or.inr ⟨by rfl, rfl⟩) (by assumption) ?_
          simp only [Act.put, List.setIfInBounds_toArray, List.set_cons_zero, List.set_cons_succ]
          refine wpAnyH_take (i := 12) (oi := { dst := some 32, op := Go.Op.load 35 (Go.Operand.tmp 31), type := 35, pos := _, after := #[{ on := 11, ground := Go.Ground.data }, { on := 8, ground := Go.Ground.guard }], guard := some (8, false) }) (v := undef) rfl (by kernel_rfl) (by kernel_rfl) (by kernel_rfl) (fun _ _ _ h => h) (Or.inr ⟨by rfl, rfl⟩) (by assumption) ?_
          simp only [Act.put, List.setIfInBounds_toArray, List.set_cons_zero, List.set_cons_succ]
          refine wpAnyH_take (i := 13) (oi := { dst := some 33, op := Go.Op.call { callee := Go.Callee.value (Go.Operand.func 41), args := #[Go.Operand.tmp 30, Go.Operand.tmp 32], argTypes := #[2, 35] }, type := 4, pos := _, after := #[{ on := 10, ground := Go.Ground.data }, { on := 12, ground := Go.Ground.data }, { on := 8, ground := Go.Ground.chain }, { on := 8, ground := Go.Ground.guard }], guard := some (8, false) }) (v := undef) rfl (by kernel_rfl) (by kernel_rfl) (by kernel_rfl) (fun _ _ _ h => h) (Or.inr ⟨by rfl, rfl⟩) (by assumption) ?_
          simp only [Act.put, List.setIfInBounds_toArray, List.set_cons_zero, List.set_cons_succ]
          refine wpAnyH_take (i := 14) (oi := { dst := some 34, op := Go.Op.unOp Go.UnOp.not 4 (Go.Operand.tmp 33), type := 4, pos := _, after := #[{ on := 13, ground := Go.Ground.data }, { on := 8, ground := Go.Ground.guard }], guard := some (8, false) }) (v := undef) rfl (by kernel_rfl) (by kernel_rfl) (by kernel_rfl) (fun _ _ _ h => h) (Or.inr ⟨by rfl, rfl⟩) (by assumption) ?_
          simp only [Act.put, List.setIfInBounds_toArray, List.set_cons_zero, List.set_cons_succ]
          refine wpAnyH_take (i := 15) (oi := { dst := some 35, op := Go.Op.pick (Go.Operand.tmp 28) (Go.Operand.const (Go.Value.bool true)) (Go.Operand.tmp 34), type := 4, pos := _, after := #[{ on := 8, ground := Go.Ground.data }, { on := 14, ground := Go.Ground.data }], guard := none }) (v := ?_) rfl (by kernel_rfl) (by kernel_rfl) (by kernel_rfl) (fun _ _ _ h => h) (Or.inl ⟨by rfl, ?_⟩) (by assumption) ?_
          rotate_left
          · intro w hSw; (try dsimp only at hSw); go_simp <;> first | with_reducible rfl | (rw [if_neg (by first | omega | (simp only [ByteArray.size_append] at *; omega))])
          simp only [Act.put, List.setIfInBounds_toArray, List.set_cons_zero, List.set_cons_succ]
          refine wpAnyH_done (by kernel_rfl) ?_ _
          go_wp2_with (fail)
          go_ret
          exact ⟨by rw [HV.out]; rfl, X1.out.below⟩
      · have hrl' : ¬ (r : Int) < (p.flows.length : Int) := by omega
        obtain rfl : r = p.flows.length := by omega
        have HV : Hid (ckV p = 0) := hid (by rw [HOV.out, if_pos]; exact List.all_eq_true.2 (fun q hq => HE.out q (by rw [List.take_length]; exact hq)))
        go_wp2_with (fail)
        go_ret
        exact ⟨by rw [HV.out]; rfl, FX.out.below⟩
  · have HV : Hid (ckV p = nmErr p) := hid (by unfold ckV; rw [if_neg hn])
    generalize nmErr p = ne at *
    go_wp2_with (fail)
    go_ret
    exact ⟨by rw [HV.out]; rfl, X1.out.below⟩
end Go.Proofs.YtakjkhfglihggaaDoor.Lex
namespace Go.Proofs.YtakjkhfglihggaaDoor.Lex
open Go.ChangeShapes Go.WideShapes Go.ChangeAt Go.RowKit Go.Joins
theorem row4e {W : World} {k : Nat} {x : Ex} {D : Value} (h : W.heap[k]? = some (.cells #[.int .u8 (x.op : Int), .int .i64 x.n, .string x.name, D] 30 (0, 0))) : W.cell? ⟨k, 0, none⟩ = some (.int .u8 (x.op : Int)) ∧ W.cell? ⟨k, 1, none⟩ = some (.int .i64 x.n) ∧ W.cell? ⟨k, 2, none⟩ = some (.string x.name) ∧ W.cell? ⟨k, 3, none⟩ = some D :=
  ⟨(cell_of_row _ _ _ _ 30 (0, 0) h).trans rfl, (cell_of_row _ _ _ _ 30 (0, 0) h).trans rfl, (cell_of_row _ _ _ _ 30 (0, 0) h).trans rfl, (cell_of_row _ _ _ _ 30 (0, 0) h).trans rfl⟩
/-- The chapter's program. -/
def smQ : Pg := ⟨1, [⟨⟨#[97]⟩, 1, 1⟩, ⟨⟨#[98]⟩, 2, 1⟩], [], []⟩
abbrev N0 : Value := .slice none 0 0
theorem pg_small {W : World} {b : Nat} (h : W.heap[b]? = some (.cells #[.string ⟨#[97]⟩, .int .u8 1, .int .i64 1, .string ⟨#[98]⟩, .int .u8 2, .int .i64 1] 59 (0, 0))) : PgAt W smQ (.slice (some ⟨b, 0, none⟩) 2 2) N0 N0 where
  ins := by
    refine ⟨some ⟨b, 0, none⟩, 2, rfl, by decide, by decide, ?_, .inr ⟨b, 0, rfl, fun i hi => ?_⟩⟩
    · intro x hx
      simp only [smQ, List.mem_cons, List.not_mem_nil, or_false] at hx
      rcases hx with rfl | rfl <;> refine ⟨by show (1 : Nat) ≤ _; omega, by decide, by decide, by decide⟩
    · have hi2 : i < 2 := hi
      rcases (by omega : i = 0 ∨ i = 1) with rfl | rfl <;> refine ⟨?_, ?_, ?_⟩ <;> (rw [cell_of_row _ _ _ _ 59 (0, 0) h]; rfl)
  flows := ⟨none, 0, fun _ => N0, rfl, by decide, by decide, fun x hx => (List.not_mem_nil hx).elim, .inl rfl, fun i hi => absurd hi (Nat.not_lt_zero i)⟩
  outs := ⟨none, 0, rfl, by decide, by decide, fun x hx => (List.not_mem_nil hx).elim, .inl rfl⟩
  st := by decide
set_option maxRecDepth 100000 in
set_option maxHeartbeats 1000000 in
theorem small_at (w : World) : Calls Tryd.prog 46 #[] w fun e w' => ∃ b, e = .returned (pgV smQ (.slice (some ⟨b, 0, none⟩) 2 2) N0 N0) ∧ PgAt w' smQ (.slice (some ⟨b, 0, none⟩) 2 2) N0 N0 ∧ Below w.heap.size w w' := by
  go_enter Tryd.func46, Tryd.ntmps46
  go_wp2
  have hb := fun o0 o1 => ((Below.refl w.heap.size w).alloc (by simp; try omega) o0).alloc (by simp; try omega) o1
  refine bodyPost_ret (v := pgV smQ (.slice (some ⟨w.heap.size + 1, 0, none⟩) 2 2) N0 N0) ?_ rfl ⟨_, rfl, pg_small (push_new _ _ _ (by simp)), hb _ _⟩
  simp [results, Tryd.f46, go_sem]
  rfl
abbrev c30 : Array Value := #[.int .u8 0, .int .i64 0, .string ⟨#[]⟩, .slice none 0 0]
theorem info30 : (Tryd.prog.info? 30).map (·.size) = some 4 := by kernel_rfl
theorem name_at (s : ByteArray) (w : World) : Calls Tryd.prog 43 #[.string s] w fun e w' => e = .returned (exV ⟨3, 0, s, []⟩ (.slice none 0 0)) ∧ Below w.heap.size w w' := by
  have B0 := hid ((Below.refl w.heap.size w).alloc (Nat.le_refl _) (.cells c30 30))
  have X0 := heap_alloc_new w (.cells c30 30)
  go_enter Tryd.func43, Tryd.ntmps43
  go_wp2_with (refine wpList_store_row rfl 30 _ _ rfl w.heap.size #[.int .u8 3, .int .i64 0, .string s, .slice none 0 0] rfl rfl 30 _ X0 info30 rfl (by simp [Value.oneCell']) ?_)
  exact bodyPost_ret (results_cell_row rfl _ _ w.heap.size 30 #[.int .u8 3, .int .i64 0, .string s, .slice none 0 0] (0, 0) _ rfl (setRow_heap _ _ _ _ _ _ X0) Tryd.underlying30 rfl info30) rfl ⟨rfl, below_row B0.out B0.out.size (Nat.le_refl _) _⟩
/-- of, as a value. -/
theorem of_pl (z : Int) (a : Option Addr) (n c : Nat) (w : World) : Calls Tryd.prog 45 #[.int .u8 z, .slice a n c] w fun e w' => e = .returned (.agg #[.int .u8 z, .int .i64 0, .string ⟨#[]⟩, .slice a n c]) ∧ Below w.heap.size w w' := by
  have B0 := hid ((Below.refl w.heap.size w).alloc (Nat.le_refl _) (.cells c30 30))
  have X0 := heap_alloc_new w (.cells c30 30)
  go_enter Tryd.func45, Tryd.ntmps45
  go_wp2_with (refine wpList_store_row rfl 30 _ _ rfl w.heap.size #[.int .u8 z, .int .i64 0, .string ⟨#[]⟩, .slice a n c] rfl rfl 30 _ X0 info30 rfl (by simp [Value.oneCell']) ?_)
  exact bodyPost_ret (results_cell_row rfl _ _ w.heap.size 30 #[.int .u8 z, .int .i64 0, .string ⟨#[]⟩, .slice a n c] (0, 0) _ rfl (setRow_heap _ _ _ _ _ _ X0) Tryd.underlying30 rfl info30) rfl ⟨rfl, below_row B0.out B0.out.size (Nat.le_refl _) _⟩
/-- Something that is worked out, in its variable. -/
structure XQ (w : World) (x : Ex) (ao : Option Addr) (cap : Nat) (W : World) : Prop where
  row : W.heap[w.heap.size]? = some (.cells #[.int .u8 (x.op : Int), .int .i64 x.n, .string x.name, .slice ao x.args.length cap] 30 (0, 0))
  S : St W x (.slice ao x.args.length cap)
  R : TabR W
  J : TabJ W
  below : Below w.heap.size w W
theorem XQ.keep {w W W' : World} {x : Ex} {ao : Option Addr} {cap : Nat} (h : XQ w x ao cap W) (hb : Below W.heap.size W W') : XQ w x ao cap W' :=
  ⟨keep_row h.row hb, h.S.keep hb, h.R.below hb, h.J.below hb, h.below.trans (hb.mono h.below.size)⟩
theorem XQ.cells {w W : World} {x : Ex} {ao : Option Addr} {cap : Nat} (h : XQ w x ao cap W) : W.cell? ⟨w.heap.size, 0, none⟩ = some (.int .u8 (x.op : Int)) ∧ W.cell? ⟨w.heap.size, 1, none⟩ = some (.int .i64 x.n) ∧ W.cell? ⟨w.heap.size, 2, none⟩ = some (.string x.name) ∧ W.cell? ⟨w.heap.size, 3, none⟩ = some (.slice ao x.args.length cap) := row4e h.row
set_option maxRecDepth 100000 in
set_option maxHeartbeats 2000000 in
theorem is_at (x : Ex) (t : Nat) (er : Int) (ho : ofV smQ x = (t, er)) (w : World) (s : Value) (hS : St w x s) (hR : TabR w) (hJ : TabJ w) : Calls Tryd.prog 44 #[exV x s, .int .u8 (t : Int), .int .i64 er] w fun e w' => e = .returned (.bool true) ∧ Below w.heap.size w w' := by
  obtain ⟨ao, cap, _, rfl, _⟩ := hS.out
  have b0 := (Below.refl w.heap.size w).alloc (Nat.le_refl _) (.cells #[.int .u8 (x.op : Int), .int .i64 x.n, .string x.name, .slice ao x.args.length cap] 30)
  have X0 : Hid (XQ w x ao cap (w.alloc (.cells #[.int .u8 (x.op : Int), .int .i64 x.n, .string x.name, .slice ao x.args.length cap] 30))) := hid ⟨heap_alloc_new w _, hS.keep b0, hR.below b0, hJ.below b0, b0⟩
  have HO := hid ho
  clear b0 hS hR hJ ho
  obtain ⟨p0, p1, p2, p3⟩ := X0.out.cells
  go_enter Tryd.func44, Tryd.ntmps44
  go_wp2_with (fail)
  generalize w.alloc (.cells #[.int .u8 (x.op : Int), .int .i64 x.n, .string x.name, .slice ao x.args.length cap] 30) = W0 at *
  refine wp_region_held_drew (S := fun W => W.cell? ⟨w.heap.size, 0, none⟩ = some (.int .u8 (x.op : Int)) ∧ W.cell? ⟨w.heap.size, 1, none⟩ = some (.int .i64 x.n) ∧ W.cell? ⟨w.heap.size, 2, none⟩ = some (.string x.name) ∧ W.cell? ⟨w.heap.size, 3, none⟩ = some (.slice ao x.args.length cap)) (by kernel_rfl) ?_ (fun hHeld => ?_)
  · exact ⟨p0, p1, p2, p3⟩
  refine wpAnyH_take (i := 1) (oi := { dst := some 11, op := Go.Op.load 30 (Go.Operand.tmp 3), type := 30, pos := _, after := #[], guard := none }) (v := ?_) rfl (by kernel_rfl) (by kernel_rfl) (by kernel_rfl) (fun _ _ _ h => h) (Or.inl ⟨by rfl, ?_⟩) (by assumption) ?_
  rotate_left
  · intro w hSw; (try dsimp only at hSw); go_simp <;> first | with_reducible rfl | (rw [if_neg (by first | omega | (simp only [ByteArray.size_append] at *; omega))])
  simp only [Act.put, List.setIfInBounds_toArray, List.set_cons_zero, List.set_cons_succ]
  refine wpAnyH_ready (rs := [0]) (by kernel_rfl) (by simp) ?_
  refine AllReadyH.cons (o := { dst := some 10, op := Go.Op.call { callee := Go.Callee.value (Go.Operand.func 46), args := #[], argTypes := #[] }, type := 26, pos := _, after := #[], guard := none }) rfl (fun K hK => ?_) AllReadyH.nil
  go_simp
  refine (small_at _).mono ?_
  rintro e w1 ⟨sb, rfl, hP1, hb1'⟩
  have hb1 : Below W0.heap.size W0 w1 := (Below.refl _ _).drew.trans (hb1'.mono (by simp))
  have X1 := hid (X0.out.keep hb1)
  have P1 := hid hP1
  obtain ⟨q0, q1, q2, q3⟩ := X1.out.cells
  clear hP1 hb1 hb1'
  go_wp2_with fail
  refine hK.out _ _ ?_ (fun hHeld1 => ?_)
  · exact ⟨q0, q1, q2, q3⟩
  clear hK K
  refine wpAnyH_ready (rs := [2]) (by kernel_rfl) (by simp) ?_
  refine AllReadyH.cons (o := { dst := some 12, op := Go.Op.call { callee := Go.Callee.value (Go.Operand.func 13), args := #[Go.Operand.tmp 10, Go.Operand.tmp 11], argTypes := #[26, 30] }, type := 37, pos := _, after := #[{ on := 0, ground := Go.Ground.data }, { on := 1, ground := Go.Ground.data }, { on := 0, ground := Go.Ground.chain }], guard := none }) rfl (fun K hK => ?_) AllReadyH.nil
  go_simp
  refine (of_ smQ x _ _ _ _ _ P1.out X1.out.S X1.out.R X1.out.J).mono ?_
  rintro e w2 ⟨rfl, hb2⟩
  have X2 := hid (X1.out.keep hb2)
  obtain ⟨t0, t1, t2, t3⟩ := X2.out.cells
  rw [HO.out]
  clear hb2
  go_wp2_with fail
  refine hK.out _ _ ?_ (fun hHeld2 => ?_)
  · exact ⟨t0, t1, t2, t3⟩
  clear hK K
  refine wpAnyH_take (i := 3) (oi := { dst := some 9, op := Go.Op.move (Go.Operand.tmp 12), type := 37, pos := _, after := #[{ on := 2, ground := Go.Ground.data }], guard := none }) (v := ?_) rfl (by kernel_rfl) (by kernel_rfl) (by kernel_rfl) (fun _ _ _ h => h) (Or.inl ⟨by rfl, ?_⟩) (by assumption) ?_
  rotate_left
  · intro w hSw; (try dsimp only at hSw); go_simp <;> first | with_reducible rfl | (rw [if_neg (by first | omega | (simp only [ByteArray.size_append] at *; omega))])
  simp only [Act.put, List.setIfInBounds_toArray, List.set_cons_zero, List.set_cons_succ]
  refine wpAnyH_take (i := 4) (oi := { dst := some 13, op := Go.Op.extract (Go.Operand.tmp 9) 0, type := 35, pos := _, after := #[{ on := 3, ground := Go.Ground.data }], guard := none }) (v := ?_) rfl (by kernel_rfl) (by kernel_rfl) (by kernel_rfl) (fun _ _ _ h => h) (Or.inl ⟨by rfl, ?_⟩) (by assumption) ?_
  rotate_left
  · intro w hSw; (try dsimp only at hSw); go_simp <;> first | with_reducible rfl | (rw [if_neg (by first | omega | (simp only [ByteArray.size_append] at *; omega))])
  simp only [Act.put, List.setIfInBounds_toArray, List.set_cons_zero, List.set_cons_succ]
  refine wpAnyH_take (i := 5) (oi := { dst := some 14, op := Go.Op.extract (Go.Operand.tmp 9) 1, type := 36, pos := _, after := #[{ on := 3, ground := Go.Ground.data }, { on := 6, ground := Go.Ground.gcOnly Go.Departure.lateStores }], guard := none }) (v := ?_) rfl (by kernel_rfl) (by kernel_rfl) (by kernel_rfl) (fun _ _ _ h => h) (Or.inl ⟨by rfl, ?_⟩) (by assumption) ?_
  rotate_left
  · intro w hSw; (try dsimp only at hSw); go_simp <;> first | with_reducible rfl | (rw [if_neg (by first | omega | (simp only [ByteArray.size_append] at *; omega))])
  simp only [Act.put, List.setIfInBounds_toArray, List.set_cons_zero, List.set_cons_succ]
  refine wpAnyH_take (i := 6) (oi := { dst := some 7, op := Go.Op.assign (Go.Operand.tmp 13), type := 35, pos := _, after := #[{ on := 4, ground := Go.Ground.data }, { on := 2, ground := Go.Ground.chain }, { on := 0, ground := Go.Ground.phase }, { on := 1, ground := Go.Ground.phase }, { on := 2, ground := Go.Ground.phase }, { on := 3, ground := Go.Ground.phase }, { on := 4, ground := Go.Ground.phase }, { on := 5, ground := Go.Ground.textOnly Go.Departure.lateStores }], guard := none }) (v := ?_) rfl (by kernel_rfl) (by kernel_rfl) (by kernel_rfl) (fun _ _ _ h => h) (Or.inl ⟨by rfl, ?_⟩) (by assumption) ?_
  rotate_left
  · intro w hSw; (try dsimp only at hSw); go_simp <;> first | with_reducible rfl | (rw [if_neg (by first | omega | (simp only [ByteArray.size_append] at *; omega))])
  simp only [Act.put, List.setIfInBounds_toArray, List.set_cons_zero, List.set_cons_succ]
  refine wpAnyH_take (i := 7) (oi := { dst := some 8, op := Go.Op.assign (Go.Operand.tmp 14), type := 36, pos := _, after := #[{ on := 5, ground := Go.Ground.data }, { on := 6, ground := Go.Ground.chain }, { on := 0, ground := Go.Ground.phase }, { on := 1, ground := Go.Ground.phase }, { on := 2, ground := Go.Ground.phase }, { on := 3, ground := Go.Ground.phase }, { on := 4, ground := Go.Ground.phase }, { on := 5, ground := Go.Ground.phase }, { on := 6, ground := Go.Ground.phase }], guard := none }) (v := ?_) rfl (by kernel_rfl) (by kernel_rfl) (by kernel_rfl) (fun _ _ _ h => h) (Or.inl ⟨by rfl, ?_⟩) (by assumption) ?_
  rotate_left
  · intro w hSw; (try dsimp only at hSw); go_simp <;> first | with_reducible rfl | (rw [if_neg (by first | omega | (simp only [ByteArray.size_append] at *; omega))])
  simp only [Act.put, List.setIfInBounds_toArray, List.set_cons_zero, List.set_cons_succ]
  refine wpAnyH_done (by kernel_rfl) ?_ _
  have e1 : ((t : Int) == (t : Int)) = true := by simp
  have e2 : (er == er) = true := by simp
  have hB := X2.out.below
  go_wp2_with (fail)
  go_ret
  exact ⟨rfl, hB⟩
end Go.Proofs.YtakjkhfglihggaaDoor.Lex
namespace Go.Proofs.YtakjkhfglihggaaDoor.Lex
open Go.ChangeShapes Go.WideShapes Go.ChangeAt Go.RowKit Go.Joins
theorem pairsV_set : ∀ (ps : List (Ex × Value)) (k : Nat) (p : Ex × Value), ((((pairsV ps).set (k * 4) (.int .u8 (p.1.op : Int))).set (k * 4 + 1) (.int .i64 p.1.n)).set (k * 4 + 2) (.string p.1.name)).set (k * 4 + 3) p.2 = pairsV (ps.set k p)
  | [], k, p => by simp [pairsV]
  | q :: ps, 0, p => by simp [pairsV, pairV]
  | q :: ps, k + 1, p => by
    have ih := pairsV_set ps k p
    have e : pairsV (q :: ps) = pairV q ++ pairsV ps := by simp [pairsV]
    have e' : pairsV ((q :: ps).set (k + 1) p) = pairV q ++ pairsV (ps.set k p) := by simp [pairsV]
    rw [e, e', ← ih]
    have h0 : (k + 1) * 4 = k * 4 + 4 := by omega
    have h1 : (k + 1) * 4 + 1 = k * 4 + 1 + 4 := by omega
    have h2 : (k + 1) * 4 + 2 = k * 4 + 2 + 4 := by omega
    have h3 : (k + 1) * 4 + 3 = k * 4 + 3 + 4 := by omega
    rw [h0, show k * 4 + 4 + 1 = k * 4 + 1 + 4 by omega, show k * 4 + 4 + 2 = k * 4 + 2 + 4 by omega, show k * 4 + 4 + 3 = k * 4 + 3 + 4 by omega]
    simp [pairV]
/-- The parts of it, as they lie in memory. -/
theorem St.row {w : World} {x : Ex} {ao : Option Addr} {n cap : Nat} (h : St w x (.slice ao n cap)) : n = x.args.length ∧ x.args.length ≤ 2513169434843 ∧
    ∃ ps : List (Ex × Value), ps.map (·.1) = x.args ∧ (∀ p ∈ ps, St w p.1 p.2) ∧ (∀ ad, ao = some ad → ∀ j u, (pairsV ps)[j]? = some u → w.cell? (ad.add j) = some u) ∧ (∀ u ∈ pairsV ps, u.oneCell' = true) := by
  obtain ⟨ao', cap', sl, e, _, _, _, hlen, _, hc, hs⟩ := h.out
  injection e with e1 e2 e3
  subst e1 e2 e3
  have hl : ((List.range x.args.length).map fun i => (x.args[i]?.getD ⟨0, 0, ByteArray.empty, []⟩, sl i)).length = x.args.length := by simp
  have hg : ∀ i (hi : i < x.args.length), ((List.range x.args.length).map fun i => (x.args[i]?.getD ⟨0, 0, ByteArray.empty, []⟩, sl i))[i]'(by omega) = (x.args[i], sl i) := fun i hi => by simp [hi]
  refine ⟨rfl, hlen, (List.range x.args.length).map fun i => (x.args[i]?.getD ⟨0, 0, ByteArray.empty, []⟩, sl i), ?_, ?_, ?_, ?_⟩
  · apply List.ext_getElem
    · simp
    · intro i h1 h2
      simp [h2]
  · intro p hp
    obtain ⟨i, hi, rfl⟩ := List.getElem_of_mem hp
    rw [hg i (by omega)]
    exact hs i (by omega)
  · rintro ad rfl j u hj
    have hjl := (List.getElem?_eq_some_iff.1 hj).1
    rw [pairsV_len, hl] at hjl
    obtain ⟨b, o, e, hcc⟩ := hc.resolve_left (by omega)
    obtain rfl := Option.some.inj e
    have hi : j / 4 < x.args.length := by omega
    obtain ⟨q0, q1, q2, q3⟩ := pairsV_at ((List.range x.args.length).map fun i => (x.args[i]?.getD ⟨0, 0, ByteArray.empty, []⟩, sl i)) [] (j / 4) (by omega)
    rw [List.append_nil] at q0 q1 q2 q3
    rw [hg _ hi] at q0 q1 q2 q3
    obtain ⟨c0, c1, c2, c3⟩ := hcc (j / 4) hi
    have hadd : (⟨b, o, none⟩ : Addr).add j = ⟨b, o + j, none⟩ := by unfold Addr.add; split <;> simp_all
    rw [hadd]
    have hm : j % 4 < 4 := Nat.mod_lt _ (by omega)
    rcases (by omega : j % 4 = 0 ∨ j % 4 = 1 ∨ j % 4 = 2 ∨ j % 4 = 3) with h | h | h | h
    · rw [show j = j / 4 * 4 by omega] at hj
      rw [q0] at hj
      rw [show o + j = o + j / 4 * 4 by omega, ← hj]; exact c0
    · rw [show j = j / 4 * 4 + 1 by omega] at hj
      rw [q1] at hj
      rw [show o + j = o + j / 4 * 4 + 1 by omega, ← hj]; exact c1
    · rw [show j = j / 4 * 4 + 2 by omega] at hj
      rw [q2] at hj
      rw [show o + j = o + j / 4 * 4 + 2 by omega, ← hj]; exact c2
    · rw [show j = j / 4 * 4 + 3 by omega] at hj
      rw [q3] at hj
      rw [show o + j = o + j / 4 * 4 + 3 by omega, ← hj]; exact c3
  · intro u hu
    obtain ⟨p, hp, hup⟩ := List.mem_flatMap.1 hu
    obtain ⟨i, hi, rfl⟩ := List.getElem_of_mem hp
    rw [hg i (by omega)] at hup
    obtain ⟨a3, c3, _, e3, _⟩ := (hs i (by omega)).out
    simp [pairV, e3] at hup
    rcases hup with rfl | rfl | rfl | rfl <;> simp [Value.oneCell']
/-- It stands in memory, where its parts' row does. -/
theorem St.of_row {w : World} {base : Nat} {v : Value} {ps : List (Ex × Value)} (op : Nat) (n : Int) (nm : ByteArray) (hop : op < 256) (hn : -9223372036854775808 ≤ n ∧ n ≤ 9223372036854775807) (hnm : nm.size ≤ 140737488355328) (hlen : ps.length ≤ 2513169434843)
    (hr : w.ownsRow base 30 4 v ps.length (pairsV ps)) (hs : ∀ p ∈ ps, St w p.1 p.2) : St w ⟨op, n, nm, ps.map (·.1)⟩ v := by
  have hl : (ps.map (·.1)).length = ps.length := by simp
  rcases hr.2 with ⟨rfl, h0⟩ | ⟨g, cap, cur, rfl, _, _, hc, _⟩
  · have : ps = [] := List.eq_nil_of_length_eq_zero h0
    subst this
    exact St.intro ⟨op, n, nm, []⟩ none 0 (fun _ => .slice none 0 0) hop hn hnm (by show 0 ≤ _; omega) (Nat.le_refl _) (.inl rfl) (fun i hi => by cases hi)
  · have key : St w ⟨op, n, nm, ps.map (·.1)⟩ (.slice (some ⟨g, 0, none⟩) (ps.map (·.1)).length cap) := by
      refine St.intro ⟨op, n, nm, ps.map (·.1)⟩ _ cap (fun i => (ps[i]?.map (·.2)).getD (.slice none 0 0)) hop hn hnm (by show (ps.map (·.1)).length ≤ _; omega) (by show (ps.map (·.1)).length ≤ _; omega) (.inr ⟨g, 0, rfl, fun i hi => ?_⟩) (fun i hi => ?_)
      · have hi' : i < ps.length := by have : i < (ps.map (·.1)).length := hi; omega
        obtain ⟨q0, q1, q2, q3⟩ := pairsV_at ps [] i hi'
        rw [List.append_nil] at q0 q1 q2 q3
        have e : (Ex.mk op n nm (ps.map (·.1))).args[i] = ps[i].1 := by show (ps.map (·.1))[i]'(by omega) = _; simp
        rw [e, Nat.zero_add]
        refine ⟨?_, ?_, ?_, ?_⟩
        · rw [hr.cellAt _ (by omega)]; exact q0
        · rw [hr.cellAt _ (by omega)]; exact q1
        · rw [hr.cellAt _ (by omega)]; exact q2
        · rw [hr.cellAt _ (by omega), q3, List.getElem?_eq_getElem hi']; rfl
      · have hi' : i < ps.length := by have : i < (ps.map (·.1)).length := hi; omega
        have e : (Ex.mk op n nm (ps.map (·.1))).args[i] = ps[i].1 := by show (ps.map (·.1))[i]'(by omega) = _; simp
        rw [e, List.getElem?_eq_getElem hi']
        exact hs _ (List.getElem_mem hi')
    rwa [hl] at key
theorem St.fields {w : World} {x : Ex} {s : Value} (h : St w x s) (op : Nat) (n : Int) (nm : ByteArray) (hop : op < 256) (hn : -9223372036854775808 ≤ n ∧ n ≤ 9223372036854775807) (hnm : nm.size ≤ 140737488355328) : St w ⟨op, n, nm, x.args⟩ s := by
  obtain ⟨ao, cap, sl, rfl, _, _, _, hlen, hcap, hc, hs⟩ := h.out
  exact St.intro ⟨op, n, nm, x.args⟩ ao cap sl hop hn hnm hlen hcap hc hs
theorem own_block {w W : World} {base e c n : Nat} {v : Value} {xs : List Value} (h : w.ownsRow base e c v n xs) (hg : ∀ g, v.ownBlock = some g → W.heap[g]? = w.heap[g]?) : W.ownsRow base e c v n xs := by
  refine ⟨h.1, ?_⟩
  rcases h.2 with hn | ⟨g, cap, cur, e, hg0, hh, rest⟩
  · exact .inl hn
  · subst e
    exact .inr ⟨g, cap, cur, rfl, hg0, (hg g rfl).trans hh, rest⟩
theorem row_pos {W : World} {base e size k : Nat} {v : Value} {xs : List Value} (h : W.ownsRow base e size v k xs) (hk : 0 < k) : ∃ g cap, v = .slice (some ⟨g, 0, none⟩) k cap := by
  rcases h.2 with ⟨_, h0⟩ | ⟨g, cap, _, rfl, _⟩
  · omega
  · exact ⟨g, cap, rfl⟩
theorem modify_map {ps : List (Ex × Value)} {l : List Ex} (h : ps.map (·.1) = l) (k : Nat) (hk : k < l.length) (g : Ex → Ex) (s : Value) : (ps.set k (g l[k], s)).map (·.1) = l.modify k g := by
  subst h
  apply List.ext_getElem
  · simp
  · intro i h1 h2
    by_cases e : i = k
    · subst e; simp
    · simp [Ne.symm e]
/-- What is put in a part's place. -/
def chL (p : Pg) (x : Ex) : Ex := if tyE p x = 2 then ⟨2, 1, ⟨#[]⟩, []⟩ else ⟨1, 7, ⟨#[]⟩, []⟩
/-- With a part exchanged, looked for so deep. -/
def chX (p : Pg) : Nat → Ex → Nat → Ex
  | 0, x, _ => chL p x
  | f + 1, x, way => if x.args.length = 0 ∨ way = 0 then chL p x else ⟨x.op, x.n, x.name, x.args.modify (way % x.args.length) fun y => chX p f y (way / 2)⟩
/-- What changed answers: a tree that stands wherever the memory from which it was made stands, and what changed made. -/
def ChP (x : Ex) (w0 w : World) (e : Ending) (w' : World) : Prop := ∃ s', e = .returned (.tuple #[exV x s', .bool true]) ∧ Below w.heap.size w w' ∧ ∀ W, Below w0.heap.size w0 W → (∀ b, w.heap.size ≤ b → b < w'.heap.size → W.heap[b]? = w'.heap[b]?) → St W x s'
theorem ex_leaf (W : World) (op : Nat) (n : Int) (ho : op < 256) (hn : -9223372036854775808 ≤ n ∧ n ≤ 9223372036854775807) : St W ⟨op, n, ⟨#[]⟩, []⟩ (.slice none 0 0) :=
  St.intro ⟨op, n, ⟨#[]⟩, []⟩ none 0 (fun _ => .slice none 0 0) ho hn (by show (0 : Nat) ≤ _; omega) (by show (0 : Nat) ≤ _; omega) (Nat.le_refl _) (.inl rfl) (fun i hi => absurd hi (Nat.not_lt_zero i))
theorem row4p {W : World} {k : Nat} {p : Pg} {A B C : Value} (h : W.heap[k]? = some (.cells (pgC p A B C) 26 (0, 0))) : W.cell? ⟨k, 0, none⟩ = some (.int .i64 p.st) ∧ W.cell? ⟨k, 1, none⟩ = some A ∧ W.cell? ⟨k, 2, none⟩ = some B ∧ W.cell? ⟨k, 3, none⟩ = some C := row4 h
set_option maxRecDepth 100000 in
set_option maxHeartbeats 2000000 in
theorem ch_leaf (p : Pg) (x : Ex) (way : Nat) (w0 w : World) (ao : Option Addr) (cap : Nat) (A B C : Value) (hz : (ofV p x).2 = 0) (hP : PgAt w0 p A B C) (hR : TabR w0) (hJ : TabJ w0) (hS : St w0 x (.slice ao x.args.length cap)) (hB : Below w0.heap.size w0 w) (hway : x.args.length = 0 ∨ way = 0) (hwy : way < 256) :
    Calls Tryd.prog 22 #[pgV p A B C, exV x (.slice ao x.args.length cap), .int .i64 (way : Int)] w (ChP (chL p x) w0 w) := by
  obtain ⟨hck, has, hty0⟩ := (of_zero p x).1 hz
  have b3 := bstep (bstep ((Below.refl w.heap.size w).alloc (Nat.le_refl _) (.cells (pgC p A B C) 26)) ((Below.refl _ _).alloc (Nat.le_refl _) (.cells #[.int .u8 (x.op : Int), .int .i64 x.n, .string x.name, .slice ao x.args.length cap] 30))) ((Below.refl _ _).alloc (Nat.le_refl _) (.cells #[.int .u8 0, .int .i64 0, .string ⟨#[]⟩, .slice none 0 0] 30))
  have B3 := bstep hB b3
  have X0 := hid (OX.mk (w := w) (ao := ao) (cap := cap) (W := (((w.alloc (.cells (pgC p A B C) 26)).alloc (.cells #[.int .u8 (x.op : Int), .int .i64 x.n, .string x.name, .slice ao x.args.length cap] 30)).alloc (.cells #[.int .u8 0, .int .i64 0, .string ⟨#[]⟩, .slice none 0 0] 30))) (push_old (push_old (push_new _ _ _ rfl))) (push_old (push_new _ _ _ (by simp))) (hP.keep B3) (hS.keep B3) (hR.below B3) (hJ.below B3) b3)
  have Z3 := hid (show (((w.alloc (.cells (pgC p A B C) 26)).alloc (.cells #[.int .u8 (x.op : Int), .int .i64 x.n, .string x.name, .slice ao x.args.length cap] 30)).alloc (.cells #[.int .u8 0, .int .i64 0, .string ⟨#[]⟩, .slice none 0 0] 30)).heap[w.heap.size + 1 + 1]? = some (.cells #[.int .u8 0, .int .i64 0, .string ⟨#[]⟩, .slice none 0 0] 30 (0, 0)) from push_new _ _ _ (by simp))
  have c13 := of_ p x _ _ _ _ _ X0.out.P X0.out.S X0.out.R X0.out.J
  rw [of_ok hck has hty0] at c13
  obtain ⟨p0, p1, p2, p3⟩ := X0.out.pcs
  obtain ⟨q0, q1, q2, q3⟩ := X0.out.xcs
  have HL : Hid (chL p x = if tyE p x = 2 then ⟨2, 1, ⟨#[]⟩, []⟩ else ⟨1, 7, ⟨#[]⟩, []⟩) := hid rfl
  generalize tyE p x = tv at *
  generalize chL p x = zz at *
  have HC : Hid (x.args.length = 0 ∨ way = 0) := hid hway
  have hg : Hid (x.args.length = 0 ∨ (¬ x.args.length = 0 ∧ way = 0)) := hid (by omega)
  clear b3 B3 hz hck has hty0 hP hR hJ hS hway
  rcases hg.out with h0 | ⟨h0, hw0⟩
  · have e0 : ((x.args.length : Int) == 0) = true := by rw [beq_iff_eq]; omega
    clear HC hg h0
    go_enter Tryd.func22, Tryd.ntmps22
    go_wp2_with (fail)
    refine c13.mono ?_
    rintro e w4 ⟨rfl, hb4⟩
    have X4 := hid (X0.out.keep hb4)
    have Z4 := hid (keep_row Z3.out hb4)
    clear hb4 X0 Z3 p0 p1 p2 p3 q0 q1 q2 q3 e0
    by_cases ht : tv = 2
    · subst ht
      obtain rfl : zz = ⟨2, 1, ⟨#[]⟩, []⟩ := HL.out
      go_wp2_with (refine wpList_store_row rfl 30 _ _ rfl (w.heap.size + 1 + 1) #[.int .u8 2, .int .i64 1, .string ⟨#[]⟩, .slice none 0 0] rfl rfl 30 _ Z4.out info30 rfl (by simp [Value.oneCell']) ?_)
      exact bodyPost_ret (results_row_tmp rfl _ _ (w.heap.size + 1 + 1) #[.int .u8 2, .int .i64 1, .string ⟨#[]⟩, .slice none 0 0] rfl (run_loadVar_row _ _ 30 30 #[.int .u8 2, .int .i64 1, .string ⟨#[]⟩, .slice none 0 0] (0, 0) _ (setRow_heap _ _ _ _ _ _ Z4.out) Tryd.underlying30 rfl info30)) rfl ⟨_, rfl, below_row X4.out.below X4.out.below.size (by omega) _, fun W _ _ => ex_leaf W 2 1 (by decide) (by decide)⟩
    · have e2 : ((tv : Int) == 2) = false := by rw [beq_eq_false_iff_ne]; omega
      obtain rfl : zz = ⟨1, 7, ⟨#[]⟩, []⟩ := by have := HL.out; rwa [if_neg ht] at this
      clear ht
      go_wp2_with (refine wpList_store_row rfl 30 _ _ rfl (w.heap.size + 1 + 1) #[.int .u8 1, .int .i64 7, .string ⟨#[]⟩, .slice none 0 0] rfl rfl 30 _ Z4.out info30 rfl (by simp [Value.oneCell']) ?_)
      exact bodyPost_ret (results_row_tmp rfl _ _ (w.heap.size + 1 + 1) #[.int .u8 1, .int .i64 7, .string ⟨#[]⟩, .slice none 0 0] rfl (run_loadVar_row _ _ 30 30 #[.int .u8 1, .int .i64 7, .string ⟨#[]⟩, .slice none 0 0] (0, 0) _ (setRow_heap _ _ _ _ _ _ Z4.out) Tryd.underlying30 rfl info30)) rfl ⟨_, rfl, below_row X4.out.below X4.out.below.size (by omega) _, fun W _ _ => ex_leaf W 1 7 (by decide) (by decide)⟩
  · have e0 : ((x.args.length : Int) == 0) = false := by rw [beq_eq_false_iff_ne]; omega
    subst hw0
    clear HC hg h0
    go_enter Tryd.func22, Tryd.ntmps22
    go_wp2_with (fail)
    refine c13.mono ?_
    rintro e w4 ⟨rfl, hb4⟩
    have X4 := hid (X0.out.keep hb4)
    have Z4 := hid (keep_row Z3.out hb4)
    clear hb4 X0 Z3 p0 p1 p2 p3 q0 q1 q2 q3 e0
    by_cases ht : tv = 2
    · subst ht
      obtain rfl : zz = ⟨2, 1, ⟨#[]⟩, []⟩ := HL.out
      go_wp2_with (refine wpList_store_row rfl 30 _ _ rfl (w.heap.size + 1 + 1) #[.int .u8 2, .int .i64 1, .string ⟨#[]⟩, .slice none 0 0] rfl rfl 30 _ Z4.out info30 rfl (by simp [Value.oneCell']) ?_)
      exact bodyPost_ret (results_row_tmp rfl _ _ (w.heap.size + 1 + 1) #[.int .u8 2, .int .i64 1, .string ⟨#[]⟩, .slice none 0 0] rfl (run_loadVar_row _ _ 30 30 #[.int .u8 2, .int .i64 1, .string ⟨#[]⟩, .slice none 0 0] (0, 0) _ (setRow_heap _ _ _ _ _ _ Z4.out) Tryd.underlying30 rfl info30)) rfl ⟨_, rfl, below_row X4.out.below X4.out.below.size (by omega) _, fun W _ _ => ex_leaf W 2 1 (by decide) (by decide)⟩
    · have e2 : ((tv : Int) == 2) = false := by rw [beq_eq_false_iff_ne]; omega
      obtain rfl : zz = ⟨1, 7, ⟨#[]⟩, []⟩ := by have := HL.out; rwa [if_neg ht] at this
      clear ht
      go_wp2_with (refine wpList_store_row rfl 30 _ _ rfl (w.heap.size + 1 + 1) #[.int .u8 1, .int .i64 7, .string ⟨#[]⟩, .slice none 0 0] rfl rfl 30 _ Z4.out info30 rfl (by simp [Value.oneCell']) ?_)
      exact bodyPost_ret (results_row_tmp rfl _ _ (w.heap.size + 1 + 1) #[.int .u8 1, .int .i64 7, .string ⟨#[]⟩, .slice none 0 0] rfl (run_loadVar_row _ _ 30 30 #[.int .u8 1, .int .i64 7, .string ⟨#[]⟩, .slice none 0 0] (0, 0) _ (setRow_heap _ _ _ _ _ _ Z4.out) Tryd.underlying30 rfl info30)) rfl ⟨_, rfl, below_row X4.out.below X4.out.below.size (by omega) _, fun W _ _ => ex_leaf W 1 7 (by decide) (by decide)⟩
end Go.Proofs.YtakjkhfglihggaaDoor.Lex
namespace Go.Proofs.YtakjkhfglihggaaDoor.Lex
theorem com_le {ts : List Nat} (h : ∀ t ∈ ts, t ≤ 2) : com ts ≤ 2 := by
  unfold com
  split
  · cases ts with
    | nil => simp
    | cons a l => exact h a (List.mem_cons_self ..)
  · omega
theorem rule_le (op : Nat) {ts : List Nat} (h : ∀ t ∈ ts, t ≤ 2) : ruleT op ts ≤ 2 := by
  have h1 := com_le h
  have h2 : com (ts.drop 1) ≤ 2 := com_le fun t ht => h t (List.mem_of_mem_drop ht)
  unfold ruleT
  repeat' split
  all_goals omega
theorem tyN_le (p : Pg) (nm : ByteArray) : tyN p nm ≤ 2 := by
  unfold tyN
  split
  · split
    · omega
    · omega
  · omega
theorem ty_le (p : Pg) : ∀ (n : Nat) (x : Ex), SizeOf.sizeOf x ≤ n → tyE p x ≤ 2
  | 0, x, h => by have := x.pos; omega
  | n + 1, x, h => by
    rw [tyE_eq]
    split
    · omega
    split
    · omega
    split
    · exact tyN_le p _
    refine rule_le _ fun t ht => ?_
    obtain ⟨y, hy, rfl⟩ := List.mem_map.1 ht
    obtain ⟨i, hi, rfl⟩ := List.getElem_of_mem hy
    exact ty_le p n _ (by have := x.part_lt i hi; omega)
theorem ty_two (p : Pg) (x : Ex) : tyE p x = 0 ∨ tyE p x = 1 ∨ tyE p x = 2 := by
  have := ty_le p _ x (Nat.le_refl _)
  omega
theorem chL_ty (p : Pg) (x : Ex) (h : tyE p x ≠ 0) : tyE p (chL p x) = tyE p x := by
  unfold chL
  by_cases h2 : tyE p x = 2
  · rw [if_pos h2, h2, tyE_eq]; rfl
  · rw [if_neg h2]
    have := ty_two p x
    rw [show tyE p x = 1 by omega, tyE_eq]; rfl
theorem map_modify {α β : Type} (f : α → β) (g : α → α) : ∀ (l : List α) (k : Nat), (∀ a, l[k]? = some a → f (g a) = f a) → (l.modify k g).map f = l.map f
  | [], k, _ => by simp
  | a :: l, 0, h => by simp [h a rfl]
  | a :: l, k + 1, h => by
    have := map_modify f g l k (fun b hb => h b (by simpa using hb))
    simp [this]
theorem ch_ty (p : Pg) : ∀ (f : Nat) (x : Ex) (way : Nat), (ofV p x).2 = 0 → tyE p (chX p f x way) = tyE p x
  | 0, x, way, h => chL_ty p x ((of_zero p x).1 h).2.2
  | f + 1, x, way, h => by
    rw [chX]
    by_cases hc : x.args.length = 0 ∨ way = 0
    · rw [if_pos hc]; exact chL_ty p x ((of_zero p x).1 h).2.2
    · rw [if_neg hc, tyE_eq, tyE_eq p x]
      show (if x.op = 1 then 1 else if x.op = 2 then 2 else if x.op = 3 then tyN p x.name else ruleT x.op ((x.args.modify (way % x.args.length) fun y => chX p f y (way / 2)).map (tyE p))) = _
      rw [map_modify (tyE p) (fun y => chX p f y (way / 2)) x.args (way % x.args.length) (fun a ha => ch_ty p f a (way / 2) (by rw [(of_part h (List.mem_of_getElem? ha)).1]))]
theorem nmz_leaf (p : Pg) (x : Ex) : ∀ k, nmz k (chL p x) = []
  | 0 => rfl
  | k + 1 => by unfold chL; split <;> rfl
theorem flat_modify {g : Ex → Ex} {f h : Ex → List ByteArray} : ∀ (l : List Ex) (k : Nat), (∀ a, l[k]? = some a → ∀ s ∈ f (g a), s ∈ h a) → (∀ a s, s ∈ f a → s ∈ h a) → ∀ s ∈ (l.modify k g).flatMap f, s ∈ l.flatMap h
  | [], k, _, _, s, hs => by simp at hs
  | a :: l, 0, h1, h2, s, hs => by
    simp only [List.modify_zero_cons, List.flatMap_cons, List.mem_append] at hs ⊢
    rcases hs with hs | hs
    · exact .inl (h1 a rfl s hs)
    · refine .inr ?_
      obtain ⟨b, hb, hs⟩ := List.mem_flatMap.1 hs
      exact List.mem_flatMap.2 ⟨b, hb, h2 b s hs⟩
  | a :: l, k + 1, h1, h2, s, hs => by
    simp only [List.modify_succ_cons, List.flatMap_cons, List.mem_append] at hs ⊢
    rcases hs with hs | hs
    · exact .inl (h2 a s hs)
    · exact .inr (flat_modify l k (fun b hb => h1 b (by simpa using hb)) h2 s hs)
theorem ch_nmz (p : Pg) : ∀ (f : Nat) (x : Ex) (way k : Nat), ∀ s ∈ nmz k (chX p f x way), s ∈ nmz k x
  | 0, x, way, k, s, hs => by rw [chX, nmz_leaf] at hs; cases hs
  | f + 1, x, way, 0, s, hs => by simp [nmz] at hs
  | f + 1, x, way, k + 1, s, hs => by
    rw [chX] at hs
    by_cases hc : x.args.length = 0 ∨ way = 0
    · rw [if_pos hc, nmz_leaf] at hs; cases hs
    · rw [if_neg hc] at hs
      rw [nmz] at hs ⊢
      rcases List.mem_append.1 hs with hs | hs
      · exact List.mem_append.2 (.inl hs)
      · exact List.mem_append.2 (.inr (flat_modify x.args _ (fun a _ s hs => ch_nmz p f a (way / 2) k s hs) (fun _ _ h => h) s hs))
theorem sz_pos {d m : Nat} {x : Ex} {k : Nat} (h : sz d m x = some k) : 1 ≤ d ∧ 1 ≤ m ∧ 1 ≤ k := by
  cases d with
  | zero => simp [sz] at h
  | succ d =>
    unfold sz at h
    by_cases hc : m = 0 ∨ fieldsOk x.op x.n x.name x.args.length = false
    · rw [if_pos hc] at h; cases h
    · rw [if_neg hc] at h
      have hm : m ≠ 0 := fun e => hc (.inl e)
      have key : ∀ (l : List Ex) (n k : Nat), szL (sz d) m n l = some k → n ≤ k := by
        intro l
        induction l with
        | nil => intro n k h; simp [szL] at h; omega
        | cons a l ih =>
          intro n k h
          simp only [szL] at h
          cases e : sz d (m - n) a with
          | none => rw [e] at h; cases h
          | some j => rw [e] at h; have := ih _ _ h; omega
      exact ⟨by omega, by omega, key _ _ _ h⟩
theorem szL_less {d m : Nat} {g : Ex → Ex} : ∀ (l : List Ex) (j n n' k : Nat), (∀ a, l[j]? = some a → ∀ m' k', sz d m' a = some k' → ∃ k'', k'' ≤ k' ∧ sz d m' (g a) = some k'') → n' ≤ n → szL (sz d) m n l = some k → ∃ k', k' ≤ k ∧ szL (sz d) m n' (l.modify j g) = some k'
  | [], j, n, n', k, _, hn, h => by
    simp [szL] at h
    exact ⟨n', by omega, by simp [szL]⟩
  | a :: l, j, n, n', k, hg, hn, h => by
    simp only [szL] at h
    cases e : sz d (m - n) a with
    | none => rw [e] at h; cases h
    | some ka =>
      rw [e] at h
      have e' := sz_mono d d (Nat.le_refl _) (m - n) (m - n') a ka (by omega) e
      cases j with
      | zero =>
        obtain ⟨kb, hkb, eb⟩ := hg a rfl _ _ e'
        obtain ⟨kc, hkc, ec⟩ := szL_less (g := fun y => y) l 0 (n + ka) (n' + kb) k (fun a _ m' k' h => ⟨k', Nat.le_refl _, h⟩) (by omega) h
        refine ⟨kc, hkc, ?_⟩
        simp only [List.modify_zero_cons, szL, eb]
        have hid : l.modify 0 (fun y : Ex => y) = l := by cases l <;> simp
        rw [hid] at ec
        exact ec
      | succ j =>
        obtain ⟨kc, hkc, ec⟩ := szL_less l j (n + ka) (n' + ka) k (fun b hb => hg b (by simpa using hb)) (by omega) h
        refine ⟨kc, hkc, ?_⟩
        simp only [List.modify_succ_cons, szL, e']
        exact ec
theorem leaf_sz (p : Pg) (x : Ex) {d m : Nat} (hd : 1 ≤ d) (hm : 1 ≤ m) : sz d m (chL p x) = some 1 := by
  obtain ⟨d, rfl⟩ : ∃ e, d = e + 1 := ⟨d - 1, by omega⟩
  unfold chL
  split
  · unfold sz
    rw [if_neg (by rintro (h | h); · omega
                   · revert h; decide +kernel)]
    rfl
  · unfold sz
    rw [if_neg (by rintro (h | h); · omega
                   · revert h; decide +kernel)]
    rfl
theorem ch_sz (p : Pg) : ∀ (f : Nat) (x : Ex) (way d m k : Nat), sz d m x = some k → ∃ k', k' ≤ k ∧ sz d m (chX p f x way) = some k'
  | 0, x, way, d, m, k, h => by
    have := sz_pos h
    exact ⟨1, this.2.2, leaf_sz p x this.1 this.2.1⟩
  | f + 1, x, way, d, m, k, h => by
    have hp := sz_pos h
    rw [chX]
    by_cases hc : x.args.length = 0 ∨ way = 0
    · rw [if_pos hc]
      exact ⟨1, hp.2.2, leaf_sz p x hp.1 hp.2.1⟩
    · rw [if_neg hc]
      obtain ⟨d, rfl⟩ : ∃ e, d = e + 1 := ⟨d - 1, by omega⟩
      unfold sz at h
      by_cases h2 : m = 0 ∨ fieldsOk x.op x.n x.name x.args.length = false
      · rw [if_pos h2] at h; cases h
      · rw [if_neg h2] at h
        obtain ⟨k', hk', e⟩ := szL_less x.args (way % x.args.length) 1 1 k (g := fun y => chX p f y (way / 2)) (fun a _ m' k' h => ch_sz p f a (way / 2) d m' k' h) (Nat.le_refl _) h
        refine ⟨k', hk', ?_⟩
        unfold sz
        rw [if_neg (by rw [List.length_modify]; exact h2)]
        exact e
theorem ch_of (p : Pg) (f : Nat) (x : Ex) (way : Nat) (h : (ofV p x).2 = 0) : ofV p (chX p f x way) = (tyE p x, 0) := by
  obtain ⟨h1, h2, h3⟩ := (of_zero p x).1 h
  have e := ch_ty p f x way h
  rw [← e]
  refine of_ok ?_ ?_ (by rw [e]; exact h3)
  · unfold chk at h1 ⊢
    obtain ⟨k, hk⟩ := Option.isSome_iff_exists.1 h1
    obtain ⟨k', _, e'⟩ := ch_sz p f x way 32 200 k hk
    rw [e']; rfl
  · rw [asks_nmz] at h2 ⊢
    exact fun s hs => h2 s (ch_nmz p f x way 32 s hs)
end Go.Proofs.YtakjkhfglihggaaDoor.Lex
