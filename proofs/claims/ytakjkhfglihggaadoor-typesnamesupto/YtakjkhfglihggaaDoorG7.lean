/-
  What has a type, and what its parts have: plain mathematics.
  fits: may a default be of a type.
  Is each flow of its type: the contract of types.Check.
  What the chapter's program has for names, and the type of something in it: the contracts of name, of, small, is.
  A program of just the names that are asked for, with their types: plain mathematics, and its memory.
  How great it is, counted to the end: where it is not greater than so, ExprSize tells just that.
-/
import Derived.Test.YtakjkhfglihggaaDoorG6
import Derived.Test.YtakjkhfglihggaaDoorG4
import Derived.Test.YtakjkhfglihggaaDoorG5
import Derived.Laws.ResultCell
import Derived.Maps.AppendAt
import Derived.Test.YtakjkhfglihggaaDoorRows
namespace Go.Proofs.YtakjkhfglihggaaDoor.Lex
/-- All that it asks for, as often as it does. -/
def pl : Nat → Ex → Nat → List Rf
  | 0, _, _ => []
  | k + 1, x, ago => (if x.op = 3 then [(x.name, ago)] else []) ++ x.args.flatMap fun y => pl k y (nextAgo x ago)
theorem foldl_flat {α β γ : Type} (f : β → γ → β) (g : α → List γ) : ∀ (l : List α) (b : β), l.foldl (fun b a => (g a).foldl f b) b = (l.flatMap g).foldl f b
  | [], _ => rfl
  | a :: l, b => by simp only [List.foldl_cons, List.flatMap_cons, List.foldl_append]; exact foldl_flat f g l _
theorem gat_pl : ∀ (k : Nat) (x : Ex) (ago : Nat) (acc : List Rf), gat k x ago acc = (pl k x ago).foldl addR acc
  | 0, _, _, _ => rfl
  | k + 1, x, ago, acc => by
    have e : (fun (acc : List Rf) (y : Ex) => gat k y (nextAgo x ago) acc) = fun acc y => (pl k y (nextAgo x ago)).foldl addR acc := by
      funext acc y
      exact gat_pl k y (nextAgo x ago) acc
    rw [gat, pl, e, foldl_flat addR (fun y => pl k y (nextAgo x ago)), List.foldl_append]
    congr 1
    unfold ownRefs
    split <;> rfl
theorem addR_mem (acc : List Rf) (r : Rf) (s : Rf) : s ∈ addR acc r ↔ s ∈ acc ∨ s = r := by
  unfold addR
  split
  · rename_i h
    constructor
    · exact .inl
    · rintro (h1 | rfl)
      · exact h1
      · exact rIn_mem.1 h
  · simp
theorem addR_in {acc : List Rf} {r : Rf} (h : r ∈ acc) : addR acc r = acc := by unfold addR; rw [if_pos (rIn_mem.2 h)]
theorem addR_new {acc : List Rf} {r : Rf} (h : r ∉ acc) : addR acc r = acc ++ [r] := by unfold addR; rw [if_neg (fun h' => h (rIn_mem.1 h'))]
theorem fold_mem : ∀ (l acc : List Rf) (s : Rf), s ∈ l.foldl addR acc ↔ s ∈ acc ∨ s ∈ l
  | [], acc, s => by simp
  | r :: l, acc, s => by rw [List.foldl_cons, fold_mem l, addR_mem, List.mem_cons, or_assoc]
theorem gat_mem (k : Nat) (x : Ex) (ago : Nat) (r : Rf) : r ∈ gat k x ago [] ↔ r ∈ pl k x ago := by
  rw [gat_pl, fold_mem]
  simp
/-- The names that it asks for. -/
def nmz : Nat → Ex → List ByteArray
  | 0, _ => []
  | k + 1, x => (if x.op = 3 then [x.name] else []) ++ x.args.flatMap (nmz k)
theorem pl_nmz : ∀ (k : Nat) (x : Ex) (ago : Nat), (pl k x ago).map (·.1) = nmz k x
  | 0, _, _ => rfl
  | k + 1, x, ago => by
    rw [pl, nmz, List.map_append]
    congr 1
    · split <;> rfl
    · rw [List.map_flatMap]
      congr 1
      funext y
      exact pl_nmz k y (nextAgo x ago)
theorem asks_nmz (p : Pg) (x : Ex) : asksAll p x = true ↔ ∀ s ∈ nmz 32 x, (findT (thingsL p) s).isSome = true := by
  unfold asksAll
  rw [List.all_eq_true]
  constructor
  · intro h s hs
    rw [← pl_nmz 32 x 0] at hs
    obtain ⟨r, hr, rfl⟩ := List.mem_map.1 hs
    exact h r ((gat_mem 32 x 0 r).2 hr)
  · intro h r hr
    exact h r.1 (by rw [← pl_nmz 32 x 0]; exact List.mem_map.2 ⟨r, (gat_mem 32 x 0 r).1 hr, rfl⟩)
theorem nmz_deep : ∀ (d : Nat) (x : Ex), okD d x → nmz (d + 1) x = nmz d x
  | 0, _, h => h.elim
  | d + 1, x, h => by
    rw [nmz, nmz]
    congr 1
    have key : ∀ l : List Ex, (∀ y ∈ l, okD d y) → l.flatMap (nmz (d + 1)) = l.flatMap (nmz d) := by
      intro l
      induction l with
      | nil => intro _; rfl
      | cons a l ih => intro hl; rw [List.flatMap_cons, List.flatMap_cons, nmz_deep d a (hl a (List.mem_cons_self ..)), ih fun y hy => hl y (List.mem_cons_of_mem _ hy)]
    exact key x.args h.2
theorem szL_mono {f g : Nat → Ex → Option Nat} (h : ∀ m m' a j, m ≤ m' → f m a = some j → g m' a = some j) (m m' : Nat) (hm : m ≤ m') : ∀ (l : List Ex) (n k : Nat), szL f m n l = some k → szL g m' n l = some k
  | [], n, k, hs => by simpa [szL] using hs
  | a :: l, n, k, hs => by
    simp only [szL] at hs ⊢
    cases e : f (m - n) a with
    | none => rw [e] at hs; cases hs
    | some j =>
      rw [e] at hs
      rw [h (m - n) (m' - n) a j (by omega) e]
      exact szL_mono h m m' hm l _ k hs
theorem sz_mono : ∀ (d d' : Nat), d ≤ d' → ∀ (m m' : Nat) (x : Ex) (k : Nat), m ≤ m' → sz d m x = some k → sz d' m' x = some k
  | 0, _, _, _, _, _, _, _, h => by simp [sz] at h
  | d + 1, 0, hd, _, _, _, _, _, _ => by omega
  | d + 1, d' + 1, hd, m, m', x, k, hm, h => by
    unfold sz at h ⊢
    by_cases hc : m = 0 ∨ fieldsOk x.op x.n x.name x.args.length = false
    · rw [if_pos hc] at h; cases h
    · rw [if_neg hc] at h
      rw [if_neg (fun h' => hc (by rcases h' with h' | h'; · exact .inl (by omega)
                                   · exact .inr h'))]
      exact szL_mono (fun a b y j hab hj => sz_mono d d' (by omega) a b y j hab hj) m m' hm x.args 1 k h
theorem chk_part {x y : Ex} (h : chk x = true) (hy : y ∈ x.args) : chk y = true := by
  unfold chk at h ⊢
  obtain ⟨k, hk⟩ := Option.isSome_iff_exists.1 h
  unfold sz at hk
  by_cases hc : 200 = 0 ∨ fieldsOk x.op x.n x.name x.args.length = false
  · rw [if_pos hc] at hk; cases hk
  · rw [if_neg hc] at hk
    have key : ∀ (l : List Ex) (n k : Nat), szL (sz 31) 200 n l = some k → y ∈ l → (sz 32 200 y).isSome = true := by
      intro l
      induction l with
      | nil => intro n k _ hy; cases hy
      | cons a l ih =>
        intro n k hs hy
        simp only [szL] at hs
        cases e : sz 31 (200 - n) a with
        | none => rw [e] at hs; cases hs
        | some j =>
          rw [e] at hs
          rcases List.mem_cons.1 hy with rfl | hy
          · rw [sz_mono 31 32 (by omega) (200 - n) 200 y j (by omega) e]; rfl
          · exact ih _ _ hs hy
    exact key x.args 1 k hk hy
theorem asks_part {p : Pg} {x y : Ex} (h : chk x = true) (ha : asksAll p x = true) (hy : y ∈ x.args) : asksAll p y = true := by
  rw [asks_nmz] at ha ⊢
  intro s hs
  have ho := chk_ok h
  have h31 : okD 31 y := ho.2 y hy
  rw [nmz_deep 31 y h31] at hs
  refine ha s ?_
  rw [nmz]
  exact List.mem_append.2 (.inr (List.mem_flatMap.2 ⟨y, hy, hs⟩))
theorem com_all {ts : List Nat} (h : com ts ≠ 0) : ∀ u ∈ ts, u = com ts := by
  intro u hu
  unfold com at h ⊢
  by_cases hc : (ts.all fun t => t == ts.headD 0) = true
  · rw [if_pos hc]
    exact beq_iff_eq.1 (List.all_eq_true.1 hc u hu)
  · rw [if_neg hc] at h; exact (h rfl).elim
theorem of_zero (p : Pg) (x : Ex) : (ofV p x).2 = 0 ↔ chk x = true ∧ asksAll p x = true ∧ tyE p x ≠ 0 := by
  unfold ofV
  by_cases h1 : chk x = false
  · rw [if_pos h1]; simp [h1]
  · rw [if_neg h1]
    have h1' : chk x = true := by simpa using h1
    by_cases h2 : asksAll p x = false
    · rw [if_pos h2]; simp [h2]
    · rw [if_neg h2]
      have h2' : asksAll p x = true := by simpa using h2
      by_cases h3 : tyE p x = 0
      · rw [if_pos h3]; simp [h3]
      · rw [if_neg h3]; simp [h1', h2', h3]
theorem of_ok {p : Pg} {x : Ex} (h1 : chk x = true) (h2 : asksAll p x = true) (h3 : tyE p x ≠ 0) : ofV p x = (tyE p x, 0) := by
  unfold ofV
  rw [if_neg (by rw [h1]; simp), if_neg (by rw [h2]; simp), if_neg h3]
theorem of_not {p : Pg} {x : Ex} (h : (ofV p x).2 ≠ 0) : (ofV p x).1 = 0 ∧ (decide ((ofV p x).2 = 1) = !chk x) := by
  unfold ofV at h ⊢
  by_cases h1 : chk x = false
  · rw [if_pos h1]; simp [h1]
  · rw [if_neg h1] at h ⊢
    have h1' : chk x = true := by simpa using h1
    by_cases h2 : asksAll p x = false
    · rw [if_pos h2]; simp [h1']
    · rw [if_neg h2] at h ⊢
      by_cases h3 : tyE p x = 0
      · rw [if_pos h3]; simp [h1']
      · rw [if_neg h3] at h; exact (h rfl).elim
/-- What is known of one that has a type. -/
theorem fields_len {x : Ex} (h : chk x = true) : fieldsOk x.op x.n x.name x.args.length = true := (chk_ok h).1
theorem part_ty {p : Pg} {x y : Ex} (h : chk x = true) (ht : tyE p x ≠ 0) (hy : y ∈ x.args) : tyE p y ≠ 0 := by
  have hf := fields_len h
  have hlen : x.args.length ≠ 0 := by intro e; rw [List.length_eq_zero_iff.1 e] at hy; cases hy
  by_cases h1 : x.op = 1
  · unfold fieldsOk at hf; rw [if_pos h1] at hf; simp at hf; rw [hf.2.2] at hy; cases hy
  by_cases h2 : x.op = 2
  · unfold fieldsOk at hf; rw [if_neg h1, if_pos h2] at hf; simp at hf; rw [hf.2.2] at hy; cases hy
  by_cases h3 : x.op = 3
  · unfold fieldsOk at hf; rw [if_neg h1, if_neg h2, if_pos h3] at hf; simp at hf; rw [hf.2.2] at hy; cases hy
  have hp := ok_parts hf h1 h2 h3
  rw [tyE_eq, if_neg h1, if_neg h2, if_neg h3] at ht
  have hm : tyE p y ∈ x.args.map (tyE p) := List.mem_map.2 ⟨y, hy, rfl⟩
  unfold ruleT at ht
  by_cases hk0 : x.op = 4 ∨ x.op = 6 ∨ x.op = 7 ∨ x.op = 8 ∨ x.op = 9 ∨ x.op = 10
  · rw [if_pos hk0] at ht
    by_cases hc : com (x.args.map (tyE p)) = 1
    · rw [com_all (by omega) _ hm]; omega
    · rw [if_neg hc] at ht; exact (ht rfl).elim
  rw [if_neg hk0] at ht
  by_cases hk1 : x.op = 5 ∨ x.op = 15 ∨ x.op = 16
  · rw [if_pos hk1] at ht
    by_cases hc : com (x.args.map (tyE p)) = 2
    · rw [com_all (by omega) _ hm]; omega
    · rw [if_neg hc] at ht; exact (ht rfl).elim
  rw [if_neg hk1] at ht
  by_cases hk2 : x.op = 13 ∨ x.op = 14
  · rw [if_pos hk2] at ht
    by_cases hc : com (x.args.map (tyE p)) = 1
    · rw [com_all (by omega) _ hm]; omega
    · rw [if_neg hc] at ht; exact (ht rfl).elim
  rw [if_neg hk2] at ht
  by_cases hk3 : x.op = 11 ∨ x.op = 12
  · rw [if_pos hk3] at ht
    by_cases hc : com (x.args.map (tyE p)) = 0
    · rw [if_pos hc] at ht; exact (ht rfl).elim
    · rw [com_all hc _ hm]; exact hc
  rw [if_neg hk3] at ht
  by_cases hk4 : x.op = 17
  · rw [if_pos hk4] at ht
    by_cases hc : (x.args.map (tyE p)).headD 0 = 2
    · rw [if_pos hc] at ht
      cases hts : x.args.map (tyE p) with
      | nil => rw [hts] at hm; cases hm
      | cons a l =>
        rw [hts] at hm hc ht
        rcases List.mem_cons.1 hm with e | hm'
        · rw [e]; simp at hc; omega
        · rw [com_all (ts := l) ht _ hm']; exact ht
    · rw [if_neg hc] at ht; exact (ht rfl).elim
  rw [if_neg hk4] at ht
  rw [com_all ht _ hm]; exact ht
theorem of_part {p : Pg} {x y : Ex} (h : (ofV p x).2 = 0) (hy : y ∈ x.args) : ofV p y = (tyE p y, 0) ∧ tyE p y ≠ 0 := by
  obtain ⟨h1, h2, h3⟩ := (of_zero p x).1 h
  have ht := part_ty h1 h3 hy
  exact ⟨of_ok (chk_part h1 hy) (asks_part h1 h2 hy) ht, ht⟩
/-- By the operator, what the parts have. -/
theorem ty_num {p : Pg} {x : Ex} (ht : tyE p x ≠ 0) (hk : x.op = 4 ∨ x.op = 6 ∨ x.op = 7 ∨ x.op = 8 ∨ x.op = 9 ∨ x.op = 10) : tyE p x = 1 ∧ ∀ u ∈ x.args.map (tyE p), u = 1 := by
  have h1 : x.op ≠ 1 := by omega
  have h2 : x.op ≠ 2 := by omega
  have h3 : x.op ≠ 3 := by omega
  have e := tyE_eq p x
  rw [if_neg h1, if_neg h2, if_neg h3] at e
  unfold ruleT at e
  rw [if_pos hk] at e
  by_cases hc : com (x.args.map (tyE p)) = 1
  · rw [if_pos hc] at e
    exact ⟨e, fun u hu => (com_all (by omega) u hu).trans hc⟩
  · rw [if_neg hc] at e; exact (ht e).elim
theorem ty_log {p : Pg} {x : Ex} (ht : tyE p x ≠ 0) (hk : x.op = 5 ∨ x.op = 15 ∨ x.op = 16) : tyE p x = 2 ∧ ∀ u ∈ x.args.map (tyE p), u = 2 := by
  have h1 : x.op ≠ 1 := by omega
  have h2 : x.op ≠ 2 := by omega
  have h3 : x.op ≠ 3 := by omega
  have e := tyE_eq p x
  rw [if_neg h1, if_neg h2, if_neg h3] at e
  unfold ruleT at e
  rw [if_neg (by omega), if_pos hk] at e
  by_cases hc : com (x.args.map (tyE p)) = 2
  · rw [if_pos hc] at e
    exact ⟨e, fun u hu => (com_all (by omega) u hu).trans hc⟩
  · rw [if_neg hc] at e; exact (ht e).elim
theorem ty_less {p : Pg} {x : Ex} (ht : tyE p x ≠ 0) (hk : x.op = 13 ∨ x.op = 14) : tyE p x = 2 ∧ ∀ u ∈ x.args.map (tyE p), u = 1 := by
  have h1 : x.op ≠ 1 := by omega
  have h2 : x.op ≠ 2 := by omega
  have h3 : x.op ≠ 3 := by omega
  have e := tyE_eq p x
  rw [if_neg h1, if_neg h2, if_neg h3] at e
  unfold ruleT at e
  rw [if_neg (by omega), if_neg (by omega), if_pos hk] at e
  by_cases hc : com (x.args.map (tyE p)) = 1
  · rw [if_pos hc] at e
    exact ⟨e, fun u hu => (com_all (by omega) u hu).trans hc⟩
  · rw [if_neg hc] at e; exact (ht e).elim
theorem ty_eq {p : Pg} {x : Ex} (ht : tyE p x ≠ 0) (hk : x.op = 11 ∨ x.op = 12) : tyE p x = 2 ∧ ∃ c, ∀ u ∈ x.args.map (tyE p), u = c := by
  have h1 : x.op ≠ 1 := by omega
  have h2 : x.op ≠ 2 := by omega
  have h3 : x.op ≠ 3 := by omega
  have e := tyE_eq p x
  rw [if_neg h1, if_neg h2, if_neg h3] at e
  unfold ruleT at e
  rw [if_neg (by omega), if_neg (by omega), if_neg (by omega), if_pos hk] at e
  by_cases hc : com (x.args.map (tyE p)) = 0
  · rw [if_pos hc] at e; exact (ht e).elim
  · rw [if_neg hc] at e
    exact ⟨e, _, com_all hc⟩
theorem ty_if {p : Pg} {x : Ex} (ht : tyE p x ≠ 0) (hk : x.op = 17) : (x.args.map (tyE p)).headD 0 = 2 ∧ ∀ u ∈ (x.args.map (tyE p)).drop 1, u = tyE p x := by
  have h1 : x.op ≠ 1 := by omega
  have h2 : x.op ≠ 2 := by omega
  have h3 : x.op ≠ 3 := by omega
  have e := tyE_eq p x
  rw [if_neg h1, if_neg h2, if_neg h3] at e
  unfold ruleT at e
  rw [if_neg (by omega), if_neg (by omega), if_neg (by omega), if_neg (by omega), if_pos hk] at e
  by_cases hc : (x.args.map (tyE p)).headD 0 = 2
  · rw [if_pos hc] at e
    refine ⟨hc, fun u hu => ?_⟩
    rw [e]
    exact com_all (fun h => ht (e.trans h)) u hu
  · rw [if_neg hc] at e; exact (ht e).elim
theorem ty_same {p : Pg} {x : Ex} (ht : tyE p x ≠ 0) (hk : x.op = 18 ∨ x.op = 19) : ∀ u ∈ x.args.map (tyE p), u = tyE p x := by
  have h1 : x.op ≠ 1 := by omega
  have h2 : x.op ≠ 2 := by omega
  have h3 : x.op ≠ 3 := by omega
  have e := tyE_eq p x
  rw [if_neg h1, if_neg h2, if_neg h3] at e
  unfold ruleT at e
  rw [if_neg (by omega), if_neg (by omega), if_neg (by omega), if_neg (by omega), if_neg (by omega)] at e
  intro u hu
  rw [e]
  exact com_all (fun h => ht (e.trans h)) u hu
theorem ty_name {p : Pg} {x : Ex} (ht : tyE p x ≠ 0) (hk : x.op = 3) : ∃ z, findT (thingsL p) x.name = some z ∧ z.2.ty = tyE p x := by
  have e := tyE_eq p x
  rw [if_neg (by omega), if_neg (by omega), if_pos hk] at e
  unfold tyN at e
  cases hz : findT (thingsL p) x.name with
  | none => rw [hz] at e; exact (ht e).elim
  | some z =>
    rw [hz] at e
    simp only at e
    by_cases hc : z.2.ty = 1 ∨ z.2.ty = 2
    · rw [if_pos hc] at e; exact ⟨z, rfl, e.symm⟩
    · rw [if_neg hc] at e; exact (ht e).elim
theorem len_parts {x : Ex} (h : chk x = true) (h1 : x.op ≠ 1) (h2 : x.op ≠ 2) (h3 : x.op ≠ 3) : x.args.length = parts x.op := by
  have hf := fields_len h
  unfold fieldsOk at hf
  rw [if_neg h1, if_neg h2, if_neg h3] at hf
  simp only [Bool.and_eq_true, decide_eq_true_eq] at hf
  exact hf.2.2.2
theorem parts_two {op : Nat} (h : op = 11 ∨ op = 12 ∨ op = 18) : parts op = 2 := by
  rcases h with rfl | rfl | rfl <;> decide +kernel
theorem parts_one : parts 19 = 1 := by decide +kernel
end Go.Proofs.YtakjkhfglihggaaDoor.Lex
namespace Go.Proofs.YtakjkhfglihggaaDoor.Lex
open Go.ChangeShapes Go.WideShapes Go.ChangeAt Go.RowKit Go.Joins
def fitT (v : Int) (t : Nat) : Bool := !decide (t = 2) || decide (v = 0) || decide (v = 1)
set_option maxRecDepth 100000 in
set_option maxHeartbeats 1000000 in
theorem fits_t (v : Int) (t : Nat) (w : World) :
    Calls Tryd.prog 41 #[.int .i64 v, .int .u8 (t : Int)] w fun e w' => e = .returned (.bool (fitT v t)) ∧ Below w.heap.size w w' := by
  have B0 := Below.refl w.heap.size w
  by_cases ht : t = 2
  · have ht' : (t : Int) = 2 := by omega
    by_cases h0 : v = 0
    · go_enter Tryd.func41, Tryd.ntmps41
      go_wp2_with (fail)
      go_ret
      refine ⟨?_, B0⟩
      simp [fitT, ht, h0]
    · go_enter Tryd.func41, Tryd.ntmps41
      go_wp2_with (fail)
      go_ret
      refine ⟨?_, B0⟩
      by_cases h1 : v = 1 <;> simp [fitT, ht, h0, h1]
  · have ht' : ¬ (t : Int) = 2 := by omega
    go_enter Tryd.func41, Tryd.ntmps41
    go_wp2_with (fail)
    go_ret
    refine ⟨?_, B0⟩
    simp [fitT, ht]
end Go.Proofs.YtakjkhfglihggaaDoor.Lex
namespace Go.Proofs.YtakjkhfglihggaaDoor.Lex
open Go.ChangeShapes Go.WideShapes Go.ChangeAt Go.RowKit Go.Joins
/-- Is a flow of its type, and its default? -/
def flT (p : Pg) (f : Fl) : Bool := decide (tyE p f.body = f.ty) && fitT f.df f.ty
/-- What types.Check answers. -/
def ckV (p : Pg) : Int := if nmErr p = 0 then (if p.flows.all (flT p) then 0 else 7) else nmErr p
theorem nmErr_ok {p : Pg} (h : nmErr p = 0) : pgOk p = true := by
  unfold nmErr at h
  by_cases hp : pgOk p = true
  · exact hp
  · rw [if_neg hp] at h; omega
set_option maxRecDepth 100000 in
set_option maxHeartbeats 4000000 in
theorem types_check (p : Pg) (w : World) (A B C : Value) (hP : PgAt w p A B C) (hR : TabR w) (hJ : TabJ w) : Calls Tryd.prog 17 #[pgV p A B C] w fun e w' => e = .returned (.int .i64 (ckV p)) ∧ Below w.heap.size w w' := by
  have X0 := hid (FV.new hP hR hJ)
  obtain ⟨ao, cap, sl0, rfl, _⟩ := hP.flows
  clear hP hR hJ
  go_enter Tryd.func17, Tryd.ntmps17
  go_wp2_with (fail)
  refine ((callsIn_wide (n := 20)).1 (names_check p _ _ _ _ X0.out.P X0.out.R X0.out.J)).mono ?_
  rintro e w1 ⟨rfl, hb1⟩
  have X1 := hid (X0.out.keep hb1)
  clear hb1 X0
  by_cases hn : nmErr p = 0
  · have HK := hid (pgOk_chk (nmErr_ok hn))
    have HOV : Hid (ckV p = if p.flows.all (flT p) then 0 else 7) := hid (by unfold ckV; rw [if_pos hn])
    rw [hn]
    clear hn
    go_wp2_with (fail)
    refine (rules _).mono ?_
    rintro e w2 ⟨ab, rfl, hasks, hb2⟩
    have X2 := hid (X1.out.keep hb2)
    have AS := hid hasks
    generalize w1.heap.size = an at AS
    obtain ⟨s0, s1, s2, s3⟩ := row4 X2.out.row
    clear hb2 hasks X1
    go_wp2_with (fail)
    clear s0 s1 s2 s3
    obtain ⟨ao', cap', sl, heq, hlen, _, hok, hc, hs⟩ := X2.out.P.flows
    obtain ⟨rfl, rfl⟩ : ao = ao' ∧ cap = cap' := by simpa using heq
    have HC := hid hc
    have HS := hid hs
    clear hc hs hok heq
    go_loopw [16] (fun i wr => ∃ r : Nat, r ≤ p.flows.length ∧ i = .int .i64 (r : Int) ∧ Hid (∀ z ∈ p.flows.take r, flT p z = true) ∧ Hid (Below w2.heap.size w2 wr)) (fun i _ => p.flows.length - (intOf i).toNat)
    case atStart => exact ⟨0, Nat.zero_le _, rfl, hid (by simp), hid (Below.refl _ _)⟩
    case round =>
      obtain ⟨r, hr, rfl, HE, hB⟩ := hrel
      have FX := hid (X2.out.keep hB.out)
      by_cases hrl : r < p.flows.length
      · have hrl' : (r : Int) < (p.flows.length : Int) := by omega
        have hr0 : (0 : Int) ≤ (r : Int) := by omega
        obtain ⟨gb, go, rfl, hcc⟩ := HC.out.resolve_left (by omega)
        obtain ⟨y0, y1, y2, y3, y4, y5, y6, y7⟩ := (hcc r hrl).keep hB.out
        have HTK := hid (List.take_succ_eq_append_getElem hrl)
        have HMG := hid (List.getElem_mem hrl)
        have HST := hid ((HS.out r hrl).keep hB.out)
        clear hcc
        generalize sl r = sv at *
        generalize hy : p.flows[r] = y at *
        clear hy
        obtain ⟨sa, sc, _, rfl, _⟩ := HST.out.out
        have BA := hid ((Below.refl wr.heap.size wr).alloc (Nat.le_refl _) (.cells #[.string y.name, .int .u8 (y.ty : Int), .int .i64 y.st, .int .i64 y.df, .int .u8 (y.body.op : Int), .int .i64 y.body.n, .string y.body.name, .slice sa y.body.args.length sc] 52))
        have FA := hid (FX.out.keep BA.out)
        have bx := fun j v => box_at wr #[.string y.name, .int .u8 (y.ty : Int), .int .i64 y.st, .int .i64 y.df, .int .u8 (y.body.op : Int), .int .i64 y.body.n, .string y.body.name, .slice sa y.body.args.length sc] 52 j v
        have q0 := bx 0 _ rfl
        have q1 := bx 1 _ rfl
        have q2 := bx 2 _ rfl
        have q3 := bx 3 _ rfl
        have q4 := bx 4 _ rfl
        have q5 := bx 5 _ rfl
        have q6 := bx 6 _ rfl
        have q7 := bx 7 _ rfl
        clear bx
        obtain ⟨s0, s1, s2, s3⟩ := row4 FA.out.row
        have c31 := type_of p y.body (HK.out y HMG.out) _ _ _ _ _ an ab (FA.out.P.keep (Below.refl _ _).drew) ((AS.out.keep (hB.out.trans (BA.out.mono hB.out.size))).keep (Below.refl _ _).drew) ((HST.out.keep BA.out).keep (Below.refl _ _).drew)
        by_cases ht : tyE p y.body = y.ty
        · rw [ht] at c31
          have HTB : Hid (((y.ty : Int) != (y.ty : Int)) = false) := hid (by simp)
          go_wp2_with (fail)
          refine wp_region_held_drew (S := fun W => W.cell? ⟨w.heap.size, 0, none⟩ = some (.int .i64 p.st) ∧ W.cell? ⟨w.heap.size, 1, none⟩ = some (A) ∧ W.cell? ⟨w.heap.size, 2, none⟩ = some ((.slice (some ⟨gb, go, none⟩) p.flows.length cap)) ∧ W.cell? ⟨w.heap.size, 3, none⟩ = some (C) ∧ W.cell? ⟨wr.heap.size, 0, none⟩ = some (.string y.name) ∧ W.cell? ⟨wr.heap.size, 1, none⟩ = some (.int .u8 (y.ty : Int)) ∧ W.cell? ⟨wr.heap.size, 2, none⟩ = some (.int .i64 y.st) ∧ W.cell? ⟨wr.heap.size, 3, none⟩ = some (.int .i64 y.df) ∧ W.cell? ⟨wr.heap.size, 4, none⟩ = some (.int .u8 (y.body.op : Int)) ∧ W.cell? ⟨wr.heap.size, 5, none⟩ = some (.int .i64 y.body.n) ∧ W.cell? ⟨wr.heap.size, 6, none⟩ = some (.string y.body.name) ∧ W.cell? ⟨wr.heap.size, 7, none⟩ = some (.slice sa y.body.args.length sc)) (by kernel_rfl) ?_ (fun hHeld => ?_)
          · exact ⟨s0, s1, s2, s3, q0, q1, q2, q3, q4, q5, q6, q7⟩
          refine wpAnyH_take (i := 0) (oi := { dst := some 20, op := Go.Op.load 26 (Go.Operand.tmp 1), type := 26, pos := _, after := #[], guard := none }) (v := ?_) rfl (by kernel_rfl) (by kernel_rfl) (by kernel_rfl) (fun _ _ _ h => h) (Or.inl ⟨by rfl, ?_⟩) (by assumption) ?_
          rotate_left
          · intro w hSw; (try dsimp only at hSw); go_simp <;> first | with_reducible rfl | (rw [if_neg (by first | omega | (simp only [ByteArray.size_append] at *; omega))])
          simp only [Act.put, List.setIfInBounds_toArray, List.set_cons_zero, List.set_cons_succ]
          refine wpAnyH_take (i := 1) (oi := { dst := some 21, op := Go.Op.move (Go.Operand.tmp 4), type := 68, pos := _, after := #[], guard := none }) (v := ?_) rfl (by kernel_rfl) (by kernel_rfl) (by kernel_rfl) (fun _ _ _ h => h) (Or.inl ⟨by rfl, ?_⟩) (by assumption) ?_
          rotate_left
          · intro w hSw; (try dsimp only at hSw); go_simp <;> first | with_reducible rfl | (rw [if_neg (by first | omega | (simp only [ByteArray.size_append] at *; omega))])
          simp only [Act.put, List.setIfInBounds_toArray, List.set_cons_zero, List.set_cons_succ]
          refine wpAnyH_take (i := 2) (oi := { dst := some 22, op := Go.Op.fieldAddr 52 (Go.Operand.tmp 6) 4, type := 0, pos := _, after := #[], guard := none }) (v := ?_) rfl (by kernel_rfl) (by kernel_rfl) (by kernel_rfl) (fun _ _ _ h => h) (Or.inl ⟨by rfl, ?_⟩) (by assumption) ?_
          rotate_left
          · intro w hSw; (try dsimp only at hSw); go_simp <;> first | with_reducible rfl | (rw [if_neg (by first | omega | (simp only [ByteArray.size_append] at *; omega))])
          simp only [Act.put, List.setIfInBounds_toArray, List.set_cons_zero, List.set_cons_succ]
          refine wpAnyH_take (i := 3) (oi := { dst := some 23, op := Go.Op.load 30 (Go.Operand.tmp 22), type := 30, pos := _, after := #[{ on := 2, ground := Go.Ground.data }], guard := none }) (v := ?_) rfl (by kernel_rfl) (by kernel_rfl) (by kernel_rfl) (fun _ _ _ h => h) (Or.inl ⟨by rfl, ?_⟩) (by assumption) ?_
          rotate_left
          · intro w hSw; (try dsimp only at hSw); go_simp <;> first | with_reducible rfl | (rw [if_neg (by first | omega | (simp only [ByteArray.size_append] at *; omega))])
          simp only [Act.put, List.setIfInBounds_toArray, List.set_cons_zero, List.set_cons_succ]
          refine wpAnyH_take (i := 5) (oi := { dst := some 25, op := Go.Op.fieldAddr 52 (Go.Operand.tmp 6) 1, type := 0, pos := _, after := #[], guard := none }) (v := ?_) rfl (by kernel_rfl) (by kernel_rfl) (by kernel_rfl) (fun _ _ _ h => h) (Or.inl ⟨by rfl, ?_⟩) (by assumption) ?_
          rotate_left
          · intro w hSw; (try dsimp only at hSw); go_simp <;> first | with_reducible rfl | (rw [if_neg (by first | omega | (simp only [ByteArray.size_append] at *; omega))])
          simp only [Act.put, List.setIfInBounds_toArray, List.set_cons_zero, List.set_cons_succ]
          refine wpAnyH_take (i := 6) (oi := { dst := some 26, op := Go.Op.load 35 (Go.Operand.tmp 25), type := 35, pos := _, after := #[{ on := 5, ground := Go.Ground.data }], guard := none }) (v := ?_) rfl (by kernel_rfl) (by kernel_rfl) (by kernel_rfl) (fun _ _ _ h => h) (Or.inl ⟨by rfl, ?_⟩) (by assumption) ?_
          rotate_left
          · intro w hSw; (try dsimp only at hSw); go_simp <;> first | with_reducible rfl | (rw [if_neg (by first | omega | (simp only [ByteArray.size_append] at *; omega))])
          simp only [Act.put, List.setIfInBounds_toArray, List.set_cons_zero, List.set_cons_succ]
          refine wpAnyH_ready (rs := [4]) (by kernel_rfl) (by simp) ?_
          refine AllReadyH.cons (o := { dst := some 24, op := Go.Op.call { callee := Go.Callee.value (Go.Operand.func 31), args := #[Go.Operand.tmp 20, Go.Operand.tmp 21, Go.Operand.tmp 23], argTypes := #[26, 68, 30] }, type := 35, pos := _, after := #[{ on := 0, ground := Go.Ground.data }, { on := 1, ground := Go.Ground.data }, { on := 3, ground := Go.Ground.data }], guard := none }) rfl (fun K hK => ?_) AllReadyH.nil
          go_simp
          refine c31.mono ?_
          rintro e v1 ⟨rfl, hb1⟩
          have HG1 : Hid (Below (wr.alloc (.cells #[.string y.name, .int .u8 (y.ty : Int), .int .i64 y.st, .int .i64 y.df, .int .u8 (y.body.op : Int), .int .i64 y.body.n, .string y.body.name, .slice sa y.body.args.length sc] 52)).heap.size (wr.alloc (.cells #[.string y.name, .int .u8 (y.ty : Int), .int .i64 y.st, .int .i64 y.df, .int .u8 (y.body.op : Int), .int .i64 y.body.n, .string y.body.name, .slice sa y.body.args.length sc] 52)) v1) := hid ((Below.refl _ _).drew.trans (hb1.mono (by simp)))
          have X1 := hid (FA.out.keep HG1.out)
          obtain ⟨t0, t1, t2, t3⟩ := row4 X1.out.row
          have u0 := cell_kept q0 HG1.out
          have u1 := cell_kept q1 HG1.out
          have u2 := cell_kept q2 HG1.out
          have u3 := cell_kept q3 HG1.out
          have u4 := cell_kept q4 HG1.out
          have u5 := cell_kept q5 HG1.out
          have u6 := cell_kept q6 HG1.out
          have u7 := cell_kept q7 HG1.out
          clear hb1
          go_wp2_with fail
          refine hK.out _ _ ?_ (fun hHeld1 => ?_)
          · exact ⟨t0, t1, t2, t3, u0, u1, u2, u3, u4, u5, u6, u7⟩
          clear hK K
          refine wpAnyH_take (i := 7) (oi := { dst := some 27, op := Go.Op.binOp Go.BinOp.neq 35 (Go.Operand.tmp 24) (Go.Operand.tmp 26) 35, type := 4, pos := _, after := #[{ on := 4, ground := Go.Ground.data }, { on := 6, ground := Go.Ground.data }], guard := none }) (v := ?_) rfl (by kernel_rfl) (by kernel_rfl) (by kernel_rfl) (fun _ _ _ h => h) (Or.inl ⟨by rfl, ?_⟩) (by assumption) ?_
          rotate_left
          · intro w hSw; (try dsimp only at hSw); go_simp <;> first | with_reducible rfl | (rw [if_neg (by first | omega | (simp only [ByteArray.size_append] at *; omega))])
          simp only [Act.put, List.setIfInBounds_toArray, List.set_cons_zero, List.set_cons_succ]
          (try simp only [HTB.out])
          refine wpAnyH_take (i := 8) (oi := { dst := some 28, op := Go.Op.move (Go.Operand.tmp 27), type := 4, pos := _, after := #[{ on := 7, ground := Go.Ground.data }, { on := 4, ground := Go.Ground.chain }], guard := none }) (v := ?_) rfl (by kernel_rfl) (by kernel_rfl) (by kernel_rfl) (fun _ _ _ h => h) (Or.inl ⟨by rfl, ?_⟩) (by assumption) ?_
          rotate_left
          · intro w hSw; (try dsimp only at hSw); go_simp <;> first | with_reducible rfl | (rw [if_neg (by first | omega | (simp only [ByteArray.size_append] at *; omega))])
          simp only [Act.put, List.setIfInBounds_toArray, List.set_cons_zero, List.set_cons_succ]
          refine wpAnyH_take (i := 9) (oi := { dst := some 29, op := Go.Op.fieldAddr 52 (Go.Operand.tmp 6) 3, type := 0, pos := _, after := #[{ on := 8, ground := Go.Ground.guard }], guard := some (8, false) }) (v := ?_) rfl (by kernel_rfl) (by kernel_rfl) (by kernel_rfl) (fun _ _ _ h => h) (Or.inl ⟨by rfl, ?_⟩) (by assumption) ?_
          rotate_left
          · intro w hSw; (try dsimp only at hSw); go_simp <;> first | with_reducible rfl | (rw [if_neg (by first | omega | (simp only [ByteArray.size_append] at *; omega))])
          simp only [Act.put, List.setIfInBounds_toArray, List.set_cons_zero, List.set_cons_succ]
          refine wpAnyH_take (i := 10) (oi := { dst := some 30, op := Go.Op.load 2 (Go.Operand.tmp 29), type := 2, pos := _, after := #[{ on := 9, ground := Go.Ground.data }, { on := 8, ground := Go.Ground.guard }], guard := some (8, false) }) (v := ?_) rfl (by kernel_rfl) (by kernel_rfl) (by kernel_rfl) (fun _ _ _ h => h) (Or.inl ⟨by rfl, ?_⟩) (by assumption) ?_
          rotate_left
          · intro w hSw; (try dsimp only at hSw); go_simp <;> first | with_reducible rfl | (rw [if_neg (by first | omega | (simp only [ByteArray.size_append] at *; omega))])
          simp only [Act.put, List.setIfInBounds_toArray, List.set_cons_zero, List.set_cons_succ]
          refine wpAnyH_take (i := 11) (oi := { dst := some 31, op := Go.Op.fieldAddr 52 (Go.Operand.tmp 6) 1, type := 0, pos := _, after := #[{ on := 8, ground := Go.Ground.guard }], guard := some (8, false) }) (v := ?_) rfl (by kernel_rfl) (by kernel_rfl) (by kernel_rfl) (fun _ _ _ h => h) (Or.inl ⟨by rfl, ?_⟩) (by assumption) ?_
          rotate_left
          · intro w hSw; (try dsimp only at hSw); go_simp <;> first | with_reducible rfl | (rw [if_neg (by first | omega | (simp only [ByteArray.size_append] at *; omega))])
          simp only [Act.put, List.setIfInBounds_toArray, List.set_cons_zero, List.set_cons_succ]
          refine wpAnyH_take (i := 12) (oi := { dst := some 32, op := Go.Op.load 35 (Go.Operand.tmp 31), type := 35, pos := _, after := #[{ on := 11, ground := Go.Ground.data }, { on := 8, ground := Go.Ground.guard }], guard := some (8, false) }) (v := ?_) rfl (by kernel_rfl) (by kernel_rfl) (by kernel_rfl) (fun _ _ _ h => h) (Or.inl ⟨by rfl, ?_⟩) (by assumption) ?_
          rotate_left
          · intro w hSw; (try dsimp only at hSw); go_simp <;> first | with_reducible rfl | (rw [if_neg (by first | omega | (simp only [ByteArray.size_append] at *; omega))])
          simp only [Act.put, List.setIfInBounds_toArray, List.set_cons_zero, List.set_cons_succ]
          refine wpAnyH_ready (rs := [13]) (by kernel_rfl) (by simp) ?_
          refine AllReadyH.cons (o := { dst := some 33, op := Go.Op.call { callee := Go.Callee.value (Go.Operand.func 41), args := #[Go.Operand.tmp 30, Go.Operand.tmp 32], argTypes := #[2, 35] }, type := 4, pos := _, after := #[{ on := 10, ground := Go.Ground.data }, { on := 12, ground := Go.Ground.data }, { on := 8, ground := Go.Ground.chain }, { on := 8, ground := Go.Ground.guard }], guard := some (8, false) }) rfl (fun K hK => ?_) AllReadyH.nil
          go_simp
          refine (fits_t y.df y.ty _).mono ?_
          rintro e v2 ⟨rfl, hb2⟩
          have X2' := hid (X1.out.keep hb2)
          obtain ⟨m0, m1, m2, m3⟩ := row4 X2'.out.row
          have n0 := cell_kept u0 hb2
          have n1 := cell_kept u1 hb2
          have n2 := cell_kept u2 hb2
          have n3 := cell_kept u3 hb2
          have n4 := cell_kept u4 hb2
          have n5 := cell_kept u5 hb2
          have n6 := cell_kept u6 hb2
          have n7 := cell_kept u7 hb2
          have HG2 := hid hb2
          clear hb2
          go_wp2_with fail
          refine hK.out _ _ ?_ (fun hHeld2 => ?_)
          · exact ⟨m0, m1, m2, m3, n0, n1, n2, n3, n4, n5, n6, n7⟩
          clear hK K
          refine wpAnyH_take (i := 14) (oi := { dst := some 34, op := Go.Op.unOp Go.UnOp.not 4 (Go.Operand.tmp 33), type := 4, pos := _, after := #[{ on := 13, ground := Go.Ground.data }, { on := 8, ground := Go.Ground.guard }], guard := some (8, false) }) (v := ?_) rfl (by kernel_rfl) (by kernel_rfl) (by kernel_rfl) (fun _ _ _ h => h) (Or.inl ⟨by rfl, ?_⟩) (by assumption) ?_
          rotate_left
          · intro w hSw; (try dsimp only at hSw); go_simp <;> first | with_reducible rfl | (rw [if_neg (by first | omega | (simp only [ByteArray.size_append] at *; omega))])
          simp only [Act.put, List.setIfInBounds_toArray, List.set_cons_zero, List.set_cons_succ]
          refine wpAnyH_take (i := 15) (oi := { dst := some 35, op := Go.Op.pick (Go.Operand.tmp 28) (Go.Operand.const (Go.Value.bool true)) (Go.Operand.tmp 34), type := 4, pos := _, after := #[{ on := 8, ground := Go.Ground.data }, { on := 14, ground := Go.Ground.data }], guard := none }) (v := ?_) rfl (by kernel_rfl) (by kernel_rfl) (by kernel_rfl) (fun _ _ _ h => h) (Or.inl ⟨by rfl, ?_⟩) (by assumption) ?_
          rotate_left
          · intro w hSw; (try dsimp only at hSw); go_simp <;> first | with_reducible rfl | (rw [if_neg (by first | omega | (simp only [ByteArray.size_append] at *; omega))])
          simp only [Act.put, List.setIfInBounds_toArray, List.set_cons_zero, List.set_cons_succ]
          refine wpAnyH_done (by kernel_rfl) ?_ _
          clear s0 s1 s2 s3 t0 t1 t2 t3 m0 m1 m2 m3 q0 q1 q2 q3 q4 q5 q6 q7 u0 u1 u2 u3 u4 u5 u6 u7 n0 n1 n2 n3 n4 n5 n6 n7 y0 y1 y2 y3 y4 y5 y6 y7
          cases hf : fitT y.df y.ty with
          | true =>
            have HE2 : Hid (∀ q ∈ p.flows.take (r + 1), flT p q = true) := hid (fun q hq => by
              rw [HTK.out] at hq
              rcases List.mem_append.1 hq with h | h
              · exact HE.out q h
              · rw [List.mem_singleton.1 h]; unfold flT; rw [hf, ht]; simp)
            have HB3 := hid (hB.out.trans ((bstep (bstep BA.out HG1.out) HG2.out).mono hB.out.size))
            clear hf ht
            go_wp2_with (fail)
            go_roundw
            case rel => exact ⟨r + 1, by omega, by go_num, HE2, HB3⟩
            case measure => simp [intOf]; omega
          | false =>
            have HV : Hid (ckV p = 7) := hid (by rw [HOV.out, if_neg]; intro h; have := List.all_eq_true.1 h y HMG.out; unfold flT at this; rw [hf] at this; simp at this)
            clear hf ht
            go_wp2_with (fail)
            go_ret
            exact ⟨by rw [HV.out]; rfl, X2'.out.below⟩
        · have HTB : Hid (((tyE p y.body : Int) != (y.ty : Int)) = true) := hid (by rw [bne_iff_ne]; omega)
          have HV : Hid (ckV p = 7) := hid (by rw [HOV.out, if_neg]; intro h; have := List.all_eq_true.1 h y HMG.out; unfold flT at this; simp [ht] at this)
          generalize tyE p y.body = ty at *
          go_wp2_with (fail)
          refine wp_region_held_drew (S := fun W => W.cell? ⟨w.heap.size, 0, none⟩ = some (.int .i64 p.st) ∧ W.cell? ⟨w.heap.size, 1, none⟩ = some (A) ∧ W.cell? ⟨w.heap.size, 2, none⟩ = some ((.slice (some ⟨gb, go, none⟩) p.flows.length cap)) ∧ W.cell? ⟨w.heap.size, 3, none⟩ = some (C) ∧ W.cell? ⟨wr.heap.size, 0, none⟩ = some (.string y.name) ∧ W.cell? ⟨wr.heap.size, 1, none⟩ = some (.int .u8 (y.ty : Int)) ∧ W.cell? ⟨wr.heap.size, 2, none⟩ = some (.int .i64 y.st) ∧ W.cell? ⟨wr.heap.size, 3, none⟩ = some (.int .i64 y.df) ∧ W.cell? ⟨wr.heap.size, 4, none⟩ = some (.int .u8 (y.body.op : Int)) ∧ W.cell? ⟨wr.heap.size, 5, none⟩ = some (.int .i64 y.body.n) ∧ W.cell? ⟨wr.heap.size, 6, none⟩ = some (.string y.body.name) ∧ W.cell? ⟨wr.heap.size, 7, none⟩ = some (.slice sa y.body.args.length sc)) (by kernel_rfl) ?_ (fun hHeld => ?_)
          · exact ⟨s0, s1, s2, s3, q0, q1, q2, q3, q4, q5, q6, q7⟩
          refine wpAnyH_take (i := 0) (oi := { dst := some 20, op := Go.Op.load 26 (Go.Operand.tmp 1), type := 26, pos := _, after := #[], guard := none }) (v := ?_) rfl (by kernel_rfl) (by kernel_rfl) (by kernel_rfl) (fun _ _ _ h => h) (Or.inl ⟨by rfl, ?_⟩) (by assumption) ?_
          rotate_left
          · intro w hSw; (try dsimp only at hSw); go_simp <;> first | with_reducible rfl | (rw [if_neg (by first | omega | (simp only [ByteArray.size_append] at *; omega))])
          simp only [Act.put, List.setIfInBounds_toArray, List.set_cons_zero, List.set_cons_succ]
          refine wpAnyH_take (i := 1) (oi := { dst := some 21, op := Go.Op.move (Go.Operand.tmp 4), type := 68, pos := _, after := #[], guard := none }) (v := ?_) rfl (by kernel_rfl) (by kernel_rfl) (by kernel_rfl) (fun _ _ _ h => h) (Or.inl ⟨by rfl, ?_⟩) (by assumption) ?_
          rotate_left
          · intro w hSw; (try dsimp only at hSw); go_simp <;> first | with_reducible rfl | (rw [if_neg (by first | omega | (simp only [ByteArray.size_append] at *; omega))])
          simp only [Act.put, List.setIfInBounds_toArray, List.set_cons_zero, List.set_cons_succ]
          refine wpAnyH_take (i := 2) (oi := { dst := some 22, op := Go.Op.fieldAddr 52 (Go.Operand.tmp 6) 4, type := 0, pos := _, after := #[], guard := none }) (v := ?_) rfl (by kernel_rfl) (by kernel_rfl) (by kernel_rfl) (fun _ _ _ h => h) (Or.inl ⟨by rfl, ?_⟩) (by assumption) ?_
          rotate_left
          · intro w hSw; (try dsimp only at hSw); go_simp <;> first | with_reducible rfl | (rw [if_neg (by first | omega | (simp only [ByteArray.size_append] at *; omega))])
          simp only [Act.put, List.setIfInBounds_toArray, List.set_cons_zero, List.set_cons_succ]
          refine wpAnyH_take (i := 3) (oi := { dst := some 23, op := Go.Op.load 30 (Go.Operand.tmp 22), type := 30, pos := _, after := #[{ on := 2, ground := Go.Ground.data }], guard := none }) (v := ?_) rfl (by kernel_rfl) (by kernel_rfl) (by kernel_rfl) (fun _ _ _ h => h) (Or.inl ⟨by rfl, ?_⟩) (by assumption) ?_
          rotate_left
          · intro w hSw; (try dsimp only at hSw); go_simp <;> first | with_reducible rfl | (rw [if_neg (by first | omega | (simp only [ByteArray.size_append] at *; omega))])
          simp only [Act.put, List.setIfInBounds_toArray, List.set_cons_zero, List.set_cons_succ]
          refine wpAnyH_take (i := 5) (oi := { dst := some 25, op := Go.Op.fieldAddr 52 (Go.Operand.tmp 6) 1, type := 0, pos := _, after := #[], guard := none }) (v := ?_) rfl (by kernel_rfl) (by kernel_rfl) (by kernel_rfl) (fun _ _ _ h => h) (Or.inl ⟨by rfl, ?_⟩) (by assumption) ?_
          rotate_left
          · intro w hSw; (try dsimp only at hSw); go_simp <;> first | with_reducible rfl | (rw [if_neg (by first | omega | (simp only [ByteArray.size_append] at *; omega))])
          simp only [Act.put, List.setIfInBounds_toArray, List.set_cons_zero, List.set_cons_succ]
          refine wpAnyH_take (i := 6) (oi := { dst := some 26, op := Go.Op.load 35 (Go.Operand.tmp 25), type := 35, pos := _, after := #[{ on := 5, ground := Go.Ground.data }], guard := none }) (v := ?_) rfl (by kernel_rfl) (by kernel_rfl) (by kernel_rfl) (fun _ _ _ h => h) (Or.inl ⟨by rfl, ?_⟩) (by assumption) ?_
          rotate_left
          · intro w hSw; (try dsimp only at hSw); go_simp <;> first | with_reducible rfl | (rw [if_neg (by first | omega | (simp only [ByteArray.size_append] at *; omega))])
          simp only [Act.put, List.setIfInBounds_toArray, List.set_cons_zero, List.set_cons_succ]
          refine wpAnyH_ready (rs := [4]) (by kernel_rfl) (by simp) ?_
          refine AllReadyH.cons (o := { dst := some 24, op := Go.Op.call { callee := Go.Callee.value (Go.Operand.func 31), args := #[Go.Operand.tmp 20, Go.Operand.tmp 21, Go.Operand.tmp 23], argTypes := #[26, 68, 30] }, type := 35, pos := _, after := #[{ on := 0, ground := Go.Ground.data }, { on := 1, ground := Go.Ground.data }, { on := 3, ground := Go.Ground.data }], guard := none }) rfl (fun K hK => ?_) AllReadyH.nil
          go_simp
          refine c31.mono ?_
          rintro e v1 ⟨rfl, hb1⟩
          have HG1 : Hid (Below (wr.alloc (.cells #[.string y.name, .int .u8 (y.ty : Int), .int .i64 y.st, .int .i64 y.df, .int .u8 (y.body.op : Int), .int .i64 y.body.n, .string y.body.name, .slice sa y.body.args.length sc] 52)).heap.size (wr.alloc (.cells #[.string y.name, .int .u8 (y.ty : Int), .int .i64 y.st, .int .i64 y.df, .int .u8 (y.body.op : Int), .int .i64 y.body.n, .string y.body.name, .slice sa y.body.args.length sc] 52)) v1) := hid ((Below.refl _ _).drew.trans (hb1.mono (by simp)))
          have X1 := hid (FA.out.keep HG1.out)
          obtain ⟨t0, t1, t2, t3⟩ := row4 X1.out.row
          have u0 := cell_kept q0 HG1.out
          have u1 := cell_kept q1 HG1.out
          have u2 := cell_kept q2 HG1.out
          have u3 := cell_kept q3 HG1.out
          have u4 := cell_kept q4 HG1.out
          have u5 := cell_kept q5 HG1.out
          have u6 := cell_kept q6 HG1.out
          have u7 := cell_kept q7 HG1.out
          clear hb1
          go_wp2_with fail
          refine hK.out _ _ ?_ (fun hHeld1 => ?_)
          · exact ⟨t0, t1, t2, t3, u0, u1, u2, u3, u4, u5, u6, u7⟩
          clear hK K
          refine wpAnyH_take (i := 7) (oi := { dst := some 27, op := Go.Op.binOp Go.BinOp.neq 35 (Go.Operand.tmp 24) (Go.Operand.tmp 26) 35, type := 4, pos := _, after := #[{ on := 4, ground := Go.Ground.data }, { on := 6, ground := Go.Ground.data }], guard := none }) (v := ?_) rfl (by kernel_rfl) (by kernel_rfl) (by kernel_rfl) (fun _ _ _ h => h) (Or.inl ⟨by rfl, ?_⟩) (by assumption) ?_
          rotate_left
          · intro w hSw; (try dsimp only at hSw); go_simp <;> first | with_reducible rfl | (rw [if_neg (by first | omega | (simp only [ByteArray.size_append] at *; omega))])
          simp only [Act.put, List.setIfInBounds_toArray, List.set_cons_zero, List.set_cons_succ]
          (try simp only [HTB.out])
          refine wpAnyH_take (i := 8) (oi := { dst := some 28, op := Go.Op.move (Go.Operand.tmp 27), type := 4, pos := _, after := #[{ on := 7, ground := Go.Ground.data }, { on := 4, ground := Go.Ground.chain }], guard := none }) (v := ?_) rfl (by kernel_rfl) (by kernel_rfl) (by kernel_rfl) (fun _ _ _ h => h) (Or.inl ⟨by rfl, ?_⟩) (by assumption) ?_
          rotate_left
          · intro w hSw; (try dsimp only at hSw); go_simp <;> first | with_reducible rfl | (rw [if_neg (by first | omega | (simp only [ByteArray.size_append] at *; omega))])
          simp only [Act.put, List.setIfInBounds_toArray, List.set_cons_zero, List.set_cons_succ]
          refine wpAnyH_take (i := 9) (oi := { dst := some 29, op := Go.Op.fieldAddr 52 (Go.Operand.tmp 6) 3, type := 0, pos := _, after := #[{ on := 8, ground := Go.Ground.guard }], guard := some (8, false) }) (v := undef) rfl (by kernel_rfl) (by kernel_rfl) (by kernel_rfl) (fun _ _ _ h => h) (Or.inr ⟨by rfl, rfl⟩) (by assumption) ?_
          simp only [Act.put, List.setIfInBounds_toArray, List.set_cons_zero, List.set_cons_succ]
          refine wpAnyH_take (i := 10) (oi := { dst := some 30, op := Go.Op.load 2 (Go.Operand.tmp 29), type := 2, pos := _, after := #[{ on := 9, ground := Go.Ground.data }, { on := 8, ground := Go.Ground.guard }], guard := some (8, false) }) (v := undef) rfl (by kernel_rfl) (by kernel_rfl) (by kernel_rfl) (fun _ _ _ h => h) (Or.inr ⟨by rfl, rfl⟩) (by assumption) ?_
          simp only [Act.put, List.setIfInBounds_toArray, List.set_cons_zero, List.set_cons_succ]
          refine wpAnyH_take (i := 11) (oi := { dst := some 31, op := Go.Op.fieldAddr 52 (Go.Operand.tmp 6) 1, type := 0, pos := _, after := #[{ on := 8, ground := Go.Ground.guard }], guard := some (8, false) }) (v := undef) rfl (by kernel_rfl) (by kernel_rfl) (by kernel_rfl) (fun _ _ _ h => h) (Or.inr ⟨by rfl, rfl⟩) (by assumption) ?_
          simp only [Act.put, List.setIfInBounds_toArray, List.set_cons_zero, List.set_cons_succ]
          refine wpAnyH_take (i := 12) (oi := { dst := some 32, op := Go.Op.load 35 (Go.Operand.tmp 31), type := 35, pos := _, after := #[{ on := 11, ground := Go.Ground.data }, { on := 8, ground := Go.Ground.guard }], guard := some (8, false) }) (v := undef) rfl (by kernel_rfl) (by kernel_rfl) (by kernel_rfl) (fun _ _ _ h => h) (Or.inr ⟨by rfl, rfl⟩) (by assumption) ?_
          simp only [Act.put, List.setIfInBounds_toArray, List.set_cons_zero, List.set_cons_succ]
          refine wpAnyH_take (i := 13) (oi := { dst := some 33, op := Go.Op.call { callee := Go.Callee.value (Go.Operand.func 41), args := #[Go.Operand.tmp 30, Go.Operand.tmp 32], argTypes := #[2, 35] }, type := 4, pos := _, after := #[{ on := 10, ground := Go.Ground.data }, { on := 12, ground := Go.Ground.data }, { on := 8, ground := Go.Ground.chain }, { on := 8, ground := Go.Ground.guard }], guard := some (8, false) }) (v := undef) rfl (by kernel_rfl) (by kernel_rfl) (by kernel_rfl) (fun _ _ _ h => h) (Or.inr ⟨by rfl, rfl⟩) (by assumption) ?_
          simp only [Act.put, List.setIfInBounds_toArray, List.set_cons_zero, List.set_cons_succ]
          refine wpAnyH_take (i := 14) (oi := { dst := some 34, op := Go.Op.unOp Go.UnOp.not 4 (Go.Operand.tmp 33), type := 4, pos := _, after := #[{ on := 13, ground := Go.Ground.data }, { on := 8, ground := Go.Ground.guard }], guard := some (8, false) }) (v := undef) rfl (by kernel_rfl) (by kernel_rfl) (by kernel_rfl) (fun _ _ _ h => h) (Or.inr ⟨by rfl, rfl⟩) (by assumption) ?_
          simp only [Act.put, List.setIfInBounds_toArray, List.set_cons_zero, List.set_cons_succ]
          refine wpAnyH_take (i := 15) (oi := { dst := some 35, op := Go.Op.pick (Go.Operand.tmp 28) (Go.Operand.const (Go.Value.bool true)) (Go.Operand.tmp 34), type := 4, pos := _, after := #[{ on := 8, ground := Go.Ground.data }, { on := 14, ground := Go.Ground.data }], guard := none }) (v := ?_) rfl (by kernel_rfl) (by kernel_rfl) (by kernel_rfl) (fun _ _ _ h => h) (Or.inl ⟨by rfl, ?_⟩) (by assumption) ?_
          rotate_left
          · intro w hSw; (try dsimp only at hSw); go_simp <;> first | with_reducible rfl | (rw [if_neg (by first | omega | (simp only [ByteArray.size_append] at *; omega))])
          simp only [Act.put, List.setIfInBounds_toArray, List.set_cons_zero, List.set_cons_succ]
          refine wpAnyH_done (by kernel_rfl) ?_ _
          go_wp2_with (fail)
          go_ret
          exact ⟨by rw [HV.out]; rfl, X1.out.below⟩
      · have hrl' : ¬ (r : Int) < (p.flows.length : Int) := by omega
        obtain rfl : r = p.flows.length := by omega
        have HV : Hid (ckV p = 0) := hid (by rw [HOV.out, if_pos]; exact List.all_eq_true.2 (fun q hq => HE.out q (by rw [List.take_length]; exact hq)))
        go_wp2_with (fail)
        go_ret
        exact ⟨by rw [HV.out]; rfl, FX.out.below⟩
  · have HV : Hid (ckV p = nmErr p) := hid (by unfold ckV; rw [if_neg hn])
    generalize nmErr p = ne at *
    go_wp2_with (fail)
    go_ret
    exact ⟨by rw [HV.out]; rfl, X1.out.below⟩
end Go.Proofs.YtakjkhfglihggaaDoor.Lex
namespace Go.Proofs.YtakjkhfglihggaaDoor.Lex
open Go.ChangeShapes Go.WideShapes Go.ChangeAt Go.RowKit Go.Joins
theorem row4e {W : World} {k : Nat} {x : Ex} {D : Value} (h : W.heap[k]? = some (.cells #[.int .u8 (x.op : Int), .int .i64 x.n, .string x.name, D] 30 (0, 0))) : W.cell? ⟨k, 0, none⟩ = some (.int .u8 (x.op : Int)) ∧ W.cell? ⟨k, 1, none⟩ = some (.int .i64 x.n) ∧ W.cell? ⟨k, 2, none⟩ = some (.string x.name) ∧ W.cell? ⟨k, 3, none⟩ = some D :=
  ⟨(cell_of_row _ _ _ _ 30 (0, 0) h).trans rfl, (cell_of_row _ _ _ _ 30 (0, 0) h).trans rfl, (cell_of_row _ _ _ _ 30 (0, 0) h).trans rfl, (cell_of_row _ _ _ _ 30 (0, 0) h).trans rfl⟩
/-- The chapter's program. -/
def smQ : Pg := ⟨1, [⟨⟨#[97]⟩, 1, 1⟩, ⟨⟨#[98]⟩, 2, 1⟩], [], []⟩
abbrev N0 : Value := .slice none 0 0
theorem pg_small {W : World} {b : Nat} (h : W.heap[b]? = some (.cells #[.string ⟨#[97]⟩, .int .u8 1, .int .i64 1, .string ⟨#[98]⟩, .int .u8 2, .int .i64 1] 59 (0, 0))) : PgAt W smQ (.slice (some ⟨b, 0, none⟩) 2 2) N0 N0 where
  ins := by
    refine ⟨some ⟨b, 0, none⟩, 2, rfl, by decide, by decide, ?_, .inr ⟨b, 0, rfl, fun i hi => ?_⟩⟩
    · intro x hx
      simp only [smQ, List.mem_cons, List.not_mem_nil, or_false] at hx
      rcases hx with rfl | rfl <;> refine ⟨by show (1 : Nat) ≤ _; omega, by decide, by decide, by decide⟩
    · have hi2 : i < 2 := hi
      rcases (by omega : i = 0 ∨ i = 1) with rfl | rfl <;> refine ⟨?_, ?_, ?_⟩ <;> (rw [cell_of_row _ _ _ _ 59 (0, 0) h]; rfl)
  flows := ⟨none, 0, fun _ => N0, rfl, by decide, by decide, fun x hx => (List.not_mem_nil hx).elim, .inl rfl, fun i hi => absurd hi (Nat.not_lt_zero i)⟩
  outs := ⟨none, 0, rfl, by decide, by decide, fun x hx => (List.not_mem_nil hx).elim, .inl rfl⟩
  st := by decide
set_option maxRecDepth 100000 in
set_option maxHeartbeats 1000000 in
theorem small_at (w : World) : Calls Tryd.prog 46 #[] w fun e w' => ∃ b, e = .returned (pgV smQ (.slice (some ⟨b, 0, none⟩) 2 2) N0 N0) ∧ PgAt w' smQ (.slice (some ⟨b, 0, none⟩) 2 2) N0 N0 ∧ Below w.heap.size w w' := by
  go_enter Tryd.func46, Tryd.ntmps46
  go_wp2
  have hb := fun o0 o1 => ((Below.refl w.heap.size w).alloc (by simp; try omega) o0).alloc (by simp; try omega) o1
  refine bodyPost_ret (v := pgV smQ (.slice (some ⟨w.heap.size + 1, 0, none⟩) 2 2) N0 N0) ?_ rfl ⟨_, rfl, pg_small (push_new _ _ _ (by simp)), hb _ _⟩
  simp [results, Tryd.f46, go_sem]
  rfl
abbrev c30 : Array Value := #[.int .u8 0, .int .i64 0, .string ⟨#[]⟩, .slice none 0 0]
theorem info30 : (Tryd.prog.info? 30).map (·.size) = some 4 := by kernel_rfl
theorem name_at (s : ByteArray) (w : World) : Calls Tryd.prog 43 #[.string s] w fun e w' => e = .returned (exV ⟨3, 0, s, []⟩ (.slice none 0 0)) ∧ Below w.heap.size w w' := by
  have B0 := hid ((Below.refl w.heap.size w).alloc (Nat.le_refl _) (.cells c30 30))
  have X0 := heap_alloc_new w (.cells c30 30)
  go_enter Tryd.func43, Tryd.ntmps43
  go_wp2_with (refine wpList_store_row rfl 30 _ _ rfl w.heap.size #[.int .u8 3, .int .i64 0, .string s, .slice none 0 0] rfl rfl 30 _ X0 info30 rfl (by simp [Value.oneCell']) ?_)
  exact bodyPost_ret (results_cell_row rfl _ _ w.heap.size 30 #[.int .u8 3, .int .i64 0, .string s, .slice none 0 0] (0, 0) _ rfl (setRow_heap _ _ _ _ _ _ X0) Tryd.underlying30 rfl info30) rfl ⟨rfl, below_row B0.out B0.out.size (Nat.le_refl _) _⟩
/-- of, as a value. -/
theorem of_pl (z : Int) (a : Option Addr) (n c : Nat) (w : World) : Calls Tryd.prog 45 #[.int .u8 z, .slice a n c] w fun e w' => e = .returned (.agg #[.int .u8 z, .int .i64 0, .string ⟨#[]⟩, .slice a n c]) ∧ Below w.heap.size w w' := by
  have B0 := hid ((Below.refl w.heap.size w).alloc (Nat.le_refl _) (.cells c30 30))
  have X0 := heap_alloc_new w (.cells c30 30)
  go_enter Tryd.func45, Tryd.ntmps45
  go_wp2_with (refine wpList_store_row rfl 30 _ _ rfl w.heap.size #[.int .u8 z, .int .i64 0, .string ⟨#[]⟩, .slice a n c] rfl rfl 30 _ X0 info30 rfl (by simp [Value.oneCell']) ?_)
  exact bodyPost_ret (results_cell_row rfl _ _ w.heap.size 30 #[.int .u8 z, .int .i64 0, .string ⟨#[]⟩, .slice a n c] (0, 0) _ rfl (setRow_heap _ _ _ _ _ _ X0) Tryd.underlying30 rfl info30) rfl ⟨rfl, below_row B0.out B0.out.size (Nat.le_refl _) _⟩
/-- Something that is worked out, in its variable. -/
structure XQ (w : World) (x : Ex) (ao : Option Addr) (cap : Nat) (W : World) : Prop where
  row : W.heap[w.heap.size]? = some (.cells #[.int .u8 (x.op : Int), .int .i64 x.n, .string x.name, .slice ao x.args.length cap] 30 (0, 0))
  S : St W x (.slice ao x.args.length cap)
  R : TabR W
  J : TabJ W
  below : Below w.heap.size w W
theorem XQ.keep {w W W' : World} {x : Ex} {ao : Option Addr} {cap : Nat} (h : XQ w x ao cap W) (hb : Below W.heap.size W W') : XQ w x ao cap W' :=
  ⟨keep_row h.row hb, h.S.keep hb, h.R.below hb, h.J.below hb, h.below.trans (hb.mono h.below.size)⟩
theorem XQ.cells {w W : World} {x : Ex} {ao : Option Addr} {cap : Nat} (h : XQ w x ao cap W) : W.cell? ⟨w.heap.size, 0, none⟩ = some (.int .u8 (x.op : Int)) ∧ W.cell? ⟨w.heap.size, 1, none⟩ = some (.int .i64 x.n) ∧ W.cell? ⟨w.heap.size, 2, none⟩ = some (.string x.name) ∧ W.cell? ⟨w.heap.size, 3, none⟩ = some (.slice ao x.args.length cap) := row4e h.row
set_option maxRecDepth 100000 in
set_option maxHeartbeats 2000000 in
theorem is_at (x : Ex) (t : Nat) (er : Int) (ho : ofV smQ x = (t, er)) (w : World) (s : Value) (hS : St w x s) (hR : TabR w) (hJ : TabJ w) : Calls Tryd.prog 44 #[exV x s, .int .u8 (t : Int), .int .i64 er] w fun e w' => e = .returned (.bool true) ∧ Below w.heap.size w w' := by
  obtain ⟨ao, cap, _, rfl, _⟩ := hS.out
  have b0 := (Below.refl w.heap.size w).alloc (Nat.le_refl _) (.cells #[.int .u8 (x.op : Int), .int .i64 x.n, .string x.name, .slice ao x.args.length cap] 30)
  have X0 : Hid (XQ w x ao cap (w.alloc (.cells #[.int .u8 (x.op : Int), .int .i64 x.n, .string x.name, .slice ao x.args.length cap] 30))) := hid ⟨heap_alloc_new w _, hS.keep b0, hR.below b0, hJ.below b0, b0⟩
  have HO := hid ho
  clear b0 hS hR hJ ho
  obtain ⟨p0, p1, p2, p3⟩ := X0.out.cells
  go_enter Tryd.func44, Tryd.ntmps44
  go_wp2_with (fail)
  generalize w.alloc (.cells #[.int .u8 (x.op : Int), .int .i64 x.n, .string x.name, .slice ao x.args.length cap] 30) = W0 at *
  refine wp_region_held_drew (S := fun W => W.cell? ⟨w.heap.size, 0, none⟩ = some (.int .u8 (x.op : Int)) ∧ W.cell? ⟨w.heap.size, 1, none⟩ = some (.int .i64 x.n) ∧ W.cell? ⟨w.heap.size, 2, none⟩ = some (.string x.name) ∧ W.cell? ⟨w.heap.size, 3, none⟩ = some (.slice ao x.args.length cap)) (by kernel_rfl) ?_ (fun hHeld => ?_)
  · exact ⟨p0, p1, p2, p3⟩
  refine wpAnyH_take (i := 1) (oi := { dst := some 11, op := Go.Op.load 30 (Go.Operand.tmp 3), type := 30, pos := _, after := #[], guard := none }) (v := ?_) rfl (by kernel_rfl) (by kernel_rfl) (by kernel_rfl) (fun _ _ _ h => h) (Or.inl ⟨by rfl, ?_⟩) (by assumption) ?_
  rotate_left
  · intro w hSw; (try dsimp only at hSw); go_simp <;> first | with_reducible rfl | (rw [if_neg (by first | omega | (simp only [ByteArray.size_append] at *; omega))])
  simp only [Act.put, List.setIfInBounds_toArray, List.set_cons_zero, List.set_cons_succ]
  refine wpAnyH_ready (rs := [0]) (by kernel_rfl) (by simp) ?_
  refine AllReadyH.cons (o := { dst := some 10, op := Go.Op.call { callee := Go.Callee.value (Go.Operand.func 46), args := #[], argTypes := #[] }, type := 26, pos := _, after := #[], guard := none }) rfl (fun K hK => ?_) AllReadyH.nil
  go_simp
  refine (small_at _).mono ?_
  rintro e w1 ⟨sb, rfl, hP1, hb1'⟩
  have hb1 : Below W0.heap.size W0 w1 := (Below.refl _ _).drew.trans (hb1'.mono (by simp))
  have X1 := hid (X0.out.keep hb1)
  have P1 := hid hP1
  obtain ⟨q0, q1, q2, q3⟩ := X1.out.cells
  clear hP1 hb1 hb1'
  go_wp2_with fail
  refine hK.out _ _ ?_ (fun hHeld1 => ?_)
  · exact ⟨q0, q1, q2, q3⟩
  clear hK K
  refine wpAnyH_ready (rs := [2]) (by kernel_rfl) (by simp) ?_
  refine AllReadyH.cons (o := { dst := some 12, op := Go.Op.call { callee := Go.Callee.value (Go.Operand.func 13), args := #[Go.Operand.tmp 10, Go.Operand.tmp 11], argTypes := #[26, 30] }, type := 37, pos := _, after := #[{ on := 0, ground := Go.Ground.data }, { on := 1, ground := Go.Ground.data }, { on := 0, ground := Go.Ground.chain }], guard := none }) rfl (fun K hK => ?_) AllReadyH.nil
  go_simp
  refine (of_ smQ x _ _ _ _ _ P1.out X1.out.S X1.out.R X1.out.J).mono ?_
  rintro e w2 ⟨rfl, hb2⟩
  have X2 := hid (X1.out.keep hb2)
  obtain ⟨t0, t1, t2, t3⟩ := X2.out.cells
  rw [HO.out]
  clear hb2
  go_wp2_with fail
  refine hK.out _ _ ?_ (fun hHeld2 => ?_)
  · exact ⟨t0, t1, t2, t3⟩
  clear hK K
  refine wpAnyH_take (i := 3) (oi := { dst := some 9, op := Go.Op.move (Go.Operand.tmp 12), type := 37, pos := _, after := #[{ on := 2, ground := Go.Ground.data }], guard := none }) (v := ?_) rfl (by kernel_rfl) (by kernel_rfl) (by kernel_rfl) (fun _ _ _ h => h) (Or.inl ⟨by rfl, ?_⟩) (by assumption) ?_
  rotate_left
  · intro w hSw; (try dsimp only at hSw); go_simp <;> first | with_reducible rfl | (rw [if_neg (by first | omega | (simp only [ByteArray.size_append] at *; omega))])
  simp only [Act.put, List.setIfInBounds_toArray, List.set_cons_zero, List.set_cons_succ]
  refine wpAnyH_take (i := 4) (oi := { dst := some 13, op := Go.Op.extract (Go.Operand.tmp 9) 0, type := 35, pos := _, after := #[{ on := 3, ground := Go.Ground.data }], guard := none }) (v := ?_) rfl (by kernel_rfl) (by kernel_rfl) (by kernel_rfl) (fun _ _ _ h => h) (Or.inl ⟨by rfl, ?_⟩) (by assumption) ?_
  rotate_left
  · intro w hSw; (try dsimp only at hSw); go_simp <;> first | with_reducible rfl | (rw [if_neg (by first | omega | (simp only [ByteArray.size_append] at *; omega))])
  simp only [Act.put, List.setIfInBounds_toArray, List.set_cons_zero, List.set_cons_succ]
  refine wpAnyH_take (i := 5) (oi := { dst := some 14, op := Go.Op.extract (Go.Operand.tmp 9) 1, type := 36, pos := _, after := #[{ on := 3, ground := Go.Ground.data }, { on := 6, ground := Go.Ground.gcOnly Go.Departure.lateStores }], guard := none }) (v := ?_) rfl (by kernel_rfl) (by kernel_rfl) (by kernel_rfl) (fun _ _ _ h => h) (Or.inl ⟨by rfl, ?_⟩) (by assumption) ?_
  rotate_left
  · intro w hSw; (try dsimp only at hSw); go_simp <;> first | with_reducible rfl | (rw [if_neg (by first | omega | (simp only [ByteArray.size_append] at *; omega))])
  simp only [Act.put, List.setIfInBounds_toArray, List.set_cons_zero, List.set_cons_succ]
  refine wpAnyH_take (i := 6) (oi := { dst := some 7, op := Go.Op.assign (Go.Operand.tmp 13), type := 35, pos := _, after := #[{ on := 4, ground := Go.Ground.data }, { on := 2, ground := Go.Ground.chain }, { on := 0, ground := Go.Ground.phase }, { on := 1, ground := Go.Ground.phase }, { on := 2, ground := Go.Ground.phase }, { on := 3, ground := Go.Ground.phase }, { on := 4, ground := Go.Ground.phase }, { on := 5, ground := Go.Ground.textOnly Go.Departure.lateStores }], guard := none }) (v := ?_) rfl (by kernel_rfl) (by kernel_rfl) (by kernel_rfl) (fun _ _ _ h => h) (Or.inl ⟨by rfl, ?_⟩) (by assumption) ?_
  rotate_left
  · intro w hSw; (try dsimp only at hSw); go_simp <;> first | with_reducible rfl | (rw [if_neg (by first | omega | (simp only [ByteArray.size_append] at *; omega))])
  simp only [Act.put, List.setIfInBounds_toArray, List.set_cons_zero, List.set_cons_succ]
  refine wpAnyH_take (i := 7) (oi := { dst := some 8, op := Go.Op.assign (Go.Operand.tmp 14), type := 36, pos := _, after := #[{ on := 5, ground := Go.Ground.data }, { on := 6, ground := Go.Ground.chain }, { on := 0, ground := Go.Ground.phase }, { on := 1, ground := Go.Ground.phase }, { on := 2, ground := Go.Ground.phase }, { on := 3, ground := Go.Ground.phase }, { on := 4, ground := Go.Ground.phase }, { on := 5, ground := Go.Ground.phase }, { on := 6, ground := Go.Ground.phase }], guard := none }) (v := ?_) rfl (by kernel_rfl) (by kernel_rfl) (by kernel_rfl) (fun _ _ _ h => h) (Or.inl ⟨by rfl, ?_⟩) (by assumption) ?_
  rotate_left
  · intro w hSw; (try dsimp only at hSw); go_simp <;> first | with_reducible rfl | (rw [if_neg (by first | omega | (simp only [ByteArray.size_append] at *; omega))])
  simp only [Act.put, List.setIfInBounds_toArray, List.set_cons_zero, List.set_cons_succ]
  refine wpAnyH_done (by kernel_rfl) ?_ _
  have e1 : ((t : Int) == (t : Int)) = true := by simp
  have e2 : (er == er) = true := by simp
  have hB := X2.out.below
  go_wp2_with (fail)
  go_ret
  exact ⟨rfl, hB⟩
end Go.Proofs.YtakjkhfglihggaaDoor.Lex
namespace Go.Proofs.YtakjkhfglihggaaDoor.Lex
open Go.ChangeShapes Go.WideShapes Go.ChangeAt Go.RowKit Go.Joins
/-- The types of names are what counts. -/
theorem tyE_same {p q : Pg} : ∀ (d : Nat) (x : Ex), okD d x → (∀ s ∈ nmz d x, tyN q s = tyN p s) → tyE q x = tyE p x
  | 0, _, h, _ => h.elim
  | d + 1, x, h, hs => by
    rw [tyE_eq q, tyE_eq p]
    by_cases h3 : x.op = 3
    · rw [if_neg (by omega), if_neg (by omega), if_pos h3, if_neg (by omega), if_neg (by omega), if_pos h3]
      refine hs _ ?_
      rw [nmz, if_pos h3]
      simp
    · have e : x.args.map (tyE q) = x.args.map (tyE p) := List.map_congr_left fun y hy => tyE_same d y (h.2 y hy) fun s hss => hs s (by
        rw [nmz]
        exact List.mem_append.2 (.inr (List.mem_flatMap.2 ⟨y, hy, hss⟩)))
      rw [e, if_neg h3, if_neg h3]
theorem okD_up : ∀ (d : Nat) (x : Ex), okD d x → okD (d + 1) x
  | 0, _, h => h.elim
  | d + 1, _, h => ⟨h.1, fun y hy => okD_up d y (h.2 y hy)⟩
theorem okD_add (d : Nat) (x : Ex) (h : okD d x) : ∀ k, okD (d + k) x
  | 0 => h
  | k + 1 => okD_up (d + k) x (okD_add d x h k)
theorem nmz_add (d : Nat) (x : Ex) (h : okD d x) : ∀ k, nmz (d + k) x = nmz d x
  | 0 => rfl
  | k + 1 => (nmz_deep (d + k) x (okD_add d x h k)).trans (nmz_add d x h k)
def otherB : ByteArray := ⟨#[111, 116, 104, 101, 114]⟩
/-- The names that are there, with their types. -/
def namedL (p : Pg) (G : List Rf) : List Hd := G.filterMap fun r => (findT (thingsL p) r.1).map fun z => ⟨r.1, z.2.ty, 0⟩
def insQ (t : Nat) (p : Pg) (G : List Rf) : List Hd := ⟨otherB, t, 0⟩ :: namedL p G
def qP (l : List Hd) : Pg := ⟨0, l, [], []⟩
theorem named_snoc (p : Pg) (G : List Rf) (r : Rf) : namedL p (G ++ [r]) = namedL p G ++ ((findT (thingsL p) r.1).map fun z => (⟨r.1, z.2.ty, 0⟩ : Hd)).toList := by
  unfold namedL
  rw [List.filterMap_append]
  cases h : findT (thingsL p) r.1 <;> simp [h]
theorem ba_eq8 {a b : ByteArray} (h : a.toList = b.toList) : a = b := by
  rw [ByteArray.toList_eq, ByteArray.toList_eq] at h
  obtain ⟨⟨a⟩⟩ := a
  obtain ⟨⟨b⟩⟩ := b
  simp only at h
  rw [h]
theorem things_q (l : List Hd) : thingsL (qP l) = l.map fun x => (-1, x) := by
  unfold thingsL insL flowsL qP
  simp
theorem find_q {t : Nat} {p : Pg} {G : List Rf} {s : ByteArray} (hs : s.toList ≠ otherB.toList) (hm : ∃ r ∈ G, r.1 = s) : (findT (thingsL (qP (insQ t p G))) s).map (fun z => z.2.ty) = (findT (thingsL p) s).map (fun z => z.2.ty) := by
  rw [things_q]
  cases hp : findT (thingsL p) s with
  | none =>
    have : findT ((insQ t p G).map fun x => ((-1 : Int), x)) s = none := by
      unfold findT
      rw [List.find?_eq_none]
      intro x hx hb
      obtain ⟨h, hh, rfl⟩ := List.mem_map.1 hx
      have hb' : h.name.toList = s.toList := by simpa using hb
      rcases List.mem_cons.1 hh with rfl | hh
      · exact hs hb'.symm
      · obtain ⟨r, hr, he⟩ := List.mem_filterMap.1 hh
        cases hf : findT (thingsL p) r.1 with
        | none => rw [hf] at he; cases he
        | some z =>
          rw [hf] at he
          have e : (⟨r.1, z.2.ty, 0⟩ : Hd) = h := by simpa using he
          have e2 : r.1 = s := ba_eq8 (by rw [← hb', ← e])
          rw [e2, hp] at hf
          cases hf
    rw [this]
  | some z =>
    obtain ⟨r, hr, rfl⟩ := hm
    have hin : (⟨r.1, z.2.ty, 0⟩ : Hd) ∈ insQ t p G := List.mem_cons_of_mem _ (List.mem_filterMap.2 ⟨r, hr, by rw [hp]; rfl⟩)
    cases hq : findT ((insQ t p G).map fun x => ((-1 : Int), x)) r.1 with
    | none =>
      exfalso
      unfold findT at hq
      rw [List.find?_eq_none] at hq
      exact hq (-1, ⟨r.1, z.2.ty, 0⟩) (List.mem_map.2 ⟨_, hin, rfl⟩) (by simp)
    | some x =>
      have hx := List.mem_of_find?_eq_some hq
      have hb := List.find?_some hq
      obtain ⟨h, hh, rfl⟩ := List.mem_map.1 hx
      have hb' : h.name.toList = r.1.toList := by simpa using hb
      rcases List.mem_cons.1 hh with rfl | hh
      · exact (hs hb'.symm).elim
      · obtain ⟨r', hr', he⟩ := List.mem_filterMap.1 hh
        cases hf : findT (thingsL p) r'.1 with
        | none => rw [hf] at he; cases he
        | some z' =>
          rw [hf] at he
          have e : (⟨r'.1, z'.2.ty, 0⟩ : Hd) = h := by simpa using he
          have e2 : r'.1 = r.1 := ba_eq8 (by rw [← hb', ← e])
          rw [e2, hp] at hf
          obtain rfl := Option.some.inj hf
          rw [← e]
          rfl
theorem tyN_ty_eq {p q : Pg} {s : ByteArray} (h : (findT (thingsL q) s).map (fun z => z.2.ty) = (findT (thingsL p) s).map (fun z => z.2.ty)) : tyN q s = tyN p s ∧ (findT (thingsL q) s).isSome = (findT (thingsL p) s).isSome := by
  unfold tyN
  cases h1 : findT (thingsL q) s with
  | none =>
    cases h2 : findT (thingsL p) s with
    | none => exact ⟨rfl, rfl⟩
    | some z => rw [h1, h2] at h; cases h
  | some y =>
    cases h2 : findT (thingsL p) s with
    | none => rw [h1, h2] at h; cases h
    | some z =>
      rw [h1, h2] at h
      have h' : y.2.ty = z.2.ty := by simpa using h
      exact ⟨by simp only [h'], rfl⟩
/-- It hangs on the types of the names alone. -/
theorem of_named (t : Nat) (p : Pg) (x : Ex) (hn : ∀ r ∈ gat 20000 x 0 [], r.1.toList ≠ otherB.toList) : ofV (qP (insQ t p (gat 20000 x 0 []))) x = ofV p x := by
  unfold ofV
  by_cases h1 : chk x = false
  · rw [if_pos h1, if_pos h1]
  · rw [if_neg h1, if_neg h1]
    have h1' : chk x = true := by simpa using h1
    have hd := chk_ok h1'
    have key : ∀ s ∈ nmz 32 x, tyN (qP (insQ t p (gat 20000 x 0 []))) s = tyN p s ∧ (findT (thingsL (qP (insQ t p (gat 20000 x 0 [])))) s).isSome = (findT (thingsL p) s).isSome := fun s hs => by
      have hs2 : s ∈ nmz 20000 x := by
        have := nmz_add 32 x hd 19968
        rw [show 32 + 19968 = 20000 from rfl] at this
        rw [this]; exact hs
      rw [← pl_nmz 20000 x 0] at hs2
      obtain ⟨r, hr, rfl⟩ := List.mem_map.1 hs2
      have hg := (gat_mem 20000 x 0 r).2 hr
      exact tyN_ty_eq (find_q (hn r hg) ⟨r, hg, rfl⟩)
    have ha : asksAll (qP (insQ t p (gat 20000 x 0 []))) x = asksAll p x := by
      rw [Bool.eq_iff_iff, asks_nmz, asks_nmz]
      exact ⟨fun h s hs => by rw [← (key s hs).2]; exact h s hs, fun h s hs => by rw [(key s hs).2]; exact h s hs⟩
    have hty : tyE (qP (insQ t p (gat 20000 x 0 []))) x = tyE p x := tyE_same 32 x hd (fun s hs => (key s hs).1)
    rw [ha, hty]
/-- The cells of heads. -/
def hd3 (x : Hd) : List Value := [.string x.name, .int .u8 (x.ty : Int), .int .i64 x.st]
def hds3 (l : List Hd) : List Value := l.flatMap hd3
theorem hds3_app (a b : List Hd) : hds3 (a ++ b) = hds3 a ++ hds3 b := by simp [hds3]
theorem hds3_at (l : List Hd) : ∀ (i : Nat) (h : i < l.length), (hds3 l)[i * 3]? = some (.string l[i].name) ∧ (hds3 l)[i * 3 + 1]? = some (.int .u8 (l[i].ty : Int)) ∧ (hds3 l)[i * 3 + 2]? = some (.int .i64 l[i].st) := by
  induction l with
  | nil => intro i h; simp at h
  | cons a l ih =>
    intro i h
    have e : hds3 (a :: l) = hd3 a ++ hds3 l := by simp [hds3]
    cases i with
    | zero => rw [e]; exact ⟨rfl, rfl, rfl⟩
    | succ i =>
      obtain ⟨h1, h2, h3⟩ := ih i (by simpa using h)
      rw [e]
      have k : ∀ j, (hd3 a ++ hds3 l)[(i + 1) * 3 + j]? = (hds3 l)[i * 3 + j]? := fun j => by
        rw [List.getElem?_append_right (by simp [hd3]; omega)]
        congr 1
        simp [hd3]
        omega
      exact ⟨by have := k 0; simp only [Nat.add_zero] at this; rw [this]; exact h1, by rw [k 1]; exact h2, by rw [k 2]; exact h3⟩
/-- The program in its variable, and the row of its heads. -/
structure QN (wb : World) (qb : Nat) (l : List Hd) (v : Value) (W : World) : Prop where
  below : Below wb.heap.size wb W
  row : W.heap[qb]? = some (.cells #[.int .i64 0, v, .slice none 0 0, .slice none 0 0] 26 (0, 0))
  own : W.ownsRow wb.heap.size 59 3 v l.length (hds3 l)
  ne : v.ownBlock ≠ some qb
  lo : wb.heap.size ≤ qb
theorem own_block9 {w W : World} {base e c n : Nat} {v : Value} {xs : List Value} (h : w.ownsRow base e c v n xs) (hg : ∀ g, v.ownBlock = some g → W.heap[g]? = w.heap[g]?) : W.ownsRow base e c v n xs := by
  refine ⟨h.1, ?_⟩
  rcases h.2 with hn | ⟨g, cap, cur, e, hg0, hh, rest⟩
  · exact .inl hn
  · subst e
    exact .inr ⟨g, cap, cur, rfl, hg0, (hg g rfl).trans hh, rest⟩
theorem QN.keep {wb W W' : World} {qb : Nat} {l : List Hd} {v : Value} (h : QN wb qb l v W) (hb : Below W.heap.size W W') : QN wb qb l v W' :=
  ⟨h.below.trans (hb.mono h.below.size), keep_row h.row hb, own_block9 h.own fun g hg => hb.block g (h.own.lt g hg).2, h.ne, h.lo⟩
/-- One head more, laid in the variable. -/
theorem QN.grow {wb W W1 W' : World} {qb gg cap : Nat} {l : List Hd} {v : Value} {x : Hd} (h : QN wb qb l v W) (h1 : Below W.heap.size W W1) (hr : W'.ownsRow wb.heap.size 59 3 (.slice (some ⟨gg, 0, none⟩) (l.length + 1) cap) (l.length + 1) (hds3 l ++ hd3 x)) (hg : W1.grownBy W' v.ownBlock) (hat : v.ownBlock = some gg ∨ gg = W1.heap.size) : QN wb qb (l ++ [x]) (.slice (some ⟨gg, 0, none⟩) (l.length + 1) cap) (W'.setCell ⟨qb, 1, none⟩ (.slice (some ⟨gg, 0, none⟩) (l.length + 1) cap)) := by
  have hq := (Array.getElem?_eq_some_iff.1 h.row).1
  have hs1 := h1.size
  have hrow : W'.heap[qb]? = some (.cells #[.int .i64 0, v, .slice none 0 0, .slice none 0 0] 26 (0, 0)) := (hg.block qb (by omega) (fun e => h.ne e.symm)).trans (keep_row h.row h1)
  have hne : gg ≠ qb := by
    rcases hat with e | e
    · intro e'; subst e'; exact h.ne e
    · omega
  have b1 : Below wb.heap.size wb W1 := h.below.trans (h1.mono h.below.size)
  have b2 : Below wb.heap.size wb W' := b1.grown hg b1.size (fun j hj => (h.own.lt j hj).1)
  refine ⟨b2.setCell (p := ⟨qb, 1, none⟩) h.lo _, ?_, ?_, ?_, h.lo⟩
  · have := heap_setCell_same W' qb 1 _ 26 (.slice (some ⟨gg, 0, none⟩) (l.length + 1) cap) hrow
    exact this
  · rw [show (l ++ [x]).length = l.length + 1 by simp, hds3_app, show hds3 [x] = hd3 x by simp [hds3]]
    exact own_block9 hr fun g hg' => by
      have e : some gg = some g := hg'
      injection e with e
      exact Below.heap_setCell _ _ _ _ (by show g ≠ qb; omega)
  · intro e
    have e' : some gg = some qb := e
    injection e' with e'
    exact hne e'
theorem QN.pg {wb W : World} {qb : Nat} {l : List Hd} {v : Value} (h : QN wb qb l v W) (hok : ∀ x ∈ l, x.ok) (hl : l.length ≤ 4398046510976) : PgAt W (qP l) v (.slice none 0 0) (.slice none 0 0) where
  st := ⟨by show (-9223372036854775808 : Int) ≤ 0; omega, by show (0 : Int) ≤ _; omega⟩
  ins := by
    rcases h.own.2 with ⟨e, e0⟩ | ⟨g, cap, cur, e, _, _, hc, _⟩
    · exact ⟨none, 0, by rw [e]; show _ = Value.slice none l.length 0; rw [e0], hl, by show l.length ≤ 0; omega, hok, .inl e0⟩
    · refine ⟨some ⟨g, 0, none⟩, cap, e, hl, hc, hok, .inr ⟨g, 0, rfl, fun i hi => ?_⟩⟩
      have hi' : i < l.length := hi
      subst e
      obtain ⟨q0, q1, q2⟩ := hds3_at l i hi'
      rw [Nat.zero_add]
      exact ⟨(h.own.cellAt _ (by omega)).trans q0, (h.own.cellAt _ (by omega)).trans q1, (h.own.cellAt _ (by omega)).trans q2⟩
  flows := ⟨none, 0, fun _ => .slice none 0 0, rfl, Nat.zero_le _, Nat.zero_le _, fun x hx => (List.not_mem_nil hx).elim, .inl rfl, fun i hi => absurd hi (Nat.not_lt_zero i)⟩
  outs := ⟨none, 0, rfl, Nat.zero_le _, Nat.zero_le _, fun x hx => (List.not_mem_nil hx).elim, .inl rfl⟩
end Go.Proofs.YtakjkhfglihggaaDoor.Lex
namespace Go.Proofs.YtakjkhfglihggaaDoor.Lex
open Go.ChangeShapes Go.WideShapes Go.ChangeAt Go.RowKit Go.Joins
/-- Its parts, itself with them, and the bytes of their names. -/
def esz : Ex → Nat
  | ⟨_, _, nm, args⟩ => 1 + nm.size + args.length + (args.map esz).sum
theorem esz_eq (x : Ex) : esz x = 1 + x.name.size + x.args.length + (x.args.map esz).sum := by
  obtain ⟨op, n, nm, args⟩ := x
  rw [esz]
theorem sum_ge {l : List Nat} {a : Nat} (h : a ∈ l) : a ≤ l.sum := by
  induction l with
  | nil => cases h
  | cons b l ih =>
    rw [List.sum_cons]
    rcases List.mem_cons.1 h with rfl | h
    · omega
    · have := ih h; omega
theorem esz_part {x y : Ex} (h : y ∈ x.args) : esz y + 1 ≤ esz x := by
  rw [esz_eq x]
  have := sum_ge (List.mem_map.2 ⟨y, h, rfl⟩ : esz y ∈ x.args.map esz)
  omega
theorem esz_nm : ∀ (n : Nat) (x : Ex), esz x ≤ n → n ≤ 65536 → NmOk n x
  | 0, x, h, _ => by rw [esz_eq] at h; omega
  | n + 1, x, h, hn => by
    refine ⟨by rw [esz_eq] at h; omega, fun y hy => esz_nm n y (by have := esz_part hy; omega) (by omega)⟩
theorem fold_cnt (f g : Ex → Nat) : ∀ (l : List Ex) (n m : Nat), n ≤ m → (∀ y ∈ l, f y ≤ g y) → l.foldl (fun n y => n + f y) n ≤ m + (l.map g).sum
  | [], n, m, h, _ => by simpa using h
  | a :: l, n, m, h, hf => by
    rw [List.foldl_cons, List.map_cons, List.sum_cons]
    have h1 := hf a (List.mem_cons_self ..)
    have := fold_cnt f g l (n + f a) (m + g a) (by omega) (fun y hy => hf y (List.mem_cons_of_mem _ hy))
    omega
theorem esz_cnt : ∀ (k : Nat) (x : Ex), cnt k x ≤ esz x
  | 0, x => by rw [esz_eq]; show 1 ≤ _; omega
  | k + 1, x => by
    rw [esz_eq]
    show x.args.foldl (fun n y => n + cnt k y) 1 ≤ _
    have := fold_cnt (cnt k) esz x.args 1 (1 + x.name.size) (by omega) (fun y _ => esz_cnt k y)
    omega
/-- ExprSize tells it. -/
def SizeE (x : Ex) : Prop := ∀ (w : World) (s : Value), St w x s → esz x ≤ 1048576 → Calls Tryd.prog 10 #[exV x s] w fun e w' => e = .returned (.int .i64 (esz x : Int)) ∧ Below w.heap.size w w'
theorem take_sum {l : List Nat} (k : Nat) : (l.take k).sum ≤ l.sum := by
  have := congrArg List.sum (List.take_append_drop k l)
  rw [List.sum_append] at this
  omega
set_option maxRecDepth 100000 in
set_option maxHeartbeats 1000000 in
theorem sizes_e (x : Ex) (ih : ∀ i (h : i < x.args.length), SizeE x.args[i]) (w : World) (s : Value) (hS : St w x s) (hx : x.args.length + (x.args.map esz).sum ≤ 1048576) :
    Calls Tryd.prog 26 #[s] w fun e w' => e = .returned (.int .i64 ((x.args.length + (x.args.map esz).sum : Nat) : Int)) ∧ Below w.heap.size w w' := by
  obtain ⟨ao, cap, sl, rfl, _, _, _, hlen, _, hc, hs⟩ := hS.out
  have HS := hid hs
  have HC := hid hc
  have HI := hid ih
  have HX := hid hx
  clear hs hc ih hS hx
  go_enter Tryd.func26, Tryd.ntmps26
  go_wp2
  go_loopw [3, 4] (fun n i wr => ∃ (z k : Nat), k ≤ x.args.length ∧ n = .int .i64 (z : Int) ∧ i = .int .i64 (k : Int) ∧ Hid (z = x.args.length + ((x.args.map esz).take k).sum) ∧ Hid (Below w.heap.size w wr)) (fun _ i _ => x.args.length - (intOf i).toNat)
  case atStart => exact ⟨x.args.length, 0, Nat.zero_le _, rfl, rfl, hid (by simp), Below.refl _ _⟩
  case round =>
    obtain ⟨z, k, hk, rfl, rfl, hZ, hB⟩ := hrel
    have hz1 : z ≤ 1048576 := by have h1 := hZ.out; have h2 := take_sum (l := x.args.map esz) k; have h3 := HX.out; omega
    have hz : (z : Int) ≤ 1048576 := by omega
    by_cases hlt : k < x.args.length
    · have hlt' : (k : Int) < (x.args.length : Int) := by omega
      have hk0 : (0 : Int) ≤ (k : Int) := by omega
      obtain ⟨b, o, rfl, hc⟩ := HC.out.resolve_left (by omega)
      obtain ⟨h0, h1, h2, h3⟩ := hc k hlt
      have y0 := cell_kept h0 hB.out
      have y1 := cell_kept h1 hB.out
      have y2 := cell_kept h2 hB.out
      have y3 := cell_kept h3 hB.out
      have hsz : esz x.args[k] ≤ (x.args.map esz).sum := sum_ge (List.mem_map.2 ⟨_, List.getElem_mem hlt, rfl⟩)
      have c := HI.out k hlt wr (sl k) ((HS.out k hlt).keep hB.out) (by have := HX.out; omega)
      have HT : Hid (((x.args.map esz).take (k + 1)).sum = ((x.args.map esz).take k).sum + esz x.args[k]) := hid (by
        rw [List.take_succ_eq_append_getElem (by simpa using hlt), List.sum_append]
        simp)
      have hm := HX.out
      have hwr : IntKind.i64.wrap ((z : Int) + (esz x.args[k] : Int)) = (z : Int) + (esz x.args[k] : Int) := by rw [IntKind.wrap_i64]; omega
      clear h0 h1 h2 h3 hc
      generalize esz x.args[k] = ez at *
      generalize x.args[k] = y at *
      clear hm hsz
      go_wp2_with (go_at_call 10; refine c.mono ?_; rintro e w2 ⟨rfl, hb2⟩)
      go_roundw
      case rel => exact ⟨z + ez, k + 1, by omega, by simp, by go_num, hid (by rw [HT.out, hZ.out]; omega), bstep hB.out hb2⟩
      case measure => simp [intOf]; omega
    · have hlt' : ¬ (k : Int) < (x.args.length : Int) := by omega
      obtain rfl : k = x.args.length := by omega
      have HZ : Hid (z = x.args.length + (x.args.map esz).sum) := hid (by rw [hZ.out, List.take_of_length_le (by simp)])
      go_wp2
      go_ret
      have hzz := HZ.out
      exact ⟨by subst hzz; first | rfl | simp, hB.out⟩
set_option maxRecDepth 100000 in
theorem size_e (x : Ex) (ih : ∀ i (h : i < x.args.length), SizeE x.args[i]) : SizeE x := by
  intro w s hS hx
  have hx2 : x.args.length + (x.args.map esz).sum ≤ 1048576 := by rw [esz_eq] at hx; omega
  have hs := fun W h => sizes_e x ih W s h hx2
  obtain ⟨ao, cap, sl, rfl, hop, hn, hnm, hlen, hcap, hc, _⟩ := hS.out
  have HS := hid hS
  have HE := hid (esz_eq x)
  clear ih hc hS
  have hle : (1 : Int) + (x.name.size : Int) ≤ 1048576 := by have := HE.out; omega
  have HE2 : Hid (esz x = 1 + x.name.size + (x.args.length + (x.args.map esz).sum)) := hid (by have := HE.out; omega)
  have hwr : IntKind.i64.wrap (1 + (x.name.size : Int) + ((x.args.length + (x.args.map esz).sum : Nat) : Int)) = 1 + (x.name.size : Int) + ((x.args.length + (x.args.map esz).sum : Nat) : Int) := by rw [IntKind.wrap_i64]; have := HE.out; omega
  clear hx hx2 HE
  generalize x.args.length + (x.args.map esz).sum = su at *
  go_enter Tryd.func10, Tryd.ntmps10
  go_wp2_with (go_at_call 26; refine (hs _ (HS.out.keep ((Below.refl _ _).alloc (Nat.le_refl _) _))).mono ?_; rintro e w2 ⟨rfl, hb2⟩)
  go_ret
  exact ⟨by rw [HE2.out]; simp, bstep ((Below.refl _ _).alloc (Nat.le_refl _) _) hb2⟩
/-- ExprSize tells it. -/
theorem size_all : ∀ (m : Nat) (x : Ex), SizeOf.sizeOf x ≤ m → SizeE x := by
  intro m
  induction m with
  | zero => intro x h; obtain ⟨o, n, s, l⟩ := x; simp at h
  | succ m ih => intro x h; exact size_e x fun i hi => ih _ (by have := x.part_lt i hi; omega)
theorem bulk_str {H : Type} {y : DataW H × List MemPlace} {nm : ByteArray} {p : List MemPlace} (h : y = (.lit (.string nm.data.toList), p)) : nm.size + 1 ≤ Rows.uptoBulk y.1 := by
  subst h
  simp only [Rows.uptoBulk]
  rw [Lib.size_eq]
  omega
theorem sum_bulk {H : Type} : ∀ (elems : List (DataW H × List MemPlace)) (len : Nat), elems.length = len → ∀ f : Nat → Nat, (∀ i, i < len → f i + 1 ≤ Rows.uptoBulk ((elems[i]?.map (·.1)).getD .nil)) → ((List.range len).map f).sum + len ≤ Rows.uptoBulkAll (elems.map (·.1))
  | [], len, h, f, hf => by
    obtain rfl : len = 0 := by simpa using h.symm
    simp [Rows.uptoBulkAll]
  | e :: l, len, h, f, hf => by
    obtain ⟨m, rfl⟩ : ∃ m, len = m + 1 := ⟨l.length, by simpa using h.symm⟩
    have h0 := hf 0 (by omega)
    have ih := sum_bulk l m (by simpa using h) (fun i => f (i + 1)) (fun i hi => by simpa using hf (i + 1) (by omega))
    rw [List.range_succ_eq_map, List.map_cons, List.sum_cons, List.map_map, List.map_cons]
    simp only [Rows.uptoBulkAll]
    have e2 : ((List.range m).map (f ∘ Nat.succ)).sum = ((List.range m).map fun i => f (i + 1)).sum := rfl
    rw [e2]
    simp at h0
    omega
theorem viewTB {H : Type} {enc : TypeId × Value → H} {W : World} : ∀ (m fuel : Nat) (cs : List Value) (d : DataW H) (p : List MemPlace), fuel ≤ m → DataW.trod enc Tryd.prog W 0 (fun _ => true) true fuel 30 cs = some (d, p) → (∀ v ∈ d.weights Tryd.prog 30, v ≤ reachBytes) →
    ∃ (x : Ex) (s : Value), cs = [.int .u8 (x.op : Int), .int .i64 x.n, .string x.name, s] ∧ St W x s ∧ esz x + 1 ≤ Rows.uptoBulk d := by
  intro m
  induction m with
  | zero => intro fuel cs d p hm h; obtain rfl : fuel = 0 := by omega
            simp [DataW.trod] at h
  | succ m ih =>
    intro fuel cs d p hm h hw
    obtain ⟨xs, n, hn, hx, hl, hlen, hfs⟩ := DataW.trod_struct Tryd.underlying30 h
    rw [cells25] at hl
    obtain ⟨c0, c1, c2, c3, rfl⟩ := list4 hl
    match xs, hlen with
    | [y0, y1, y2, y3], _ =>
      have h0 : DataW.trod enc Tryd.prog W 0 (fun _ => true) true n 27 [c0] = some y0 := by simpa [cells22] using hfs 0 _ rfl
      have h1 : DataW.trod enc Tryd.prog W 0 (fun _ => true) true n 2 [c1] = some y1 := by simpa [cells2] using hfs 1 _ rfl
      have h2 : DataW.trod enc Tryd.prog W 0 (fun _ => true) true n 9 [c2] = some y2 := by simpa [cells9] using hfs 2 _ rfl
      have h3 : DataW.trod enc Tryd.prog W 0 (fun _ => true) true n 28 [c3] = some y3 := by simpa [cells23] using hfs 3 _ rfl
      obtain ⟨op, e0, _, w0⟩ := DataW.trod_int Tryd.underlying27 h0
      obtain ⟨k, e1, _, w1⟩ := DataW.trod_int Tryd.underlying2 h1
      obtain ⟨nm, e2, hy2, _⟩ := DataW.trod_string Tryd.underlying9 h2
      simp only [List.cons.injEq, and_true] at e0 e1 e2
      subst e0 e1 e2
      simp only [Prod.mk.injEq] at hx
      obtain ⟨rfl, _⟩ := hx
      have hw2 : ∀ v ∈ y2.1.weights Tryd.prog 9, v ≤ reachBytes := fun v hv => hw v (by simp [DataW.weights, Tryd.underlying30, DataW.weightsEach]; right; right; left; exact hv)
      have hw3 : ∀ v ∈ y3.1.weights Tryd.prog 28, v ≤ reachBytes := fun v hv => hw v (by simp [DataW.weights, Tryd.underlying30, DataW.weightsEach]; right; right; right; exact hv)
      have hnm : nm.size ≤ 140737488355328 := by
        have := hw2 nm.data.toList.length (by rw [hy2]; simp [DataW.weights])
        rw [← Lib.size_eq] at this
        unfold reachBytes at this
        omega
      have hop : 0 ≤ op ∧ op < 256 := by
        simp [Lit.wf, IntKind.min, IntKind.max, IntKind.signed, IntKind.bits] at w0
        omega
      have hk : -9223372036854775808 ≤ k ∧ k ≤ 9223372036854775807 := by
        simp [Lit.wf, IntKind.min, IntKind.max, IntKind.signed, IntKind.bits] at w1
        omega
      obtain ⟨u, rfl⟩ : ∃ u : Nat, op = (u : Int) := ⟨op.toNat, by omega⟩
      rcases DataW.trod_slice Tryd.underlying28 h3 with ⟨hc, _⟩ | ⟨a, len, cap, elems, rest, n', hn', hc, hy3, hb, hlc, hcm, hel, helem, hsp, _⟩
      · simp only [List.cons.injEq, and_true] at hc
        subst hc
        refine ⟨.mk u k nm [], .slice none 0 0, rfl, ?_, ?_⟩
        rotate_left
        · rw [esz_eq]
          have := bulk_str hy2
          simp [Rows.uptoBulk, Rows.uptoBulkAll]
          omega
        exact (St.intro (.mk u k nm []) none 0 (fun _ => .slice none 0 0) (by show u < 256; omega) hk hnm (by show 0 ≤ _; omega) (Nat.le_refl _) (.inl rfl) (fun i hi => by cases hi))
      · simp only [List.cons.injEq, and_true] at hc
        subst hc
        rw [cells25] at helem
        have hwl : (len + rest.length) * 56 ≤ reachBytes := by
          have := hw3 ((elems.map (·.1)).length + (rest.map (·.1)).length |> (· * 56)) (by rw [hy3]; simp [DataW.weights, Tryd.underlying28, bytes25])
          simpa [hel] using this
        have hlen2 : len ≤ 2513169434843 := by unfold reachBytes at hwl; omega
        have each : ∀ i, ∃ q : Ex × Value, i < len → (∃ v0 v1 v2 v3, W.cell? ((a.add (i * 4)).add 0) = some v0 ∧ W.cell? ((a.add (i * 4)).add 1) = some v1 ∧ W.cell? ((a.add (i * 4)).add 2) = some v2 ∧ W.cell? ((a.add (i * 4)).add 3) = some v3 ∧ [v0, v1, v2, v3] = [.int .u8 (q.1.op : Int), .int .i64 q.1.n, .string q.1.name, q.2]) ∧ St W q.1 q.2 ∧ esz q.1 + 1 ≤ Rows.uptoBulk ((elems[i]?.map (·.1)).getD .nil) := by
          intro i
          by_cases hi : i < len
          · have he := helem i hi
            rw [List.getElem?_eq_getElem (by omega)] at he
            obtain ⟨l, hl1, hl2⟩ := Option.bind_eq_some_iff.1 he
            obtain ⟨v0, v1, v2, v3, rfl, g0, g1, g2, g3⟩ := cells4 hl1
            obtain ⟨x, s, ex, hs, hz⟩ := ih n' _ _ _ (by omega) (show DataW.trod enc Tryd.prog W 0 (fun _ => true) true n' 30 [v0, v1, v2, v3] = some ((elems[i]'(by omega)).1, (elems[i]'(by omega)).2) from hl2) (fun v hv => hw3 v (by
              rw [hy3]
              simp only [DataW.weights, Tryd.underlying28]
              refine List.mem_cons_of_mem _ (List.mem_append_left _ (all_mem (i := i) (d := (elems[i]'(by omega)).1) ?_ v hv))
              rw [List.getElem?_map, List.getElem?_eq_getElem (by omega)]
              rfl))
            exact ⟨(x, s), fun _ => ⟨⟨v0, v1, v2, v3, g0, g1, g2, g3, ex⟩, hs, by rw [List.getElem?_eq_getElem (by omega)]; exact hz⟩⟩
          · exact ⟨(.mk 0 0 ByteArray.empty [], .slice none 0 0), fun h => absurd h hi⟩
        obtain ⟨f, hf⟩ := Classical.axiomOfChoice each
        have hargs : ((List.range len).map fun i => (f i).1).length = len := by simp
        have hget : ∀ i (hi : i < ((List.range len).map fun i => (f i).1).length), ((List.range len).map fun i => (f i).1)[i] = (f i).1 := fun i hi => by simp
        refine ⟨.mk u k nm ((List.range len).map fun i => (f i).1), .slice (some a) len cap, rfl, ?_, ?_⟩
        rotate_left
        · have hargs2 : (Ex.mk u k nm ((List.range len).map fun i => (f i).1)).args.length = len := by simp
          rw [esz_eq]
          have h1 := bulk_str hy2
          have h2 : (((List.range len).map fun i => (f i).1).map esz).sum + len ≤ Rows.uptoBulkAll (elems.map (·.1)) := by
            rw [List.map_map]
            exact sum_bulk elems len hel (fun i => esz (f i).1) (fun i hi => (hf i hi).2.2)
          rw [hy3]
          simp only [Rows.uptoBulk, Rows.uptoBulkAll, List.map_cons, List.map_nil] at h1 h2 ⊢
          rw [hargs2]
          omega
        have key : St W (.mk u k nm ((List.range len).map fun i => (f i).1)) (.slice (some a) ((List.range len).map fun i => (f i).1).length cap) := by
          refine St.intro (.mk u k nm ((List.range len).map fun i => (f i).1)) (some a) cap (fun i => (f i).2) (by show u < 256; omega) hk hnm (by show ((List.range len).map fun i => (f i).1).length ≤ _; omega) (by show ((List.range len).map fun i => (f i).1).length ≤ _; omega) ?_ (fun i hi => ?_)
          · by_cases h00 : len = 0
            · exact .inl (by show ((List.range len).map fun i => (f i).1).length = 0; omega)
            · right
              obtain ⟨b, o, sp⟩ := a
              have hspt : sp = none := by
                obtain ⟨⟨v0, _, _, _, g0, _⟩, _, _⟩ := hf 0 (by omega)
                simpa [Addr.add] using World.cell?_spot g0
              subst hspt
              refine ⟨b, o, rfl, fun i hi => ?_⟩
              have hi' : i < len := by have : i < ((List.range len).map fun i => (f i).1).length := hi; omega
              obtain ⟨⟨v0, v1, v2, v3, g0, g1, g2, g3, ex⟩, _, _⟩ := hf i hi'
              simp only [List.cons.injEq, and_true] at ex
              obtain ⟨rfl, rfl, rfl, rfl⟩ := ex
              rw [add_off, add_off] at g0 g1 g2 g3
              have e : (Ex.mk u k nm ((List.range len).map fun i => (f i).1)).args[i] = (f i).1 := hget i hi
              rw [e]
              exact ⟨g0, g1, g2, g3⟩
          · have hi' : i < len := by have : i < ((List.range len).map fun i => (f i).1).length := hi; omega
            have e : (Ex.mk u k nm ((List.range len).map fun i => (f i).1)).args[i] = (f i).1 := hget i hi
            rw [e]
            exact (hf i hi').2.1
        rwa [hargs] at key
set_option maxRecDepth 100000 in
/-- An api.Expr that came in, opened once. -/
theorem viewEB {H : Type} {enc : TypeId × Value → H} {W : World} {r : Reach} {b0 : Nat} {v : Value} {d : DataW H} {p : List MemPlace} {ts : List TypeId} {ds : List (DataW H)} {j : Nat}
    (hv : Value.okWide Tryd.prog W r b0 30 v) (h : DataW.Trod enc Tryd.prog W 0 (fun _ => true) true 30 v d p)
    (hsz : (DataW.weightsEach Tryd.prog ts ds).all (· ≤ reachBytes) = true) (ht : ts[j]? = some 30) (hj : ds[j]? = some d) : ∃ (x : Ex) (s : Value), v = exV x s ∧ St W x s ∧ esz x + 1 ≤ Rows.uptoBulk d := by
  obtain ⟨cs, rfl, hz⟩ := okWide_struct Tryd.underlying30 hv
  obtain ⟨c0, c1, c2, c3, rfl⟩ := array4 (by rw [hz]; exact cells25)
  obtain ⟨fuel, hf⟩ := h
  obtain ⟨x, s, e, hs, hbk⟩ := viewTB fuel fuel _ d p (Nat.le_refl _) hf (fun v hv => by
    have := List.all_eq_true.1 hsz _ (DataW.weights_mem_each ht hj v hv)
    simpa using this)
  have e' : [c0, c1, c2, c3] = [.int .u8 (x.op : Int), .int .i64 x.n, .string x.name, s] := by simpa [Value.cells] using e
  simp only [List.cons.injEq, and_true] at e'
  obtain ⟨rfl, rfl, rfl, rfl⟩ := e'
  exact ⟨x, _, rfl, hs, hbk⟩
end Go.Proofs.YtakjkhfglihggaaDoor.Lex
