/-
  What has an instant, and what its parts have: plain mathematics.
  Has each flow a value from the beginning on: the contract of starts.Check.
  What the chapter's program has for names, and the instant of something in it: the contracts of name, of, nought, small, is.
  A number in the place of a part: the contract of changed.
  A number in the place of a part makes no instant greater: plain mathematics.
  A byte that came in, as a number.
-/
import Derived.Test.YtejacmgppnafcaaDoorG6
import Derived.Laws.ResultCell
import Derived.Laws.OwnMore
import Derived.Deep.MidRow
import Derived.Test.YtejacmgppnafcaaDoorG1
namespace Go.Proofs.YtejacmgppnafcaaDoor.Lex
/-- All that it asks for, as often as it does. -/
def pl : Nat → Ex → Nat → List Rf
  | 0, _, _ => []
  | k + 1, x, ago => (if x.op = 3 then [(x.name, ago)] else []) ++ x.args.flatMap fun y => pl k y (nextAgo x ago)
theorem foldl_flat {α β γ : Type} (f : β → γ → β) (g : α → List γ) : ∀ (l : List α) (b : β), l.foldl (fun b a => (g a).foldl f b) b = (l.flatMap g).foldl f b
  | [], _ => rfl
  | a :: l, b => by simp only [List.foldl_cons, List.flatMap_cons, List.foldl_append]; exact foldl_flat f g l _
theorem gat_pl : ∀ (k : Nat) (x : Ex) (ago : Nat) (acc : List Rf), gat k x ago acc = (pl k x ago).foldl addR acc
  | 0, _, _, _ => rfl
  | k + 1, x, ago, acc => by
    have e : (fun (acc : List Rf) (y : Ex) => gat k y (nextAgo x ago) acc) = fun acc y => (pl k y (nextAgo x ago)).foldl addR acc := by
      funext acc y
      exact gat_pl k y (nextAgo x ago) acc
    rw [gat, pl, e, foldl_flat addR (fun y => pl k y (nextAgo x ago)), List.foldl_append]
    congr 1
    unfold ownRefs
    split <;> rfl
theorem addR_mem (acc : List Rf) (r : Rf) (s : Rf) : s ∈ addR acc r ↔ s ∈ acc ∨ s = r := by
  unfold addR
  split
  · rename_i h
    constructor
    · exact .inl
    · rintro (h1 | rfl)
      · exact h1
      · exact rIn_mem.1 h
  · simp
theorem addR_in {acc : List Rf} {r : Rf} (h : r ∈ acc) : addR acc r = acc := by unfold addR; rw [if_pos (rIn_mem.2 h)]
theorem addR_new {acc : List Rf} {r : Rf} (h : r ∉ acc) : addR acc r = acc ++ [r] := by unfold addR; rw [if_neg (fun h' => h (rIn_mem.1 h'))]
theorem fold_mem : ∀ (l acc : List Rf) (s : Rf), s ∈ l.foldl addR acc ↔ s ∈ acc ∨ s ∈ l
  | [], acc, s => by simp
  | r :: l, acc, s => by rw [List.foldl_cons, fold_mem l, addR_mem, List.mem_cons, or_assoc]
theorem gat_mem (k : Nat) (x : Ex) (ago : Nat) (r : Rf) : r ∈ gat k x ago [] ↔ r ∈ pl k x ago := by
  rw [gat_pl, fold_mem]
  simp
/-- The names that it asks for. -/
def nmz : Nat → Ex → List ByteArray
  | 0, _ => []
  | k + 1, x => (if x.op = 3 then [x.name] else []) ++ x.args.flatMap (nmz k)
theorem pl_nmz : ∀ (k : Nat) (x : Ex) (ago : Nat), (pl k x ago).map (·.1) = nmz k x
  | 0, _, _ => rfl
  | k + 1, x, ago => by
    rw [pl, nmz, List.map_append]
    congr 1
    · split <;> rfl
    · rw [List.map_flatMap]
      congr 1
      funext y
      exact pl_nmz k y (nextAgo x ago)
theorem asks_nmz (p : Pg) (x : Ex) : asksAll p x = true ↔ ∀ s ∈ nmz 32 x, (findT (thingsL p) s).isSome = true := by
  unfold asksAll
  rw [List.all_eq_true]
  constructor
  · intro h s hs
    rw [← pl_nmz 32 x 0] at hs
    obtain ⟨r, hr, rfl⟩ := List.mem_map.1 hs
    exact h r ((gat_mem 32 x 0 r).2 hr)
  · intro h r hr
    exact h r.1 (by rw [← pl_nmz 32 x 0]; exact List.mem_map.2 ⟨r, (gat_mem 32 x 0 r).1 hr, rfl⟩)
theorem nmz_deep : ∀ (d : Nat) (x : Ex), okD d x → nmz (d + 1) x = nmz d x
  | 0, _, h => h.elim
  | d + 1, x, h => by
    rw [nmz, nmz]
    congr 1
    have key : ∀ l : List Ex, (∀ y ∈ l, okD d y) → l.flatMap (nmz (d + 1)) = l.flatMap (nmz d) := by
      intro l
      induction l with
      | nil => intro _; rfl
      | cons a l ih => intro hl; rw [List.flatMap_cons, List.flatMap_cons, nmz_deep d a (hl a (List.mem_cons_self ..)), ih fun y hy => hl y (List.mem_cons_of_mem _ hy)]
    exact key x.args h.2
theorem szL_mono {f g : Nat → Ex → Option Nat} (h : ∀ m m' a j, m ≤ m' → f m a = some j → g m' a = some j) (m m' : Nat) (hm : m ≤ m') : ∀ (l : List Ex) (n k : Nat), szL f m n l = some k → szL g m' n l = some k
  | [], n, k, hs => by simpa [szL] using hs
  | a :: l, n, k, hs => by
    simp only [szL] at hs ⊢
    cases e : f (m - n) a with
    | none => rw [e] at hs; cases hs
    | some j =>
      rw [e] at hs
      rw [h (m - n) (m' - n) a j (by omega) e]
      exact szL_mono h m m' hm l _ k hs
theorem sz_mono : ∀ (d d' : Nat), d ≤ d' → ∀ (m m' : Nat) (x : Ex) (k : Nat), m ≤ m' → sz d m x = some k → sz d' m' x = some k
  | 0, _, _, _, _, _, _, _, h => by simp [sz] at h
  | d + 1, 0, hd, _, _, _, _, _, _ => by omega
  | d + 1, d' + 1, hd, m, m', x, k, hm, h => by
    unfold sz at h ⊢
    by_cases hc : m = 0 ∨ fieldsOk x.op x.n x.name x.args.length = false
    · rw [if_pos hc] at h; cases h
    · rw [if_neg hc] at h
      rw [if_neg (fun h' => hc (by rcases h' with h' | h'; · exact .inl (by omega)
                                   · exact .inr h'))]
      exact szL_mono (fun a b y j hab hj => sz_mono d d' (by omega) a b y j hab hj) m m' hm x.args 1 k h
theorem chk_part {x y : Ex} (h : chk x = true) (hy : y ∈ x.args) : chk y = true := by
  unfold chk at h ⊢
  obtain ⟨k, hk⟩ := Option.isSome_iff_exists.1 h
  unfold sz at hk
  by_cases hc : 200 = 0 ∨ fieldsOk x.op x.n x.name x.args.length = false
  · rw [if_pos hc] at hk; cases hk
  · rw [if_neg hc] at hk
    have key : ∀ (l : List Ex) (n k : Nat), szL (sz 31) 200 n l = some k → y ∈ l → (sz 32 200 y).isSome = true := by
      intro l
      induction l with
      | nil => intro n k _ hy; cases hy
      | cons a l ih =>
        intro n k hs hy
        simp only [szL] at hs
        cases e : sz 31 (200 - n) a with
        | none => rw [e] at hs; cases hs
        | some j =>
          rw [e] at hs
          rcases List.mem_cons.1 hy with rfl | hy
          · rw [sz_mono 31 32 (by omega) (200 - n) 200 y j (by omega) e]; rfl
          · exact ih _ _ hs hy
    exact key x.args 1 k hk hy
theorem asks_part {p : Pg} {x y : Ex} (h : chk x = true) (ha : asksAll p x = true) (hy : y ∈ x.args) : asksAll p y = true := by
  rw [asks_nmz] at ha ⊢
  intro s hs
  have ho := chk_ok h
  have h31 : okD 31 y := ho.2 y hy
  rw [nmz_deep 31 y h31] at hs
  refine ha s ?_
  rw [nmz]
  exact List.mem_append.2 (.inr (List.mem_flatMap.2 ⟨y, hy, hs⟩))
theorem of_zero (p : Pg) (x : Ex) : (ofV p x).2 = 0 ↔ chk x = true ∧ asksAll p x = true := by
  unfold ofV
  by_cases h1 : chk x = false
  · rw [if_pos h1]; simp [h1]
  · rw [if_neg h1]
    have h1' : chk x = true := by simpa using h1
    by_cases h2 : asksAll p x = false
    · rw [if_pos h2]; simp [h2]
    · rw [if_neg h2]
      have h2' : asksAll p x = true := by simpa using h2
      simp [h1', h2']
theorem of_ok {p : Pg} {x : Ex} (h1 : chk x = true) (h2 : asksAll p x = true) : ofV p x = (stE x, 0) := by
  unfold ofV
  rw [if_neg (by rw [h1]; simp), if_neg (by rw [h2]; simp)]
theorem of_not {p : Pg} {x : Ex} (h : (ofV p x).2 ≠ 0) : (ofV p x).1 = 0 ∧ (decide ((ofV p x).2 = 1) = !chk x) := by
  unfold ofV at h ⊢
  by_cases h1 : chk x = false
  · rw [if_pos h1]; simp [h1]
  · rw [if_neg h1] at h ⊢
    have h1' : chk x = true := by simpa using h1
    by_cases h2 : asksAll p x = false
    · rw [if_pos h2]; simp [h1']
    · rw [if_neg h2] at h; exact (h rfl).elim
theorem of_part {p : Pg} {x y : Ex} (h : (ofV p x).2 = 0) (hy : y ∈ x.args) : ofV p y = (stE y, 0) := by
  obtain ⟨h1, h2⟩ := (of_zero p x).1 h
  exact of_ok (chk_part h1 hy) (asks_part h1 h2 hy)
end Go.Proofs.YtejacmgppnafcaaDoor.Lex
namespace Go.Proofs.YtejacmgppnafcaaDoor.Lex
open Go.ChangeShapes Go.WideShapes Go.ChangeAt Go.RowKit Go.Joins
/-- Has a flow one? -/
def flS (f : Fl) : Bool := decide (stE f.body = 0)
/-- What starts.Check answers. -/
def ckV (p : Pg) : Int := if nmErr p = 0 then (if p.flows.all flS then 0 else 9) else nmErr p
theorem nmErr_ok {p : Pg} (h : nmErr p = 0) : pgOk p = true := by
  unfold nmErr at h
  by_cases hp : pgOk p = true
  · exact hp
  · rw [if_neg hp] at h; omega
set_option maxRecDepth 100000 in
set_option maxHeartbeats 4000000 in
theorem starts_check (p : Pg) (w : World) (A B C : Value) (hP : PgAt w p A B C) (hR : TabR w) (hJ : TabJ w) : Calls Tryd.prog 17 #[pgV p A B C] w fun e w' => e = .returned (.int .i64 (ckV p)) ∧ Below w.heap.size w w' := by
  have X0 := hid (FV.new hP hR hJ)
  obtain ⟨ao, cap, sl0, rfl, _⟩ := hP.flows
  clear hP hR hJ
  go_enter Tryd.func17, Tryd.ntmps17
  go_wp2_with (fail)
  refine ((callsIn_wide (n := 20)).1 (names_check p _ _ _ _ X0.out.P X0.out.R X0.out.J)).mono ?_
  rintro e w1 ⟨rfl, hb1⟩
  have X1 := hid (X0.out.keep hb1)
  clear hb1 X0
  by_cases hn : nmErr p = 0
  · have HK := hid (pgOk_chk (nmErr_ok hn))
    have HOV : Hid (ckV p = if p.flows.all flS then 0 else 9) := hid (by unfold ckV; rw [if_pos hn])
    rw [hn]
    clear hn
    go_wp2_with (fail)
    refine (rules _).mono ?_
    rintro e w2 ⟨ab, rfl, hasks, hb2⟩
    have X2 := hid (X1.out.keep hb2)
    have AS := hid hasks
    obtain ⟨s0, s1, s2, s3⟩ := row4 X2.out.row
    clear hb2 hasks X1
    go_wp2_with (fail)
    clear s0 s1 s2 s3
    obtain ⟨ao', cap', sl, heq, hlen, _, hok, hc, hs⟩ := X2.out.P.flows
    obtain ⟨rfl, rfl⟩ : ao = ao' ∧ cap = cap' := by simpa using heq
    have HC := hid hc
    have HS := hid hs
    clear hc hs hok heq
    go_loopw [16] (fun i wr => ∃ r : Nat, r ≤ p.flows.length ∧ i = .int .i64 (r : Int) ∧ Hid (∀ z ∈ p.flows.take r, flS z = true) ∧ Hid (Below w2.heap.size w2 wr)) (fun i _ => p.flows.length - (intOf i).toNat)
    case atStart => exact ⟨0, Nat.zero_le _, rfl, hid (by simp), hid (Below.refl _ _)⟩
    case round =>
      obtain ⟨r, hr, rfl, HE, hB⟩ := hrel
      have FX := hid (X2.out.keep hB.out)
      by_cases hrl : r < p.flows.length
      · have hrl' : (r : Int) < (p.flows.length : Int) := by omega
        have hr0 : (0 : Int) ≤ (r : Int) := by omega
        obtain ⟨gb, go, rfl, hcc⟩ := HC.out.resolve_left (by omega)
        obtain ⟨y0, y1, y2, y3, y4, y5, y6, y7⟩ := (hcc r hrl).keep hB.out
        have HTK := hid (List.take_succ_eq_append_getElem hrl)
        have HMG := hid (List.getElem_mem hrl)
        have HST := hid ((HS.out r hrl).keep hB.out)
        clear hcc
        generalize sl r = sv at *
        generalize hy : p.flows[r] = y at *
        clear hy
        obtain ⟨sa, sc, _, rfl, _⟩ := HST.out.out
        have BA := hid ((Below.refl wr.heap.size wr).alloc (Nat.le_refl _) (.cells #[.string y.name, .int .u8 (y.ty : Int), .int .i64 y.st, .int .i64 y.df, .int .u8 (y.body.op : Int), .int .i64 y.body.n, .string y.body.name, .slice sa y.body.args.length sc] 53))
        have FA := hid (FX.out.keep BA.out)
        have c35 := start_of y.body (HK.out y HMG.out) _ _ ab (AS.out.keep (hB.out.trans (BA.out.mono hB.out.size))) (HST.out.keep BA.out)
        go_wp2_with (fail)
        refine c35.mono ?_
        rintro e w3 ⟨rfl, hb3⟩
        have X3 := hid (FA.out.keep hb3)
        have HB3 := hid (hB.out.trans ((bstep BA.out hb3).mono hB.out.size))
        clear y0 y1 y2 y3 y4 y5 y6 y7 c35 hb3
        by_cases ht : stE y.body = 0
        · have HE2 : Hid (∀ q ∈ p.flows.take (r + 1), flS q = true) := hid (fun q hq => by
            rw [HTK.out] at hq
            rcases List.mem_append.1 hq with h | h
            · exact HE.out q h
            · rw [List.mem_singleton.1 h]; unfold flS; rw [ht]; rfl)
          rw [ht]
          clear ht
          go_wp2_with (fail)
          go_roundw
          case rel => exact ⟨r + 1, by omega, by go_num, HE2, HB3⟩
          case measure => simp [intOf]; omega
        · have ht' : (0 : Int) < (stE y.body : Int) := by omega
          have HV : Hid (ckV p = 9) := hid (by rw [HOV.out, if_neg]; intro h; have := List.all_eq_true.1 h y HMG.out; unfold flS at this; simp [ht] at this)
          generalize stE y.body = ty at *
          clear ht
          go_wp2_with (fail)
          go_ret
          exact ⟨by rw [HV.out]; rfl, X3.out.below⟩
      · have hrl' : ¬ (r : Int) < (p.flows.length : Int) := by omega
        obtain rfl : r = p.flows.length := by omega
        have HV : Hid (ckV p = 0) := hid (by rw [HOV.out, if_pos]; exact List.all_eq_true.2 (fun q hq => HE.out q (by rw [List.take_length]; exact hq)))
        go_wp2_with (fail)
        go_ret
        exact ⟨by rw [HV.out]; rfl, FX.out.below⟩
  · have HV : Hid (ckV p = nmErr p) := hid (by unfold ckV; rw [if_neg hn])
    generalize nmErr p = ne at *
    go_wp2_with (fail)
    go_ret
    exact ⟨by rw [HV.out]; rfl, X1.out.below⟩
end Go.Proofs.YtejacmgppnafcaaDoor.Lex
namespace Go.Proofs.YtejacmgppnafcaaDoor.Lex
open Go.ChangeShapes Go.WideShapes Go.ChangeAt Go.RowKit Go.Joins
theorem row4e {W : World} {k : Nat} {x : Ex} {D : Value} (h : W.heap[k]? = some (.cells #[.int .u8 (x.op : Int), .int .i64 x.n, .string x.name, D] 30 (0, 0))) : W.cell? ⟨k, 0, none⟩ = some (.int .u8 (x.op : Int)) ∧ W.cell? ⟨k, 1, none⟩ = some (.int .i64 x.n) ∧ W.cell? ⟨k, 2, none⟩ = some (.string x.name) ∧ W.cell? ⟨k, 3, none⟩ = some D :=
  ⟨(cell_of_row _ _ _ _ 30 (0, 0) h).trans rfl, (cell_of_row _ _ _ _ 30 (0, 0) h).trans rfl, (cell_of_row _ _ _ _ 30 (0, 0) h).trans rfl, (cell_of_row _ _ _ _ 30 (0, 0) h).trans rfl⟩
abbrev N0 : Value := .slice none 0 0
theorem st_leaf (W : World) (x : Ex) (ha : x.args = []) (ho : x.op < 256) (hn : -9223372036854775808 ≤ x.n ∧ x.n ≤ 9223372036854775807) (hs : x.name.size ≤ 140737488355328) : St W x N0 := by
  obtain ⟨op, n, nm, args⟩ := x
  subst ha
  exact St.intro ⟨op, n, nm, []⟩ none 0 (fun _ => N0) ho hn hs (by simp) (by simp) (.inl rfl) (fun i hi => absurd hi (Nat.not_lt_zero i))
/-- The number 0. -/
abbrev exO : Ex := ⟨1, 0, ⟨#[]⟩, []⟩
theorem stO (W : World) : St W exO N0 := st_leaf W exO rfl (by decide) (by decide) (by show (0 : Nat) ≤ _; omega)
/-- The chapter's program, with a flow of a body. -/
def smP (x : Ex) : Pg := ⟨1, [⟨⟨#[97]⟩, 1, 1⟩], [⟨⟨#[120]⟩, 1, 1, 0, x⟩], []⟩
abbrev smF (x : Ex) (s : Value) : Array Value := #[.string ⟨#[120]⟩, .int .u8 1, .int .i64 1, .int .i64 0, .int .u8 (x.op : Int), .int .i64 x.n, .string x.name, s]
abbrev smI : Array Value := #[.string ⟨#[97]⟩, .int .u8 1, .int .i64 1]
theorem pg_small {W : World} {b : Nat} {x : Ex} {s : Value} (h : W.heap[b]? = some (.cells smI 83 (0, 0))) (hf : W.heap[b + 1]? = some (.cells (smF x s) 53 (0, 0))) (hS : St W x s) : PgAt W (smP x) (.slice (some ⟨b, 0, none⟩) 1 1) (.slice (some ⟨b + 1, 0, none⟩) 1 1) N0 where
  ins := by
    refine ⟨some ⟨b, 0, none⟩, 1, rfl, by show (1 : Nat) ≤ _; omega, by show (1 : Nat) ≤ _; omega, ?_, .inr ⟨b, 0, rfl, fun i hi => ?_⟩⟩
    · intro z hz
      obtain rfl := List.mem_singleton.1 hz
      exact ⟨by show (1 : Nat) ≤ _; omega, by decide, by decide, by decide⟩
    · have hi2 : i < 1 := hi
      obtain rfl : i = 0 := by omega
      refine ⟨?_, ?_, ?_⟩ <;> (rw [cell_of_row _ _ _ _ 83 (0, 0) h]; rfl)
  flows := by
    refine ⟨some ⟨b + 1, 0, none⟩, 1, fun _ => s, rfl, by show (1 : Nat) ≤ _; omega, by show (1 : Nat) ≤ _; omega, ?_, .inr ⟨b + 1, 0, rfl, fun i hi => ?_⟩, fun i hi => ?_⟩
    · intro z hz
      obtain rfl := List.mem_singleton.1 hz
      exact ⟨by show (1 : Nat) ≤ _; omega, by show (1 : Nat) < _; omega, ⟨by show (-9223372036854775808 : Int) ≤ 1; omega, by show (1 : Int) ≤ _; omega⟩, ⟨by show (-9223372036854775808 : Int) ≤ 0; omega, by show (0 : Int) ≤ _; omega⟩⟩
    · have hi2 : i < 1 := hi
      obtain rfl : i = 0 := by omega
      refine ⟨?_, ?_, ?_, ?_, ?_, ?_, ?_, ?_⟩ <;> (rw [cell_of_row _ _ _ _ 53 (0, 0) hf]; rfl)
    · have hi2 : i < 1 := hi
      obtain rfl : i = 0 := by omega
      exact hS
  outs := ⟨none, 0, rfl, by show (0 : Nat) ≤ _; omega, by show (0 : Nat) ≤ _; omega, fun x hx => (List.not_mem_nil hx).elim, .inl rfl⟩
  st := ⟨by show (-9223372036854775808 : Int) ≤ 1; omega, by show (1 : Int) ≤ _; omega⟩
set_option maxRecDepth 100000 in
set_option maxHeartbeats 1000000 in
theorem small_at (x : Ex) (s : Value) (w : World) (hS : St w x s) : Calls Tryd.prog 46 #[exV x s] w fun e w' => ∃ b, e = .returned (pgV (smP x) (.slice (some ⟨b, 0, none⟩) 1 1) (.slice (some ⟨b + 1, 0, none⟩) 1 1) N0) ∧ PgAt w' (smP x) (.slice (some ⟨b, 0, none⟩) 1 1) (.slice (some ⟨b + 1, 0, none⟩) 1 1) N0 ∧ Below w.heap.size w w' := by
  have HS := hid hS
  clear hS
  go_enter Tryd.func46, Tryd.ntmps46
  go_wp2
  have hb := fun o0 o1 o2 o3 => ((((Below.refl w.heap.size w).alloc (by simp; try omega) o0).alloc (by simp; try omega) o1).alloc (by simp; try omega) o2).alloc (by simp; try omega) o3
  refine bodyPost_ret (v := pgV (smP x) (.slice (some ⟨w.heap.size + 1 + 1, 0, none⟩) 1 1) (.slice (some ⟨w.heap.size + 1 + 1 + 1, 0, none⟩) 1 1) N0) ?_ rfl ⟨w.heap.size + 1 + 1, rfl, pg_small (push_old (push_new _ _ _ (by simp))) (push_new _ _ _ (by simp)) (HS.out.keep (hb _ _ _ _)), hb _ _ _ _⟩
  simp [results, Tryd.f46, go_sem]
  rfl
abbrev c30 : Array Value := #[.int .u8 0, .int .i64 0, .string ⟨#[]⟩, .slice none 0 0]
theorem info30 : (Tryd.prog.info? 30).map (·.size) = some 4 := by kernel_rfl
theorem name_at (s : ByteArray) (w : World) : Calls Tryd.prog 19 #[.string s] w fun e w' => e = .returned (exV ⟨3, 0, s, []⟩ (.slice none 0 0)) ∧ Below w.heap.size w w' := by
  have B0 := hid ((Below.refl w.heap.size w).alloc (Nat.le_refl _) (.cells c30 30))
  have X0 := heap_alloc_new w (.cells c30 30)
  go_enter Tryd.func19, Tryd.ntmps19
  go_wp2_with (refine wpList_store_row rfl 30 _ _ rfl w.heap.size #[.int .u8 3, .int .i64 0, .string s, .slice none 0 0] rfl rfl 30 _ X0 info30 rfl (by simp [Value.oneCell']) ?_)
  exact bodyPost_ret (results_cell_row rfl _ _ w.heap.size 30 #[.int .u8 3, .int .i64 0, .string s, .slice none 0 0] (0, 0) _ rfl (setRow_heap _ _ _ _ _ _ X0) Tryd.underlying30 rfl info30) rfl ⟨rfl, below_row B0.out B0.out.size (Nat.le_refl _) _⟩
theorem nought_at (w : World) : Calls Tryd.prog 21 #[] w fun e w' => e = .returned (exV exO N0) ∧ Below w.heap.size w w' := by
  have B0 := hid ((Below.refl w.heap.size w).alloc (Nat.le_refl _) (.cells c30 30))
  have X0 := heap_alloc_new w (.cells c30 30)
  go_enter Tryd.func21, Tryd.ntmps21
  go_wp2_with (refine wpList_store_row rfl 30 _ _ rfl w.heap.size #[.int .u8 1, .int .i64 0, .string ⟨#[]⟩, .slice none 0 0] rfl rfl 30 _ X0 info30 rfl (by simp [Value.oneCell']) ?_)
  exact bodyPost_ret (results_cell_row rfl _ _ w.heap.size 30 #[.int .u8 1, .int .i64 0, .string ⟨#[]⟩, .slice none 0 0] (0, 0) _ rfl (setRow_heap _ _ _ _ _ _ X0) Tryd.underlying30 rfl info30) rfl ⟨rfl, below_row B0.out B0.out.size (Nat.le_refl _) _⟩
/-- of, as a value. -/
theorem of_pl (z : Int) (a : Option Addr) (n c : Nat) (w : World) : Calls Tryd.prog 20 #[.int .u8 z, .slice a n c] w fun e w' => e = .returned (.agg #[.int .u8 z, .int .i64 0, .string ⟨#[]⟩, .slice a n c]) ∧ Below w.heap.size w w' := by
  have B0 := hid ((Below.refl w.heap.size w).alloc (Nat.le_refl _) (.cells c30 30))
  have X0 := heap_alloc_new w (.cells c30 30)
  go_enter Tryd.func20, Tryd.ntmps20
  go_wp2_with (refine wpList_store_row rfl 30 _ _ rfl w.heap.size #[.int .u8 z, .int .i64 0, .string ⟨#[]⟩, .slice a n c] rfl rfl 30 _ X0 info30 rfl (by simp [Value.oneCell']) ?_)
  exact bodyPost_ret (results_cell_row rfl _ _ w.heap.size 30 #[.int .u8 z, .int .i64 0, .string ⟨#[]⟩, .slice a n c] (0, 0) _ rfl (setRow_heap _ _ _ _ _ _ X0) Tryd.underlying30 rfl info30) rfl ⟨rfl, below_row B0.out B0.out.size (Nat.le_refl _) _⟩
/-- Something that is worked out, in its variable. -/
structure XQ (w : World) (x : Ex) (ao : Option Addr) (cap : Nat) (W : World) : Prop where
  row : W.heap[w.heap.size]? = some (.cells #[.int .u8 (x.op : Int), .int .i64 x.n, .string x.name, .slice ao x.args.length cap] 30 (0, 0))
  S : St W x (.slice ao x.args.length cap)
  R : TabR W
  J : TabJ W
  below : Below w.heap.size w W
theorem XQ.keep {w W W' : World} {x : Ex} {ao : Option Addr} {cap : Nat} (h : XQ w x ao cap W) (hb : Below W.heap.size W W') : XQ w x ao cap W' :=
  ⟨keep_row h.row hb, h.S.keep hb, h.R.below hb, h.J.below hb, h.below.trans (hb.mono h.below.size)⟩
theorem XQ.cells {w W : World} {x : Ex} {ao : Option Addr} {cap : Nat} (h : XQ w x ao cap W) : W.cell? ⟨w.heap.size, 0, none⟩ = some (.int .u8 (x.op : Int)) ∧ W.cell? ⟨w.heap.size, 1, none⟩ = some (.int .i64 x.n) ∧ W.cell? ⟨w.heap.size, 2, none⟩ = some (.string x.name) ∧ W.cell? ⟨w.heap.size, 3, none⟩ = some (.slice ao x.args.length cap) := row4e h.row
set_option maxRecDepth 100000 in
set_option maxHeartbeats 2000000 in
theorem is_at (x : Ex) (t : Nat) (ho : ofV (smP exO) x = (t, 0)) (w : World) (s : Value) (hS : St w x s) (hR : TabR w) (hJ : TabJ w) : Calls Tryd.prog 23 #[exV x s, .int .i64 (t : Int)] w fun e w' => e = .returned (.bool true) ∧ Below w.heap.size w w' := by
  obtain ⟨ao, cap, _, rfl, _⟩ := hS.out
  have b0 := (Below.refl w.heap.size w).alloc (Nat.le_refl _) (.cells #[.int .u8 (x.op : Int), .int .i64 x.n, .string x.name, .slice ao x.args.length cap] 30)
  have X0 : Hid (XQ w x ao cap (w.alloc (.cells #[.int .u8 (x.op : Int), .int .i64 x.n, .string x.name, .slice ao x.args.length cap] 30))) := hid ⟨heap_alloc_new w _, hS.keep b0, hR.below b0, hJ.below b0, b0⟩
  have HO := hid ho
  clear b0 hS hR hJ ho
  obtain ⟨p0, p1, p2, p3⟩ := X0.out.cells
  go_enter Tryd.func23, Tryd.ntmps23
  go_wp2_with (fail)
  generalize w.alloc (.cells #[.int .u8 (x.op : Int), .int .i64 x.n, .string x.name, .slice ao x.args.length cap] 30) = W0 at *
  refine wp_region_held_drew (S := fun W => W.cell? ⟨w.heap.size, 0, none⟩ = some (.int .u8 (x.op : Int)) ∧ W.cell? ⟨w.heap.size, 1, none⟩ = some (.int .i64 x.n) ∧ W.cell? ⟨w.heap.size, 2, none⟩ = some (.string x.name) ∧ W.cell? ⟨w.heap.size, 3, none⟩ = some (.slice ao x.args.length cap)) (by kernel_rfl) ?_ (fun hHeld => ?_)
  · exact ⟨p0, p1, p2, p3⟩
  refine wpAnyH_take (i := 2) (oi := { dst := some 10, op := Go.Op.load 30 (Go.Operand.tmp 2), type := 30, pos := _, after := #[], guard := none }) (v := ?_) rfl (by kernel_rfl) (by kernel_rfl) (by kernel_rfl) (fun _ _ _ h => h) (Or.inl ⟨by rfl, ?_⟩) (by assumption) ?_
  rotate_left
  · intro w hSw; (try dsimp only at hSw); go_simp <;> first | with_reducible rfl | (rw [if_neg (by first | omega | (simp only [ByteArray.size_append] at *; omega))])
  simp only [Act.put, List.setIfInBounds_toArray, List.set_cons_zero, List.set_cons_succ]
  refine wpAnyH_ready (rs := [0]) (by kernel_rfl) (by simp) ?_
  refine AllReadyH.cons (o := { dst := some 8, op := Go.Op.call { callee := Go.Callee.value (Go.Operand.func 21), args := #[], argTypes := #[] }, type := 30, pos := _, after := #[], guard := none }) rfl (fun K hK => ?_) AllReadyH.nil
  go_simp
  refine (nought_at _).mono ?_
  rintro e w0 ⟨rfl, hb0'⟩
  have hb0 : Below W0.heap.size W0 w0 := (Below.refl _ _).drew.trans (hb0'.mono (by simp))
  have Xz := hid (X0.out.keep hb0)
  obtain ⟨r0, r1, r2, r3⟩ := Xz.out.cells
  clear hb0 hb0'
  go_wp2_with fail
  refine hK.out _ _ ?_ (fun hHeld1 => ?_)
  · exact ⟨r0, r1, r2, r3⟩
  clear hK K
  refine wpAnyH_ready (rs := [1]) (by kernel_rfl) (by simp) ?_
  refine AllReadyH.cons (o := { dst := some 9, op := Go.Op.call { callee := Go.Callee.value (Go.Operand.func 46), args := #[Go.Operand.tmp 8], argTypes := #[30] }, type := 26, pos := _, after := #[{ on := 0, ground := Go.Ground.data }, { on := 0, ground := Go.Ground.chain }], guard := none }) rfl (fun K hK => ?_) AllReadyH.nil
  go_simp
  refine (small_at exO N0 _ (stO _)).mono ?_
  rintro e w1 ⟨sb, rfl, hP1, hb1⟩
  have X1 := hid (Xz.out.keep hb1)
  have P1 := hid hP1
  obtain ⟨q0, q1, q2, q3⟩ := X1.out.cells
  clear hP1 hb1
  go_wp2_with fail
  refine hK.out _ _ ?_ (fun hHeld2 => ?_)
  · exact ⟨q0, q1, q2, q3⟩
  clear hK K
  refine wpAnyH_ready (rs := [3]) (by kernel_rfl) (by simp) ?_
  refine AllReadyH.cons (o := { dst := some 11, op := Go.Op.call { callee := Go.Callee.value (Go.Operand.func 13), args := #[Go.Operand.tmp 9, Go.Operand.tmp 10], argTypes := #[26, 30] }, type := 36, pos := _, after := #[{ on := 1, ground := Go.Ground.data }, { on := 2, ground := Go.Ground.data }, { on := 1, ground := Go.Ground.chain }], guard := none }) rfl (fun K hK => ?_) AllReadyH.nil
  go_simp
  refine (of_ (smP exO) x _ _ _ _ _ P1.out X1.out.S X1.out.R X1.out.J).mono ?_
  rintro e w2 ⟨rfl, hb2⟩
  have X2 := hid (X1.out.keep hb2)
  obtain ⟨t0, t1, t2, t3⟩ := X2.out.cells
  rw [HO.out]
  clear hb2
  go_wp2_with fail
  refine hK.out _ _ ?_ (fun hHeld3 => ?_)
  · exact ⟨t0, t1, t2, t3⟩
  clear hK K
  refine wpAnyH_take (i := 4) (oi := { dst := some 7, op := Go.Op.move (Go.Operand.tmp 11), type := 36, pos := _, after := #[{ on := 3, ground := Go.Ground.data }], guard := none }) (v := ?_) rfl (by kernel_rfl) (by kernel_rfl) (by kernel_rfl) (fun _ _ _ h => h) (Or.inl ⟨by rfl, ?_⟩) (by assumption) ?_
  rotate_left
  · intro w hSw; (try dsimp only at hSw); go_simp <;> first | with_reducible rfl | (rw [if_neg (by first | omega | (simp only [ByteArray.size_append] at *; omega))])
  simp only [Act.put, List.setIfInBounds_toArray, List.set_cons_zero, List.set_cons_succ]
  refine wpAnyH_take (i := 5) (oi := { dst := some 12, op := Go.Op.extract (Go.Operand.tmp 7) 0, type := 3, pos := _, after := #[{ on := 4, ground := Go.Ground.data }], guard := none }) (v := ?_) rfl (by kernel_rfl) (by kernel_rfl) (by kernel_rfl) (fun _ _ _ h => h) (Or.inl ⟨by rfl, ?_⟩) (by assumption) ?_
  rotate_left
  · intro w hSw; (try dsimp only at hSw); go_simp <;> first | with_reducible rfl | (rw [if_neg (by first | omega | (simp only [ByteArray.size_append] at *; omega))])
  simp only [Act.put, List.setIfInBounds_toArray, List.set_cons_zero, List.set_cons_succ]
  refine wpAnyH_take (i := 6) (oi := { dst := some 13, op := Go.Op.extract (Go.Operand.tmp 7) 1, type := 35, pos := _, after := #[{ on := 4, ground := Go.Ground.data }, { on := 7, ground := Go.Ground.gcOnly Go.Departure.lateStores }], guard := none }) (v := ?_) rfl (by kernel_rfl) (by kernel_rfl) (by kernel_rfl) (fun _ _ _ h => h) (Or.inl ⟨by rfl, ?_⟩) (by assumption) ?_
  rotate_left
  · intro w hSw; (try dsimp only at hSw); go_simp <;> first | with_reducible rfl | (rw [if_neg (by first | omega | (simp only [ByteArray.size_append] at *; omega))])
  simp only [Act.put, List.setIfInBounds_toArray, List.set_cons_zero, List.set_cons_succ]
  refine wpAnyH_take (i := 7) (oi := { dst := some 5, op := Go.Op.assign (Go.Operand.tmp 12), type := 3, pos := _, after := #[{ on := 5, ground := Go.Ground.data }, { on := 3, ground := Go.Ground.chain }, { on := 0, ground := Go.Ground.phase }, { on := 1, ground := Go.Ground.phase }, { on := 2, ground := Go.Ground.phase }, { on := 3, ground := Go.Ground.phase }, { on := 4, ground := Go.Ground.phase }, { on := 5, ground := Go.Ground.phase }, { on := 6, ground := Go.Ground.textOnly Go.Departure.lateStores }], guard := none }) (v := ?_) rfl (by kernel_rfl) (by kernel_rfl) (by kernel_rfl) (fun _ _ _ h => h) (Or.inl ⟨by rfl, ?_⟩) (by assumption) ?_
  rotate_left
  · intro w hSw; (try dsimp only at hSw); go_simp <;> first | with_reducible rfl | (rw [if_neg (by first | omega | (simp only [ByteArray.size_append] at *; omega))])
  simp only [Act.put, List.setIfInBounds_toArray, List.set_cons_zero, List.set_cons_succ]
  refine wpAnyH_take (i := 8) (oi := { dst := some 6, op := Go.Op.assign (Go.Operand.tmp 13), type := 35, pos := _, after := #[{ on := 6, ground := Go.Ground.data }, { on := 7, ground := Go.Ground.chain }, { on := 0, ground := Go.Ground.phase }, { on := 1, ground := Go.Ground.phase }, { on := 2, ground := Go.Ground.phase }, { on := 3, ground := Go.Ground.phase }, { on := 4, ground := Go.Ground.phase }, { on := 5, ground := Go.Ground.phase }, { on := 6, ground := Go.Ground.phase }, { on := 7, ground := Go.Ground.phase }], guard := none }) (v := ?_) rfl (by kernel_rfl) (by kernel_rfl) (by kernel_rfl) (fun _ _ _ h => h) (Or.inl ⟨by rfl, ?_⟩) (by assumption) ?_
  rotate_left
  · intro w hSw; (try dsimp only at hSw); go_simp <;> first | with_reducible rfl | (rw [if_neg (by first | omega | (simp only [ByteArray.size_append] at *; omega))])
  simp only [Act.put, List.setIfInBounds_toArray, List.set_cons_zero, List.set_cons_succ]
  refine wpAnyH_done (by kernel_rfl) ?_ _
  have e1 : ((t : Int) == (t : Int)) = true := by simp
  have hB := X2.out.below
  go_wp2_with (fail)
  go_ret
  exact ⟨rfl, hB⟩
end Go.Proofs.YtejacmgppnafcaaDoor.Lex
namespace Go.Proofs.YtejacmgppnafcaaDoor.Lex
open Go.ChangeShapes Go.WideShapes Go.ChangeAt Go.RowKit Go.Joins
/-- With a number in the place of a part, looked for so deep. -/
def chX : Nat → Ex → Nat → Ex
  | 0, _, _ => exO
  | f + 1, x, way => if x.args.length = 0 ∨ way = 0 then exO else ⟨x.op, x.n, x.name, x.args.modify (way % x.args.length) fun y => chX f y (way / 2)⟩
/-- What changed answers: a tree that stands wherever the memory from which it was made stands, and what changed made. -/
def ChP (x : Ex) (w0 w : World) (e : Ending) (w' : World) : Prop := ∃ s', e = .returned (exV x s') ∧ Below w.heap.size w w' ∧ ∀ W, Below w0.heap.size w0 W → (∀ b, w.heap.size ≤ b → b < w'.heap.size → W.heap[b]? = w'.heap[b]?) → St W x s'
theorem pairsV_set : ∀ (ps : List (Ex × Value)) (k : Nat) (p : Ex × Value), ((((pairsV ps).set (k * 4) (.int .u8 (p.1.op : Int))).set (k * 4 + 1) (.int .i64 p.1.n)).set (k * 4 + 2) (.string p.1.name)).set (k * 4 + 3) p.2 = pairsV (ps.set k p)
  | [], k, p => by simp [pairsV]
  | q :: ps, 0, p => by simp [pairsV, pairV]
  | q :: ps, k + 1, p => by
    have ih := pairsV_set ps k p
    have e : pairsV (q :: ps) = pairV q ++ pairsV ps := by simp [pairsV]
    have e' : pairsV ((q :: ps).set (k + 1) p) = pairV q ++ pairsV (ps.set k p) := by simp [pairsV]
    rw [e, e', ← ih]
    have h0 : (k + 1) * 4 = k * 4 + 4 := by omega
    have h1 : (k + 1) * 4 + 1 = k * 4 + 1 + 4 := by omega
    have h2 : (k + 1) * 4 + 2 = k * 4 + 2 + 4 := by omega
    have h3 : (k + 1) * 4 + 3 = k * 4 + 3 + 4 := by omega
    rw [h0, show k * 4 + 4 + 1 = k * 4 + 1 + 4 by omega, show k * 4 + 4 + 2 = k * 4 + 2 + 4 by omega, show k * 4 + 4 + 3 = k * 4 + 3 + 4 by omega]
    simp [pairV]
/-- The parts of it, as they lie in memory. -/
theorem St.row {w : World} {x : Ex} {ao : Option Addr} {n cap : Nat} (h : St w x (.slice ao n cap)) : n = x.args.length ∧ x.args.length ≤ 2513169434843 ∧
    ∃ ps : List (Ex × Value), ps.map (·.1) = x.args ∧ (∀ p ∈ ps, St w p.1 p.2) ∧ (∀ ad, ao = some ad → ∀ j u, (pairsV ps)[j]? = some u → w.cell? (ad.add j) = some u) ∧ (∀ u ∈ pairsV ps, u.oneCell' = true) := by
  obtain ⟨ao', cap', sl, e, _, _, _, hlen, _, hc, hs⟩ := h.out
  injection e with e1 e2 e3
  subst e1 e2 e3
  have hl : ((List.range x.args.length).map fun i => (x.args[i]?.getD ⟨0, 0, ByteArray.empty, []⟩, sl i)).length = x.args.length := by simp
  have hg : ∀ i (hi : i < x.args.length), ((List.range x.args.length).map fun i => (x.args[i]?.getD ⟨0, 0, ByteArray.empty, []⟩, sl i))[i]'(by omega) = (x.args[i], sl i) := fun i hi => by simp [hi]
  refine ⟨rfl, hlen, (List.range x.args.length).map fun i => (x.args[i]?.getD ⟨0, 0, ByteArray.empty, []⟩, sl i), ?_, ?_, ?_, ?_⟩
  · apply List.ext_getElem
    · simp
    · intro i h1 h2
      simp [h2]
  · intro p hp
    obtain ⟨i, hi, rfl⟩ := List.getElem_of_mem hp
    rw [hg i (by omega)]
    exact hs i (by omega)
  · rintro ad rfl j u hj
    have hjl := (List.getElem?_eq_some_iff.1 hj).1
    rw [pairsV_len, hl] at hjl
    obtain ⟨b, o, e, hcc⟩ := hc.resolve_left (by omega)
    obtain rfl := Option.some.inj e
    have hi : j / 4 < x.args.length := by omega
    obtain ⟨q0, q1, q2, q3⟩ := pairsV_at ((List.range x.args.length).map fun i => (x.args[i]?.getD ⟨0, 0, ByteArray.empty, []⟩, sl i)) [] (j / 4) (by omega)
    rw [List.append_nil] at q0 q1 q2 q3
    rw [hg _ hi] at q0 q1 q2 q3
    obtain ⟨c0, c1, c2, c3⟩ := hcc (j / 4) hi
    have hadd : (⟨b, o, none⟩ : Addr).add j = ⟨b, o + j, none⟩ := by unfold Addr.add; split <;> simp_all
    rw [hadd]
    have hm : j % 4 < 4 := Nat.mod_lt _ (by omega)
    rcases (by omega : j % 4 = 0 ∨ j % 4 = 1 ∨ j % 4 = 2 ∨ j % 4 = 3) with h | h | h | h
    · rw [show j = j / 4 * 4 by omega] at hj
      rw [q0] at hj
      rw [show o + j = o + j / 4 * 4 by omega, ← hj]; exact c0
    · rw [show j = j / 4 * 4 + 1 by omega] at hj
      rw [q1] at hj
      rw [show o + j = o + j / 4 * 4 + 1 by omega, ← hj]; exact c1
    · rw [show j = j / 4 * 4 + 2 by omega] at hj
      rw [q2] at hj
      rw [show o + j = o + j / 4 * 4 + 2 by omega, ← hj]; exact c2
    · rw [show j = j / 4 * 4 + 3 by omega] at hj
      rw [q3] at hj
      rw [show o + j = o + j / 4 * 4 + 3 by omega, ← hj]; exact c3
  · intro u hu
    obtain ⟨p, hp, hup⟩ := List.mem_flatMap.1 hu
    obtain ⟨i, hi, rfl⟩ := List.getElem_of_mem hp
    rw [hg i (by omega)] at hup
    obtain ⟨a3, c3, _, e3, _⟩ := (hs i (by omega)).out
    simp [pairV, e3] at hup
    rcases hup with rfl | rfl | rfl | rfl <;> simp [Value.oneCell']
/-- It stands in memory, where its parts' row does. -/
theorem St.of_row {w : World} {base : Nat} {v : Value} {ps : List (Ex × Value)} (op : Nat) (n : Int) (nm : ByteArray) (hop : op < 256) (hn : -9223372036854775808 ≤ n ∧ n ≤ 9223372036854775807) (hnm : nm.size ≤ 140737488355328) (hlen : ps.length ≤ 2513169434843)
    (hr : w.ownsRow base 30 4 v ps.length (pairsV ps)) (hs : ∀ p ∈ ps, St w p.1 p.2) : St w ⟨op, n, nm, ps.map (·.1)⟩ v := by
  have hl : (ps.map (·.1)).length = ps.length := by simp
  rcases hr.2 with ⟨rfl, h0⟩ | ⟨g, cap, cur, rfl, _, _, hc, _⟩
  · have : ps = [] := List.eq_nil_of_length_eq_zero h0
    subst this
    exact St.intro ⟨op, n, nm, []⟩ none 0 (fun _ => .slice none 0 0) hop hn hnm (by show 0 ≤ _; omega) (Nat.le_refl _) (.inl rfl) (fun i hi => by cases hi)
  · have key : St w ⟨op, n, nm, ps.map (·.1)⟩ (.slice (some ⟨g, 0, none⟩) (ps.map (·.1)).length cap) := by
      refine St.intro ⟨op, n, nm, ps.map (·.1)⟩ _ cap (fun i => (ps[i]?.map (·.2)).getD (.slice none 0 0)) hop hn hnm (by show (ps.map (·.1)).length ≤ _; omega) (by show (ps.map (·.1)).length ≤ _; omega) (.inr ⟨g, 0, rfl, fun i hi => ?_⟩) (fun i hi => ?_)
      · have hi' : i < ps.length := by have : i < (ps.map (·.1)).length := hi; omega
        obtain ⟨q0, q1, q2, q3⟩ := pairsV_at ps [] i hi'
        rw [List.append_nil] at q0 q1 q2 q3
        have e : (Ex.mk op n nm (ps.map (·.1))).args[i] = ps[i].1 := by show (ps.map (·.1))[i]'(by omega) = _; simp
        rw [e, Nat.zero_add]
        refine ⟨?_, ?_, ?_, ?_⟩
        · rw [hr.cellAt _ (by omega)]; exact q0
        · rw [hr.cellAt _ (by omega)]; exact q1
        · rw [hr.cellAt _ (by omega)]; exact q2
        · rw [hr.cellAt _ (by omega), q3, List.getElem?_eq_getElem hi']; rfl
      · have hi' : i < ps.length := by have : i < (ps.map (·.1)).length := hi; omega
        have e : (Ex.mk op n nm (ps.map (·.1))).args[i] = ps[i].1 := by show (ps.map (·.1))[i]'(by omega) = _; simp
        rw [e, List.getElem?_eq_getElem hi']
        exact hs _ (List.getElem_mem hi')
    rwa [hl] at key
theorem two_rows (w : World) (c d : Array Value) (t u : TypeId) : ((w.alloc (.cells c t)).alloc (.cells d u)).heap[w.heap.size + 1]? = some (.cells d u (0, 0)) := by
  have := heap_alloc_new (w.alloc (.cells c t)) (.cells d u)
  rwa [World.size_alloc] at this
theorem first_row (w : World) (c d : Array Value) (t u : TypeId) : ((w.alloc (.cells c t)).alloc (.cells d u)).heap[w.heap.size]? = some (.cells c t (0, 0)) := by
  rw [Below.heap_alloc _ _ _ (by simp)]; exact heap_alloc_new w _
theorem two_below (w : World) (o1 o2 : Obj) : Below w.heap.size w ((w.alloc o1).alloc o2) := bstep ((Below.refl _ _).alloc (Nat.le_refl _) _) ((Below.refl _ _).alloc (Nat.le_refl _) _)
theorem St.fields {w : World} {x : Ex} {s : Value} (h : St w x s) (op : Nat) (n : Int) (nm : ByteArray) (hop : op < 256) (hn : -9223372036854775808 ≤ n ∧ n ≤ 9223372036854775807) (hnm : nm.size ≤ 140737488355328) : St w ⟨op, n, nm, x.args⟩ s := by
  obtain ⟨ao, cap, sl, rfl, _, _, _, hlen, hcap, hc, hs⟩ := h.out
  exact St.intro ⟨op, n, nm, x.args⟩ ao cap sl hop hn hnm hlen hcap hc hs
theorem own_block {w W : World} {base e c n : Nat} {v : Value} {xs : List Value} (h : w.ownsRow base e c v n xs) (hg : ∀ g, v.ownBlock = some g → W.heap[g]? = w.heap[g]?) : W.ownsRow base e c v n xs := by
  refine ⟨h.1, ?_⟩
  rcases h.2 with hn | ⟨g, cap, cur, e, hg0, hh, rest⟩
  · exact .inl hn
  · subst e
    exact .inr ⟨g, cap, cur, rfl, hg0, (hg g rfl).trans hh, rest⟩
/-- What is behind the appends of odd: the rows of what came in and of the answer, as they were, and the new row. -/
structure Put0 (w : World) (c d : Array Value) (v : Value) (ps : List (Ex × Value)) (W : World) : Prop where
  below : Below w.heap.size w W
  one : W.heap[w.heap.size]? = some (.cells c 30 (0, 0))
  two : W.heap[w.heap.size + 1]? = some (.cells d 30 (0, 0))
  row : W.ownsRow (w.heap.size + 2) 30 4 v ps.length (pairsV ps)
theorem Put0.grown {w W W' : World} {c d : Array Value} {v v' : Value} {ps ps' : List (Ex × Value)} (h : Put0 w c d v ps W) (hg : W.grownBy W' v.ownBlock) (hr : W'.ownsRow (w.heap.size + 2) 30 4 v' ps'.length (pairsV ps')) : Put0 w c d v' ps' W' := by
  have hlt := h.row.lt
  have k : ∀ b, b < w.heap.size + 2 → b < W.heap.size → W'.heap[b]? = W.heap[b]? := fun b h1 h2 => hg.block b h2 (fun e => by have := (hlt b e.symm).1; omega)
  refine ⟨h.below.grown hg h.below.size (fun j hj => by have := (hlt j hj).1; omega), ?_, ?_, hr⟩
  · rw [k _ (by omega) (Array.getElem?_eq_some_iff.1 h.one).1]; exact h.one
  · rw [k _ (by omega) (Array.getElem?_eq_some_iff.1 h.two).1]; exact h.two
theorem Put0.alloc {w W : World} {c d : Array Value} {v : Value} {ps : List (Ex × Value)} (h : Put0 w c d v ps W) (o : Obj) : Put0 w c d v ps (W.alloc o) :=
  ⟨h.below.alloc h.below.size _, by rw [Below.heap_alloc _ _ _ (Array.getElem?_eq_some_iff.1 h.one).1]; exact h.one, by rw [Below.heap_alloc _ _ _ (Array.getElem?_eq_some_iff.1 h.two).1]; exact h.two, h.row.alloc o⟩
theorem Put0.later {w W W' : World} {c d : Array Value} {v : Value} {ps : List (Ex × Value)} (h : Put0 w c d v ps W) (hb : Below W.heap.size W W') : Put0 w c d v ps W' :=
  ⟨bstep h.below hb, (hb.block _ (Array.getElem?_eq_some_iff.1 h.one).1).trans h.one, (hb.block _ (Array.getElem?_eq_some_iff.1 h.two).1).trans h.two, own_block h.row fun g hg => hb.block g (h.row.lt g hg).2⟩
/-- The row is put into what came in, and that into the answer. -/
theorem Put0.done {w w0 W : World} {op : Nat} {n : Int} {nm : ByteArray} {s v : Value} {d d' : Array Value} {ps : List (Ex × Value)} (h : Put0 w #[.int .u8 (op : Int), .int .i64 n, .string nm, s] d v ps W) (hop : op < 256) (hn : -9223372036854775808 ≤ n ∧ n ≤ 9223372036854775807) (hnm : nm.size ≤ 140737488355328) (hlen : ps.length ≤ 2513169434843)
    (hs : ∀ V, Below w0.heap.size w0 V → (∀ b, w.heap.size + 2 ≤ b → b < W.heap.size → some b ≠ v.ownBlock → V.heap[b]? = W.heap[b]?) → ∀ p ∈ ps, St V p.1 p.2) (hsz : w.heap.size + 2 ≤ W.heap.size) :
    Below w.heap.size w ((W.setCell ⟨w.heap.size, 3, none⟩ v).setRow (w.heap.size + 1) d') ∧ ∀ V, Below w0.heap.size w0 V → (∀ b, w.heap.size ≤ b → b < ((W.setCell ⟨w.heap.size, 3, none⟩ v).setRow (w.heap.size + 1) d').heap.size → V.heap[b]? = ((W.setCell ⟨w.heap.size, 3, none⟩ v).setRow (w.heap.size + 1) d').heap[b]?) → St V ⟨op, n, nm, ps.map (·.1)⟩ v := by
  have hsize : ((W.setCell ⟨w.heap.size, 3, none⟩ v).setRow (w.heap.size + 1) d').heap.size = W.heap.size := by simp [World.setRow]
  have kk : ∀ b, w.heap.size + 2 ≤ b → ((W.setCell ⟨w.heap.size, 3, none⟩ v).setRow (w.heap.size + 1) d').heap[b]? = W.heap[b]? := fun b hb => by
    rw [setRow_other _ _ _ _ (by omega), Below.heap_setCell _ _ _ _ (by show b ≠ w.heap.size; omega)]
  refine ⟨below_row (h.below.setCell (p := ⟨w.heap.size, 3, none⟩) (Nat.le_refl _) _) (by simp; omega) (by omega) _, fun V h1 h2 => ?_⟩
  have hV : ∀ b, w.heap.size + 2 ≤ b → b < W.heap.size → V.heap[b]? = W.heap[b]? := fun b hb hlt => by rw [h2 b (by omega) (by omega), kk b hb]
  exact St.of_row op n nm hop hn hnm hlen (own_block h.row fun g hg => hV g (h.row.lt g hg).1 (h.row.lt g hg).2) (hs V h1 fun b hb hlt _ => hV b hb hlt)
theorem row_pos {W : World} {base e size k : Nat} {v : Value} {xs : List Value} (h : W.ownsRow base e size v k xs) (hk : 0 < k) : ∃ g cap, v = .slice (some ⟨g, 0, none⟩) k cap := by
  rcases h.2 with ⟨_, h0⟩ | ⟨g, cap, _, rfl, _⟩
  · omega
  · exact ⟨g, cap, rfl⟩
theorem four_set {w W : World} {c d : Array Value} {g3 n c3 k : Nat} {ps : List (Ex × Value)} (h : Put0 w c d (.slice (some ⟨g3, 0, none⟩) n c3) ps W) (z : Ex) (a4 : Option Addr) (c4 : Nat) (hn : n = ps.length) :
    Put0 w c d (.slice (some ⟨g3, 0, none⟩) n c3) (ps.set k (z, .slice a4 z.args.length c4)) (W.setCells g3 (k * 4) (#[.int .u8 (z.op : Int), .int .i64 z.n, .string z.name, .slice a4 z.args.length c4] : Array Value).toList) ∧ (W.setCells g3 (k * 4) (#[.int .u8 (z.op : Int), .int .i64 z.n, .string z.name, .slice a4 z.args.length c4] : Array Value).toList).heap.size = W.heap.size ∧ ∀ b, b ≠ g3 → (W.setCells g3 (k * 4) (#[.int .u8 (z.op : Int), .int .i64 z.n, .string z.name, .slice a4 z.args.length c4] : Array Value).toList).heap[b]? = W.heap[b]? := by
  subst hn
  have hg := h.row.lt g3 rfl
  have ho : ∀ b, b ≠ g3 → (W.setCells g3 (k * 4) (#[.int .u8 (z.op : Int), .int .i64 z.n, .string z.name, .slice a4 z.args.length c4] : Array Value).toList).heap[b]? = W.heap[b]? := fun b hb => by
    show (((((W.setCell ⟨g3, k * 4, none⟩ (.int .u8 (z.op : Int))).setCell ⟨g3, k * 4 + 1, none⟩ (.int .i64 z.n)).setCell ⟨g3, k * 4 + 2, none⟩ (.string z.name)).setCell ⟨g3, k * 4 + 3, none⟩ (.slice a4 z.args.length c4))).heap[b]? = _
    rw [Below.heap_setCell _ _ _ _ (by exact hb), Below.heap_setCell _ _ _ _ (by exact hb), Below.heap_setCell _ _ _ _ (by exact hb), Below.heap_setCell _ _ _ _ (by exact hb)]
  have hsz : (W.setCells g3 (k * 4) (#[.int .u8 (z.op : Int), .int .i64 z.n, .string z.name, .slice a4 z.args.length c4] : Array Value).toList).heap.size = W.heap.size := by
    show (((((W.setCell ⟨g3, k * 4, none⟩ (.int .u8 (z.op : Int))).setCell ⟨g3, k * 4 + 1, none⟩ (.int .i64 z.n)).setCell ⟨g3, k * 4 + 2, none⟩ (.string z.name)).setCell ⟨g3, k * 4 + 3, none⟩ (.slice a4 z.args.length c4))).heap.size = _
    simp
  refine ⟨⟨?_, ?_, ?_, ?_⟩, hsz, ho⟩
  · exact (((h.below.setCell (p := ⟨g3, k * 4, none⟩) (by show w.heap.size ≤ g3; omega) _).setCell (p := ⟨g3, k * 4 + 1, none⟩) (by show w.heap.size ≤ g3; omega) _).setCell (p := ⟨g3, k * 4 + 2, none⟩) (by show w.heap.size ≤ g3; omega) _).setCell (p := ⟨g3, k * 4 + 3, none⟩) (by show w.heap.size ≤ g3; omega) _
  · rw [ho _ (by omega)]; exact h.one
  · rw [ho _ (by omega)]; exact h.two
  · have r := ((((h.row.stored (k * 4) (.int .u8 (z.op : Int))).1.stored (k * 4 + 1) (.int .i64 z.n)).1.stored (k * 4 + 2) (.string z.name)).1.stored (k * 4 + 3) (.slice a4 z.args.length c4)).1
    rw [List.length_set, ← pairsV_set]
    exact r
theorem there4 {w W : World} {g3 n c3 k : Nat} {ps : List (Ex × Value)} (h : W.ownsRow (w.heap.size + 2) 30 4 (.slice (some ⟨g3, 0, none⟩) n c3) ps.length (pairsV ps)) (hn : ps.length = n) (hk : k < n) : W.there g3 (k * 4) 4 := by
  subst hn
  intro j hj
  refine ⟨?_, h.frozenAt _⟩
  rw [h.cellAt _ (by omega), List.getElem?_eq_getElem (by rw [pairsV_len]; omega)]
  rfl
theorem modify_map {ps : List (Ex × Value)} {l : List Ex} (h : ps.map (·.1) = l) (k : Nat) (hk : k < l.length) (g : Ex → Ex) (s : Value) : (ps.set k (g l[k], s)).map (·.1) = l.modify k g := by
  subst h
  apply List.ext_getElem
  · simp
  · intro i h1 h2
    by_cases e : i = k
    · subst e; simp
    · simp [Ne.symm e]
/-- What changed does, looked at so deep. -/
def ChC (f : Nat) : Prop := ∀ (x : Ex) (way : Nat) (w0 w : World) (s : Value), way ≤ f → way < 256 → St w0 x s → Below w0.heap.size w0 w →
  Calls Tryd.prog 25 #[exV x s, .int .i64 (way : Int)] w (ChP (chX f x way) w0 w)
set_option maxRecDepth 100000 in
set_option maxHeartbeats 1000000 in
theorem ch_leaf (x : Ex) (way : Nat) (w0 w : World) (s : Value) (hS : St w0 x s) (hway : x.args.length = 0 ∨ way = 0) (hwy : way < 256) :
    Calls Tryd.prog 25 #[exV x s, .int .i64 (way : Int)] w (ChP exO w0 w) := by
  obtain ⟨ao, cap, _, rfl, _⟩ := hS.out
  have B2 := hid (two_below w (.cells #[.int .u8 (x.op : Int), .int .i64 x.n, .string x.name, .slice ao x.args.length cap] 30) (.cells c30 30))
  have Z2 := hid (two_rows w #[.int .u8 (x.op : Int), .int .i64 x.n, .string x.name, .slice ao x.args.length cap] c30 30 30)
  clear hS
  by_cases h0 : x.args.length = 0
  · have e0 : ((x.args.length : Int) == 0) = true := by rw [beq_iff_eq]; omega
    clear hway h0
    go_enter Tryd.func25, Tryd.ntmps25
    go_wp2_with (fail)
    refine (nought_at _).mono ?_
    rintro e w4 ⟨rfl, hb4⟩
    have Z4 := hid (keep_row Z2.out hb4)
    have B4 := hid (bstep B2.out hb4)
    clear hb4
    go_wp2_with (refine wpList_store_row rfl 30 _ _ rfl (w.heap.size + 1) #[.int .u8 1, .int .i64 0, .string ⟨#[]⟩, .slice none 0 0] rfl rfl 30 _ Z4.out info30 rfl (by simp [Value.oneCell']) ?_)
    exact bodyPost_ret (results_cell_row rfl _ _ (w.heap.size + 1) 30 #[.int .u8 1, .int .i64 0, .string ⟨#[]⟩, .slice none 0 0] (0, 0) _ rfl (setRow_heap _ _ _ _ _ _ Z4.out) Tryd.underlying30 rfl info30) rfl ⟨_, rfl, below_row B4.out B4.out.size (by omega) _, fun W _ _ => stO W⟩
  · have e0 : ((x.args.length : Int) == 0) = false := by rw [beq_eq_false_iff_ne]; omega
    obtain rfl : way = 0 := hway.resolve_left h0
    clear hway h0
    go_enter Tryd.func25, Tryd.ntmps25
    go_wp2_with (fail)
    refine (nought_at _).mono ?_
    rintro e w4 ⟨rfl, hb4⟩
    have Z4 := hid (keep_row Z2.out hb4)
    have B4 := hid (bstep B2.out hb4)
    clear hb4
    go_wp2_with (refine wpList_store_row rfl 30 _ _ rfl (w.heap.size + 1) #[.int .u8 1, .int .i64 0, .string ⟨#[]⟩, .slice none 0 0] rfl rfl 30 _ Z4.out info30 rfl (by simp [Value.oneCell']) ?_)
    exact bodyPost_ret (results_cell_row rfl _ _ (w.heap.size + 1) 30 #[.int .u8 1, .int .i64 0, .string ⟨#[]⟩, .slice none 0 0] (0, 0) _ rfl (setRow_heap _ _ _ _ _ _ Z4.out) Tryd.underlying30 rfl info30) rfl ⟨_, rfl, below_row B4.out B4.out.size (by omega) _, fun W _ _ => stO W⟩
set_option maxRecDepth 100000 in
set_option maxHeartbeats 1000000 in
theorem ch_step (f : Nat) (ih : ChC f) : ChC (f + 1) := by
  intro x way w0 w s hf hwy hS hB
  by_cases hcond : x.args.length = 0 ∨ way = 0
  · have e : chX (f + 1) x way = exO := by rw [chX, if_pos hcond]
    rw [e]
    exact ch_leaf x way w0 w s hS hcond hwy
  · obtain ⟨hn0, hw0⟩ := not_or.1 hcond
    have e : chX (f + 1) x way = ⟨x.op, x.n, x.name, x.args.modify (way % x.args.length) fun y => chX f y (way / 2)⟩ := by rw [chX, if_neg hcond]
    rw [e]
    obtain ⟨ao, cap, sl, rfl, hop, hn, hnm, -, -, hc, -⟩ := hS.out
    obtain ⟨b, o, rfl, -⟩ := hc.resolve_left hn0
    obtain ⟨_, hlen, ps, hps, hst, hcell, hone⟩ := hS.row
    have hpl : ps.length = x.args.length := by rw [← hps]; simp
    obtain ⟨k, hkdef⟩ : ∃ k, way % x.args.length = k := ⟨_, rfl⟩
    have hk : k < x.args.length := by rw [← hkdef]; exact Nat.mod_lt _ (by omega)
    have hmod : (way : Int) % (x.args.length : Int) = (k : Int) := by rw [← hkdef]; simp
    obtain ⟨m, hm⟩ : ∃ m, way / 2 = m := ⟨_, rfl⟩
    have hdiv : (way : Int) / 2 = (m : Int) := by omega
    have hwrap : IntKind.i64.wrap (m : Int) = (m : Int) := by rw [IntKind.wrap_i64]; omega
    have hpos : (0 : Int) < (x.args.length : Int) := by omega
    have e0 : ((x.args.length : Int) == 0) = false := by rw [beq_eq_false_iff_ne]; omega
    have e0' : ((way : Int) == 0) = false := by rw [beq_eq_false_iff_ne]; omega
    have hmod' : Int.tmod (way : Int) (x.args.length : Int) = (k : Int) := by rw [← hmod]; exact Int.tmod_eq_emod_of_nonneg (by omega)
    have hdiv' : Int.tdiv (way : Int) 2 = (m : Int) := by rw [← hdiv]; exact Int.tdiv_eq_ediv_of_nonneg (by omega)
    have hwrapk : IntKind.i64.wrap (k : Int) = (k : Int) := by rw [IntKind.wrap_i64]; omega
    have hpos' : 0 < x.args.length := by omega
    have hlt : (k : Int) < (x.args.length : Int) := by omega
    have hk0 : (0 : Int) ≤ (k : Int) := by omega
    have B2 := two_below w (.cells #[.int .u8 (x.op : Int), .int .i64 x.n, .string x.name, .slice (some ⟨b, o, none⟩) x.args.length cap] 30) (.cells #[.int .u8 0, .int .i64 0, .string ⟨#[]⟩, .slice none 0 0] 30)
    have SC := hid fun j u hj => cell_kept (hcell _ rfl j u hj) (bstep hB B2)
    have HP2 := hid (show Put0 w #[.int .u8 (x.op : Int), .int .i64 x.n, .string x.name, .slice (some ⟨b, o, none⟩) x.args.length cap] #[.int .u8 0, .int .i64 0, .string ⟨#[]⟩, .slice none 0 0] (.slice none 0 0) [] ((w.alloc (.cells #[.int .u8 (x.op : Int), .int .i64 x.n, .string x.name, .slice (some ⟨b, o, none⟩) x.args.length cap] 30)).alloc (.cells #[.int .u8 0, .int .i64 0, .string ⟨#[]⟩, .slice none 0 0] 30)) from ⟨B2, first_row _ _ _ _ _, two_rows _ _ _ _ _, World.ownsRow_nil _ _ _ _⟩)
    have HB := hid hB
    have HST := hid hst
    have HN := hid hn
    have HMM := hid (modify_map hps k hk fun y => chX f y m)
    have hy : ∃ y sy, ps[k]? = some (y, sy) ∧ x.args[k] = y := ⟨ps[k].1, ps[k].2, by rw [List.getElem?_eq_getElem (by omega)], by simp [← hps]⟩
    obtain ⟨y, sy, hyk, hyx⟩ := hy
    rw [hyx] at HMM
    have HM2 : Hid (∀ s, (ps.set k (chX f y m, s)).map (·.1) = x.args.modify k fun y => chX f y m) := hid fun s => HMM.out s
    clear HMM
    have hys : St w0 y sy := hst (y, sy) (List.mem_of_getElem? hyk)
    have ihy := hid fun W (hb : Below w0.heap.size w0 W) => ih y m w0 W sy (by omega) (by omega) hys hb
    obtain ⟨ay, cy, _, rfl, _⟩ := hys.out
    obtain ⟨q0, q1, q2, q3⟩ := pairsV_at ps [] k (by omega)
    rw [List.append_nil] at q0 q1 q2 q3
    have e1 : ps[k]'(by omega) = (y, .slice ay y.args.length cy) := by rw [List.getElem?_eq_getElem (by omega)] at hyk; exact Option.some.inj hyk
    rw [e1] at q0 q1 q2 q3
    have HQ := hid (And.intro q0 (And.intro q1 (And.intro q2 q3)))
    obtain ⟨i0, hi, hi0, hi1, hi2⟩ := info_parts info25'
    rw [hkdef, hm]
    clear hS hst hcell hB B2 hn hc hcond hf e hys q0 q1 q2 q3 e1 hyk hyx hkdef hm
    generalize (x.args.modify k fun y => chX f y m) = A' at *
    generalize chX f y m = z at *
    go_enter Tryd.func25, Tryd.ntmps25
    go_wp2_with (first
      | (at_builtin; refine wpList_append_own _ rfl (.const (.slice none 0 0)) (.tmp 22) 28 rfl (w.heap.size + 2) 30 i0 _ 4 56 Tryd.underlying28 hi hi0 hi1 hi2 rfl (by decide) (.slice none 0 0) 0 [] rfl HP2.out.row ⟨b, o, none⟩ x.args.length cap (pairsV ps) rfl (by rw [pairsV_len, hpl]) SC.out hone (by unfold maxLen; omega) (by omega) (by simp) ?_; intro v3 W3 hown3 hgrow3 _; rw [Nat.zero_add] at hown3; obtain ⟨g3, c3, rfl⟩ := row_pos hown3 hpos'; have P3 := hid (HP2.out.grown (ps' := ps) hgrow3 (by rw [hpl]; simpa using hown3)); have hr3 := P3.out.row; rw [hpl] at hr3; have y0 := (hr3.cellAt (k * 4) (by omega)).trans HQ.out.1; have y1 := (hr3.cellAt (k * 4 + 1) (by omega)).trans HQ.out.2.1; have y2 := (hr3.cellAt (k * 4 + 2) (by omega)).trans HQ.out.2.2.1; have y3 := (hr3.cellAt (k * 4 + 3) (by omega)).trans HQ.out.2.2.2; have B3 := hid (bstep HB.out P3.out.below); dsimp only at y0 y1 y2 y3; clear hown3 hgrow3 HP2 hr3)
      | (go_at_call 25; refine (ihy.out _ B3.out).mono ?_; rintro e w4 ⟨s4, rfl, hb4, hst4⟩; have st4 := hst4 w4 (bstep B3.out hb4) (fun _ _ _ => rfl); obtain ⟨a4, c4, _, rfl, _⟩ := st4.out; have P4 := hid (P3.out.later hb4); have TH := there4 P4.out.row hpl hk; have HX4 := hid hst4; have HB4 := hid hb4; clear hb4 hst4 st4 y0 y1 y2 y3)
      | (refine wpList_store_mid rfl 30 _ _ rfl g3 (k * 4) #[.int .u8 (z.op : Int), .int .i64 z.n, .string z.name, .slice a4 z.args.length c4] rfl rfl TH info30 (by simp [Value.oneCell']) ?_; have F5 := four_set (k := k) P4.out z a4 c4 hpl.symm; generalize (w4.setCells g3 (k * 4) (#[.int .u8 (z.op : Int), .int .i64 z.n, .string z.name, .slice a4 z.args.length c4] : Array Value).toList) = W5 at *; obtain ⟨P5, Z5, O5⟩ := F5; have P5 := hid P5; have Z5 := hid Z5; have O5 := hid O5; have x3 : W5.cell? ⟨w.heap.size, 3, none⟩ = some (.slice (some ⟨b, o, none⟩) x.args.length cap) := (by rw [cell_of_row _ _ _ _ 30 (0, 0) P5.out.one]; rfl); have f3 := frozen_of_row W5 w.heap.size 3 _ 30 P5.out.one; have hX5 := heap_setCell_same W5 w.heap.size 3 _ 30 (.slice (some ⟨g3, 0, none⟩) x.args.length c3) P5.out.one; have hY5 : (W5.setCell ⟨w.heap.size, 3, none⟩ (.slice (some ⟨g3, 0, none⟩) x.args.length c3)).heap[w.heap.size + 1]? = some (.cells #[.int .u8 0, .int .i64 0, .string ⟨#[]⟩, .slice none 0 0] 30 (0, 0)) := (by rw [Below.heap_setCell _ _ _ _ (by show w.heap.size + 1 ≠ w.heap.size; omega)]; exact P5.out.two); clear TH)
      | (refine wpList_load_row rfl 30 _ rfl w.heap.size rfl 30 #[.int .u8 (x.op : Int), .int .i64 x.n, .string x.name, .slice (some ⟨g3, 0, none⟩) x.args.length c3] (0, 0) _ hX5 Tryd.underlying30 rfl info30 ?_)
      | (refine wpList_store_row rfl 30 _ _ rfl (w.heap.size + 1) #[.int .u8 (x.op : Int), .int .i64 x.n, .string x.name, .slice (some ⟨g3, 0, none⟩) x.args.length c3] rfl rfl 30 _ hY5 info30 rfl (by simp [Value.oneCell']) ?_))
    have D5 := (P5.out.done (w0 := w0) (d' := #[.int .u8 (x.op : Int), .int .i64 x.n, .string x.name, .slice (some ⟨g3, 0, none⟩) x.args.length c3]) hop HN.out hnm (by rw [List.length_set]; omega) (fun V hV hb p hp => by
      rcases List.mem_or_eq_of_mem_set hp with hp | hp
      · exact (HST.out p hp).keep hV
      · rw [hp]
        refine HX4.out V hV fun c h1 h2 => ?_
        have hg := (P3.out.row.lt g3 rfl).2
        have hs := (Array.getElem?_eq_some_iff.1 P3.out.two).1
        rw [hb c (by omega) (by have := Z5.out; omega) (by intro e; have e' : some c = some g3 := e; injection e' with e'; omega), O5.out c (by omega)]) (by have := (Array.getElem?_eq_some_iff.1 P5.out.two).1; omega))
    rw [HM2.out] at D5
    exact bodyPost_ret (results_cell_row rfl _ _ (w.heap.size + 1) 30 #[.int .u8 (x.op : Int), .int .i64 x.n, .string x.name, .slice (some ⟨g3, 0, none⟩) x.args.length c3] (0, 0) _ rfl (setRow_heap _ _ _ _ _ _ hY5) Tryd.underlying30 rfl info30) rfl ⟨_, rfl, D5.1, D5.2⟩
theorem ch_zero : ChC 0 := by
  intro x way w0 w s hf hwy hS hB
  exact ch_leaf x way w0 w s hS (.inr (by omega)) hwy
/-- changed. -/
theorem ch_all : ∀ f, ChC f
  | 0 => ch_zero
  | f + 1 => ch_step f (ch_all f)
end Go.Proofs.YtejacmgppnafcaaDoor.Lex
namespace Go.Proofs.YtejacmgppnafcaaDoor.Lex
theorem nmz_leaf : ∀ k, nmz k exO = []
  | 0 => rfl
  | _ + 1 => rfl
theorem flat_modify {g : Ex → Ex} {f h : Ex → List ByteArray} : ∀ (l : List Ex) (k : Nat), (∀ a, l[k]? = some a → ∀ s ∈ f (g a), s ∈ h a) → (∀ a s, s ∈ f a → s ∈ h a) → ∀ s ∈ (l.modify k g).flatMap f, s ∈ l.flatMap h
  | [], k, _, _, s, hs => by simp at hs
  | a :: l, 0, h1, h2, s, hs => by
    simp only [List.modify_zero_cons, List.flatMap_cons, List.mem_append] at hs ⊢
    rcases hs with hs | hs
    · exact .inl (h1 a rfl s hs)
    · refine .inr ?_
      obtain ⟨b, hb, hs⟩ := List.mem_flatMap.1 hs
      exact List.mem_flatMap.2 ⟨b, hb, h2 b s hs⟩
  | a :: l, k + 1, h1, h2, s, hs => by
    simp only [List.modify_succ_cons, List.flatMap_cons, List.mem_append] at hs ⊢
    rcases hs with hs | hs
    · exact .inl (h2 a s hs)
    · exact .inr (flat_modify l k (fun b hb => h1 b (by simpa using hb)) h2 s hs)
theorem ch_nmz : ∀ (f : Nat) (x : Ex) (way k : Nat), ∀ s ∈ nmz k (chX f x way), s ∈ nmz k x
  | 0, x, way, k, s, hs => by rw [chX, nmz_leaf] at hs; cases hs
  | f + 1, x, way, 0, s, hs => by simp [nmz] at hs
  | f + 1, x, way, k + 1, s, hs => by
    rw [chX] at hs
    by_cases hc : x.args.length = 0 ∨ way = 0
    · rw [if_pos hc, nmz_leaf] at hs; cases hs
    · rw [if_neg hc] at hs
      rw [nmz] at hs ⊢
      rcases List.mem_append.1 hs with hs | hs
      · exact List.mem_append.2 (.inl hs)
      · exact List.mem_append.2 (.inr (flat_modify x.args _ (fun a _ s hs => ch_nmz f a (way / 2) k s hs) (fun _ _ h => h) s hs))
theorem sz_pos {d m : Nat} {x : Ex} {k : Nat} (h : sz d m x = some k) : 1 ≤ d ∧ 1 ≤ m ∧ 1 ≤ k := by
  cases d with
  | zero => simp [sz] at h
  | succ d =>
    unfold sz at h
    by_cases hc : m = 0 ∨ fieldsOk x.op x.n x.name x.args.length = false
    · rw [if_pos hc] at h; cases h
    · rw [if_neg hc] at h
      have hm : m ≠ 0 := fun e => hc (.inl e)
      have key : ∀ (l : List Ex) (n k : Nat), szL (sz d) m n l = some k → n ≤ k := by
        intro l
        induction l with
        | nil => intro n k h; simp [szL] at h; omega
        | cons a l ih =>
          intro n k h
          simp only [szL] at h
          cases e : sz d (m - n) a with
          | none => rw [e] at h; cases h
          | some j => rw [e] at h; have := ih _ _ h; omega
      exact ⟨by omega, by omega, key _ _ _ h⟩
theorem szL_less {d m : Nat} {g : Ex → Ex} : ∀ (l : List Ex) (j n n' k : Nat), (∀ a, l[j]? = some a → ∀ m' k', sz d m' a = some k' → ∃ k'', k'' ≤ k' ∧ sz d m' (g a) = some k'') → n' ≤ n → szL (sz d) m n l = some k → ∃ k', k' ≤ k ∧ szL (sz d) m n' (l.modify j g) = some k'
  | [], j, n, n', k, _, hn, h => by
    simp [szL] at h
    exact ⟨n', by omega, by simp [szL]⟩
  | a :: l, j, n, n', k, hg, hn, h => by
    simp only [szL] at h
    cases e : sz d (m - n) a with
    | none => rw [e] at h; cases h
    | some ka =>
      rw [e] at h
      have e' := sz_mono d d (Nat.le_refl _) (m - n) (m - n') a ka (by omega) e
      cases j with
      | zero =>
        obtain ⟨kb, hkb, eb⟩ := hg a rfl _ _ e'
        obtain ⟨kc, hkc, ec⟩ := szL_less (g := fun y => y) l 0 (n + ka) (n' + kb) k (fun a _ m' k' h => ⟨k', Nat.le_refl _, h⟩) (by omega) h
        refine ⟨kc, hkc, ?_⟩
        simp only [List.modify_zero_cons, szL, eb]
        have hid : l.modify 0 (fun y : Ex => y) = l := by cases l <;> simp
        rw [hid] at ec
        exact ec
      | succ j =>
        obtain ⟨kc, hkc, ec⟩ := szL_less l j (n + ka) (n' + ka) k (fun b hb => hg b (by simpa using hb)) (by omega) h
        refine ⟨kc, hkc, ?_⟩
        simp only [List.modify_succ_cons, szL, e']
        exact ec
theorem leaf_sz {d m : Nat} (hd : 1 ≤ d) (hm : 1 ≤ m) : sz d m exO = some 1 := by
  obtain ⟨d, rfl⟩ : ∃ e, d = e + 1 := ⟨d - 1, by omega⟩
  unfold sz
  rw [if_neg (by rintro (h | h); · omega
                 · revert h; decide +kernel)]
  rfl
theorem ch_sz : ∀ (f : Nat) (x : Ex) (way d m k : Nat), sz d m x = some k → ∃ k', k' ≤ k ∧ sz d m (chX f x way) = some k'
  | 0, x, way, d, m, k, h => by
    have := sz_pos h
    exact ⟨1, this.2.2, leaf_sz this.1 this.2.1⟩
  | f + 1, x, way, d, m, k, h => by
    have hp := sz_pos h
    rw [chX]
    by_cases hc : x.args.length = 0 ∨ way = 0
    · rw [if_pos hc]
      exact ⟨1, hp.2.2, leaf_sz hp.1 hp.2.1⟩
    · rw [if_neg hc]
      obtain ⟨d, rfl⟩ : ∃ e, d = e + 1 := ⟨d - 1, by omega⟩
      unfold sz at h
      by_cases h2 : m = 0 ∨ fieldsOk x.op x.n x.name x.args.length = false
      · rw [if_pos h2] at h; cases h
      · rw [if_neg h2] at h
        obtain ⟨k', hk', e⟩ := szL_less x.args (way % x.args.length) 1 1 k (g := fun y => chX f y (way / 2)) (fun a _ m' k' h => ch_sz f a (way / 2) d m' k' h) (Nat.le_refl _) h
        refine ⟨k', hk', ?_⟩
        unfold sz
        rw [if_neg (by rw [List.length_modify]; exact h2)]
        exact e
theorem fold_less {g : Ex → Ex} : ∀ (l : List Ex) (k a a' : Nat), (∀ y, l[k]? = some y → stE (g y) ≤ stE y) → a ≤ a' → ((l.modify k g).map stE).foldl max a ≤ (l.map stE).foldl max a'
  | [], k, a, a', _, h => by simpa using h
  | y :: l, 0, a, a', hg, h => by
    have h1 := hg y rfl
    simp only [List.modify_zero_cons, List.map_cons, List.foldl_cons]
    have key : ∀ (ts : List Nat) (b b' : Nat), b ≤ b' → ts.foldl max b ≤ ts.foldl max b' := by
      intro ts
      induction ts with
      | nil => intro b b' hb; exact hb
      | cons t ts ih => intro b b' hb; exact ih _ _ (by omega)
    exact key _ _ _ (by omega)
  | y :: l, k + 1, a, a', hg, h => by
    simp only [List.modify_succ_cons, List.map_cons, List.foldl_cons]
    exact fold_less l k _ _ (fun z hz => hg z (by simpa using hz)) (by omega)
theorem head_less {g : Ex → Ex} (l : List Ex) (k : Nat) (hg : ∀ y, l[k]? = some y → stE (g y) ≤ stE y) : ((l.modify k g).map stE).headD 0 ≤ (l.map stE).headD 0 := by
  cases l with
  | nil => simp
  | cons y l =>
    cases k with
    | zero => simpa using hg y rfl
    | succ k => simp
theorem second_less {g : Ex → Ex} (l : List Ex) (k : Nat) (hg : ∀ y, l[k]? = some y → stE (g y) ≤ stE y) : (((l.modify k g).map stE).drop 1).headD 0 ≤ ((l.map stE).drop 1).headD 0 := by
  cases l with
  | nil => simp
  | cons y l =>
    cases k with
    | zero => simp
    | succ k =>
      simp only [List.modify_succ_cons, List.map_cons, List.drop_succ_cons, List.drop_zero]
      exact head_less l k (fun z hz => hg z (by simpa using hz))
theorem beg_less {a a' b b' : Nat} (h1 : a' ≤ a) (h2 : b' ≤ b) : beg a' b' ≤ beg a b := by
  unfold beg
  split <;> split <;> omega
theorem stO_zero : stE exO = 0 := by rw [stE_eq]; rfl
theorem ch_less : ∀ (f : Nat) (x : Ex) (way : Nat), stE (chX f x way) ≤ stE x
  | 0, x, way => by rw [chX, stO_zero]; omega
  | f + 1, x, way => by
    rw [chX]
    by_cases hc : x.args.length = 0 ∨ way = 0
    · rw [if_pos hc, stO_zero]; omega
    · rw [if_neg hc, stE_eq, stE_eq x]
      show (if (x.args.modify (way % x.args.length) fun y => chX f y (way / 2)).length = 0 then 0 else ruleS x.op ((x.args.modify (way % x.args.length) fun y => chX f y (way / 2)).map stE)) ≤ _
      rw [List.length_modify, if_neg (fun h => hc (.inl h)), if_neg (fun h => hc (.inl h))]
      have hg : ∀ y, x.args[way % x.args.length]? = some y → stE (chX f y (way / 2)) ≤ stE y := fun y _ => ch_less f y (way / 2)
      unfold ruleS
      by_cases h1 : x.op = 18
      · rw [if_pos h1, if_pos h1]
        exact beg_less (head_less x.args _ hg) (second_less x.args _ hg)
      · rw [if_neg h1, if_neg h1]
        have hl : lat ((x.args.modify (way % x.args.length) fun y => chX f y (way / 2)).map stE) ≤ lat (x.args.map stE) := fold_less x.args _ 0 0 hg (Nat.le_refl _)
        by_cases h2 : x.op = 19
        · rw [if_pos h2, if_pos h2]; omega
        · rw [if_neg h2, if_neg h2]; exact hl
theorem ch_of (p : Pg) (f : Nat) (x : Ex) (way : Nat) (h : (ofV p x).2 = 0) : ofV p (chX f x way) = (stE (chX f x way), 0) := by
  obtain ⟨h1, h2⟩ := (of_zero p x).1 h
  refine of_ok ?_ ?_
  · unfold chk at h1 ⊢
    obtain ⟨k, hk⟩ := Option.isSome_iff_exists.1 h1
    obtain ⟨k', _, e'⟩ := ch_sz f x way 32 200 k hk
    rw [e']; rfl
  · rw [asks_nmz] at h2 ⊢
    exact fun s hs => h2 s (ch_nmz f x way 32 s hs)
end Go.Proofs.YtejacmgppnafcaaDoor.Lex
namespace Go.Proofs.YtejacmgppnafcaaDoor.Lex
theorem nat_c {n : Int} (h : (Lit.int .u8 n).wf = true) : ∃ k : Nat, k < 256 ∧ n = (k : Int) := by
  simp [Lit.wf, IntKind.min, IntKind.max, IntKind.signed, IntKind.bits] at h
  exact ⟨n.toNat, by omega, by omega⟩
end Go.Proofs.YtejacmgppnafcaaDoor.Lex
