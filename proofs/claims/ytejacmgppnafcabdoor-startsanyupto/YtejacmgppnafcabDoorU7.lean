/-
  What has an instant, and what its parts have: plain mathematics.
  Has each flow a value from the beginning on: the contract of starts.Check.
  What the chapter's program has for names, and the instant of something in it: the contracts of name, of, nought, small, is.
  A program of just the names that are asked for: plain mathematics, and its memory.
  How great it is, counted to the end: where it is not greater than so, ExprSize tells just that.
-/
import Derived.Test.YtejacmgppnafcabDoorU6
import Derived.Laws.ResultCell
import Derived.Test.YtejacmgppnafcabDoorU5
import Derived.Maps.AppendAt
import Derived.Test.YtejacmgppnafcabDoorU4
import Derived.Test.YtejacmgppnafcabDoorRows
namespace Go.Proofs.YtejacmgppnafcabDoor.Lex
/-- All that it asks for, as often as it does. -/
def pl : Nat → Ex → Nat → List Rf
  | 0, _, _ => []
  | k + 1, x, ago => (if x.op = 3 then [(x.name, ago)] else []) ++ x.args.flatMap fun y => pl k y (nextAgo x ago)
theorem foldl_flat {α β γ : Type} (f : β → γ → β) (g : α → List γ) : ∀ (l : List α) (b : β), l.foldl (fun b a => (g a).foldl f b) b = (l.flatMap g).foldl f b
  | [], _ => rfl
  | a :: l, b => by simp only [List.foldl_cons, List.flatMap_cons, List.foldl_append]; exact foldl_flat f g l _
theorem gat_pl : ∀ (k : Nat) (x : Ex) (ago : Nat) (acc : List Rf), gat k x ago acc = (pl k x ago).foldl addR acc
  | 0, _, _, _ => rfl
  | k + 1, x, ago, acc => by
    have e : (fun (acc : List Rf) (y : Ex) => gat k y (nextAgo x ago) acc) = fun acc y => (pl k y (nextAgo x ago)).foldl addR acc := by
      funext acc y
      exact gat_pl k y (nextAgo x ago) acc
    rw [gat, pl, e, foldl_flat addR (fun y => pl k y (nextAgo x ago)), List.foldl_append]
    congr 1
    unfold ownRefs
    split <;> rfl
theorem addR_mem (acc : List Rf) (r : Rf) (s : Rf) : s ∈ addR acc r ↔ s ∈ acc ∨ s = r := by
  unfold addR
  split
  · rename_i h
    constructor
    · exact .inl
    · rintro (h1 | rfl)
      · exact h1
      · exact rIn_mem.1 h
  · simp
theorem addR_in {acc : List Rf} {r : Rf} (h : r ∈ acc) : addR acc r = acc := by unfold addR; rw [if_pos (rIn_mem.2 h)]
theorem addR_new {acc : List Rf} {r : Rf} (h : r ∉ acc) : addR acc r = acc ++ [r] := by unfold addR; rw [if_neg (fun h' => h (rIn_mem.1 h'))]
theorem fold_mem : ∀ (l acc : List Rf) (s : Rf), s ∈ l.foldl addR acc ↔ s ∈ acc ∨ s ∈ l
  | [], acc, s => by simp
  | r :: l, acc, s => by rw [List.foldl_cons, fold_mem l, addR_mem, List.mem_cons, or_assoc]
theorem gat_mem (k : Nat) (x : Ex) (ago : Nat) (r : Rf) : r ∈ gat k x ago [] ↔ r ∈ pl k x ago := by
  rw [gat_pl, fold_mem]
  simp
/-- The names that it asks for. -/
def nmz : Nat → Ex → List ByteArray
  | 0, _ => []
  | k + 1, x => (if x.op = 3 then [x.name] else []) ++ x.args.flatMap (nmz k)
theorem pl_nmz : ∀ (k : Nat) (x : Ex) (ago : Nat), (pl k x ago).map (·.1) = nmz k x
  | 0, _, _ => rfl
  | k + 1, x, ago => by
    rw [pl, nmz, List.map_append]
    congr 1
    · split <;> rfl
    · rw [List.map_flatMap]
      congr 1
      funext y
      exact pl_nmz k y (nextAgo x ago)
theorem asks_nmz (p : Pg) (x : Ex) : asksAll p x = true ↔ ∀ s ∈ nmz 32 x, (findT (thingsL p) s).isSome = true := by
  unfold asksAll
  rw [List.all_eq_true]
  constructor
  · intro h s hs
    rw [← pl_nmz 32 x 0] at hs
    obtain ⟨r, hr, rfl⟩ := List.mem_map.1 hs
    exact h r ((gat_mem 32 x 0 r).2 hr)
  · intro h r hr
    exact h r.1 (by rw [← pl_nmz 32 x 0]; exact List.mem_map.2 ⟨r, (gat_mem 32 x 0 r).1 hr, rfl⟩)
theorem nmz_deep : ∀ (d : Nat) (x : Ex), okD d x → nmz (d + 1) x = nmz d x
  | 0, _, h => h.elim
  | d + 1, x, h => by
    rw [nmz, nmz]
    congr 1
    have key : ∀ l : List Ex, (∀ y ∈ l, okD d y) → l.flatMap (nmz (d + 1)) = l.flatMap (nmz d) := by
      intro l
      induction l with
      | nil => intro _; rfl
      | cons a l ih => intro hl; rw [List.flatMap_cons, List.flatMap_cons, nmz_deep d a (hl a (List.mem_cons_self ..)), ih fun y hy => hl y (List.mem_cons_of_mem _ hy)]
    exact key x.args h.2
theorem szL_mono {f g : Nat → Ex → Option Nat} (h : ∀ m m' a j, m ≤ m' → f m a = some j → g m' a = some j) (m m' : Nat) (hm : m ≤ m') : ∀ (l : List Ex) (n k : Nat), szL f m n l = some k → szL g m' n l = some k
  | [], n, k, hs => by simpa [szL] using hs
  | a :: l, n, k, hs => by
    simp only [szL] at hs ⊢
    cases e : f (m - n) a with
    | none => rw [e] at hs; cases hs
    | some j =>
      rw [e] at hs
      rw [h (m - n) (m' - n) a j (by omega) e]
      exact szL_mono h m m' hm l _ k hs
theorem sz_mono : ∀ (d d' : Nat), d ≤ d' → ∀ (m m' : Nat) (x : Ex) (k : Nat), m ≤ m' → sz d m x = some k → sz d' m' x = some k
  | 0, _, _, _, _, _, _, _, h => by simp [sz] at h
  | d + 1, 0, hd, _, _, _, _, _, _ => by omega
  | d + 1, d' + 1, hd, m, m', x, k, hm, h => by
    unfold sz at h ⊢
    by_cases hc : m = 0 ∨ fieldsOk x.op x.n x.name x.args.length = false
    · rw [if_pos hc] at h; cases h
    · rw [if_neg hc] at h
      rw [if_neg (fun h' => hc (by rcases h' with h' | h'; · exact .inl (by omega)
                                   · exact .inr h'))]
      exact szL_mono (fun a b y j hab hj => sz_mono d d' (by omega) a b y j hab hj) m m' hm x.args 1 k h
theorem chk_part {x y : Ex} (h : chk x = true) (hy : y ∈ x.args) : chk y = true := by
  unfold chk at h ⊢
  obtain ⟨k, hk⟩ := Option.isSome_iff_exists.1 h
  unfold sz at hk
  by_cases hc : 200 = 0 ∨ fieldsOk x.op x.n x.name x.args.length = false
  · rw [if_pos hc] at hk; cases hk
  · rw [if_neg hc] at hk
    have key : ∀ (l : List Ex) (n k : Nat), szL (sz 31) 200 n l = some k → y ∈ l → (sz 32 200 y).isSome = true := by
      intro l
      induction l with
      | nil => intro n k _ hy; cases hy
      | cons a l ih =>
        intro n k hs hy
        simp only [szL] at hs
        cases e : sz 31 (200 - n) a with
        | none => rw [e] at hs; cases hs
        | some j =>
          rw [e] at hs
          rcases List.mem_cons.1 hy with rfl | hy
          · rw [sz_mono 31 32 (by omega) (200 - n) 200 y j (by omega) e]; rfl
          · exact ih _ _ hs hy
    exact key x.args 1 k hk hy
theorem asks_part {p : Pg} {x y : Ex} (h : chk x = true) (ha : asksAll p x = true) (hy : y ∈ x.args) : asksAll p y = true := by
  rw [asks_nmz] at ha ⊢
  intro s hs
  have ho := chk_ok h
  have h31 : okD 31 y := ho.2 y hy
  rw [nmz_deep 31 y h31] at hs
  refine ha s ?_
  rw [nmz]
  exact List.mem_append.2 (.inr (List.mem_flatMap.2 ⟨y, hy, hs⟩))
theorem of_zero (p : Pg) (x : Ex) : (ofV p x).2 = 0 ↔ chk x = true ∧ asksAll p x = true := by
  unfold ofV
  by_cases h1 : chk x = false
  · rw [if_pos h1]; simp [h1]
  · rw [if_neg h1]
    have h1' : chk x = true := by simpa using h1
    by_cases h2 : asksAll p x = false
    · rw [if_pos h2]; simp [h2]
    · rw [if_neg h2]
      have h2' : asksAll p x = true := by simpa using h2
      simp [h1', h2']
theorem of_ok {p : Pg} {x : Ex} (h1 : chk x = true) (h2 : asksAll p x = true) : ofV p x = (stE x, 0) := by
  unfold ofV
  rw [if_neg (by rw [h1]; simp), if_neg (by rw [h2]; simp)]
theorem of_not {p : Pg} {x : Ex} (h : (ofV p x).2 ≠ 0) : (ofV p x).1 = 0 ∧ (decide ((ofV p x).2 = 1) = !chk x) := by
  unfold ofV at h ⊢
  by_cases h1 : chk x = false
  · rw [if_pos h1]; simp [h1]
  · rw [if_neg h1] at h ⊢
    have h1' : chk x = true := by simpa using h1
    by_cases h2 : asksAll p x = false
    · rw [if_pos h2]; simp [h1']
    · rw [if_neg h2] at h; exact (h rfl).elim
theorem of_part {p : Pg} {x y : Ex} (h : (ofV p x).2 = 0) (hy : y ∈ x.args) : ofV p y = (stE y, 0) := by
  obtain ⟨h1, h2⟩ := (of_zero p x).1 h
  exact of_ok (chk_part h1 hy) (asks_part h1 h2 hy)
end Go.Proofs.YtejacmgppnafcabDoor.Lex
namespace Go.Proofs.YtejacmgppnafcabDoor.Lex
open Go.ChangeShapes Go.WideShapes Go.ChangeAt Go.RowKit Go.Joins
/-- Has a flow one? -/
def flS (f : Fl) : Bool := decide (stE f.body = 0)
/-- What starts.Check answers. -/
def ckV (p : Pg) : Int := if nmErr p = 0 then (if p.flows.all flS then 0 else 9) else nmErr p
theorem nmErr_ok {p : Pg} (h : nmErr p = 0) : pgOk p = true := by
  unfold nmErr at h
  by_cases hp : pgOk p = true
  · exact hp
  · rw [if_neg hp] at h; omega
set_option maxRecDepth 100000 in
set_option maxHeartbeats 4000000 in
theorem starts_check (p : Pg) (w : World) (A B C : Value) (hP : PgAt w p A B C) (hR : TabR w) (hJ : TabJ w) : Calls Tryd.prog 16 #[pgV p A B C] w fun e w' => e = .returned (.int .i64 (ckV p)) ∧ Below w.heap.size w w' := by
  have X0 := hid (FV.new hP hR hJ)
  obtain ⟨ao, cap, sl0, rfl, _⟩ := hP.flows
  clear hP hR hJ
  go_enter Tryd.func16, Tryd.ntmps16
  go_wp2_with (fail)
  refine ((callsIn_wide (n := 20)).1 (names_check p _ _ _ _ X0.out.P X0.out.R X0.out.J)).mono ?_
  rintro e w1 ⟨rfl, hb1⟩
  have X1 := hid (X0.out.keep hb1)
  clear hb1 X0
  by_cases hn : nmErr p = 0
  · have HK := hid (pgOk_chk (nmErr_ok hn))
    have HOV : Hid (ckV p = if p.flows.all flS then 0 else 9) := hid (by unfold ckV; rw [if_pos hn])
    rw [hn]
    clear hn
    go_wp2_with (fail)
    refine (rules _).mono ?_
    rintro e w2 ⟨ab, rfl, hasks, hb2⟩
    have X2 := hid (X1.out.keep hb2)
    have AS := hid hasks
    obtain ⟨s0, s1, s2, s3⟩ := row4 X2.out.row
    clear hb2 hasks X1
    go_wp2_with (fail)
    clear s0 s1 s2 s3
    obtain ⟨ao', cap', sl, heq, hlen, _, hok, hc, hs⟩ := X2.out.P.flows
    obtain ⟨rfl, rfl⟩ : ao = ao' ∧ cap = cap' := by simpa using heq
    have HC := hid hc
    have HS := hid hs
    clear hc hs hok heq
    go_loopw [16] (fun i wr => ∃ r : Nat, r ≤ p.flows.length ∧ i = .int .i64 (r : Int) ∧ Hid (∀ z ∈ p.flows.take r, flS z = true) ∧ Hid (Below w2.heap.size w2 wr)) (fun i _ => p.flows.length - (intOf i).toNat)
    case atStart => exact ⟨0, Nat.zero_le _, rfl, hid (by simp), hid (Below.refl _ _)⟩
    case round =>
      obtain ⟨r, hr, rfl, HE, hB⟩ := hrel
      have FX := hid (X2.out.keep hB.out)
      by_cases hrl : r < p.flows.length
      · have hrl' : (r : Int) < (p.flows.length : Int) := by omega
        have hr0 : (0 : Int) ≤ (r : Int) := by omega
        obtain ⟨gb, go, rfl, hcc⟩ := HC.out.resolve_left (by omega)
        obtain ⟨y0, y1, y2, y3, y4, y5, y6, y7⟩ := (hcc r hrl).keep hB.out
        have HTK := hid (List.take_succ_eq_append_getElem hrl)
        have HMG := hid (List.getElem_mem hrl)
        have HST := hid ((HS.out r hrl).keep hB.out)
        clear hcc
        generalize sl r = sv at *
        generalize hy : p.flows[r] = y at *
        clear hy
        obtain ⟨sa, sc, _, rfl, _⟩ := HST.out.out
        have BA := hid ((Below.refl wr.heap.size wr).alloc (Nat.le_refl _) (.cells #[.string y.name, .int .u8 (y.ty : Int), .int .i64 y.st, .int .i64 y.df, .int .u8 (y.body.op : Int), .int .i64 y.body.n, .string y.body.name, .slice sa y.body.args.length sc] 40))
        have FA := hid (FX.out.keep BA.out)
        have c35 := start_of y.body (HK.out y HMG.out) _ _ ab (AS.out.keep (hB.out.trans (BA.out.mono hB.out.size))) (HST.out.keep BA.out)
        go_wp2_with (fail)
        refine c35.mono ?_
        rintro e w3 ⟨rfl, hb3⟩
        have X3 := hid (FA.out.keep hb3)
        have HB3 := hid (hB.out.trans ((bstep BA.out hb3).mono hB.out.size))
        clear y0 y1 y2 y3 y4 y5 y6 y7 c35 hb3
        by_cases ht : stE y.body = 0
        · have HE2 : Hid (∀ q ∈ p.flows.take (r + 1), flS q = true) := hid (fun q hq => by
            rw [HTK.out] at hq
            rcases List.mem_append.1 hq with h | h
            · exact HE.out q h
            · rw [List.mem_singleton.1 h]; unfold flS; rw [ht]; rfl)
          rw [ht]
          clear ht
          go_wp2_with (fail)
          go_roundw
          case rel => exact ⟨r + 1, by omega, by go_num, HE2, HB3⟩
          case measure => simp [intOf]; omega
        · have ht' : (0 : Int) < (stE y.body : Int) := by omega
          have HV : Hid (ckV p = 9) := hid (by rw [HOV.out, if_neg]; intro h; have := List.all_eq_true.1 h y HMG.out; unfold flS at this; simp [ht] at this)
          generalize stE y.body = ty at *
          clear ht
          go_wp2_with (fail)
          go_ret
          exact ⟨by rw [HV.out]; rfl, X3.out.below⟩
      · have hrl' : ¬ (r : Int) < (p.flows.length : Int) := by omega
        obtain rfl : r = p.flows.length := by omega
        have HV : Hid (ckV p = 0) := hid (by rw [HOV.out, if_pos]; exact List.all_eq_true.2 (fun q hq => HE.out q (by rw [List.take_length]; exact hq)))
        go_wp2_with (fail)
        go_ret
        exact ⟨by rw [HV.out]; rfl, FX.out.below⟩
  · have HV : Hid (ckV p = nmErr p) := hid (by unfold ckV; rw [if_neg hn])
    generalize nmErr p = ne at *
    go_wp2_with (fail)
    go_ret
    exact ⟨by rw [HV.out]; rfl, X1.out.below⟩
end Go.Proofs.YtejacmgppnafcabDoor.Lex
namespace Go.Proofs.YtejacmgppnafcabDoor.Lex
open Go.ChangeShapes Go.WideShapes Go.ChangeAt Go.RowKit Go.Joins
theorem row4e {W : World} {k : Nat} {x : Ex} {D : Value} (h : W.heap[k]? = some (.cells #[.int .u8 (x.op : Int), .int .i64 x.n, .string x.name, D] 30 (0, 0))) : W.cell? ⟨k, 0, none⟩ = some (.int .u8 (x.op : Int)) ∧ W.cell? ⟨k, 1, none⟩ = some (.int .i64 x.n) ∧ W.cell? ⟨k, 2, none⟩ = some (.string x.name) ∧ W.cell? ⟨k, 3, none⟩ = some D :=
  ⟨(cell_of_row _ _ _ _ 30 (0, 0) h).trans rfl, (cell_of_row _ _ _ _ 30 (0, 0) h).trans rfl, (cell_of_row _ _ _ _ 30 (0, 0) h).trans rfl, (cell_of_row _ _ _ _ 30 (0, 0) h).trans rfl⟩
abbrev N0 : Value := .slice none 0 0
theorem st_leaf (W : World) (x : Ex) (ha : x.args = []) (ho : x.op < 256) (hn : -9223372036854775808 ≤ x.n ∧ x.n ≤ 9223372036854775807) (hs : x.name.size ≤ 140737488355328) : St W x N0 := by
  obtain ⟨op, n, nm, args⟩ := x
  subst ha
  exact St.intro ⟨op, n, nm, []⟩ none 0 (fun _ => N0) ho hn hs (by simp) (by simp) (.inl rfl) (fun i hi => absurd hi (Nat.not_lt_zero i))
/-- The number 0. -/
abbrev exO : Ex := ⟨1, 0, ⟨#[]⟩, []⟩
theorem stO (W : World) : St W exO N0 := st_leaf W exO rfl (by decide) (by decide) (by show (0 : Nat) ≤ _; omega)
/-- The chapter's program, with a flow of a body. -/
def smP (x : Ex) : Pg := ⟨1, [⟨⟨#[97]⟩, 1, 1⟩], [⟨⟨#[120]⟩, 1, 1, 0, x⟩], []⟩
abbrev smF (x : Ex) (s : Value) : Array Value := #[.string ⟨#[120]⟩, .int .u8 1, .int .i64 1, .int .i64 0, .int .u8 (x.op : Int), .int .i64 x.n, .string x.name, s]
abbrev smI : Array Value := #[.string ⟨#[97]⟩, .int .u8 1, .int .i64 1]
theorem pg_small {W : World} {b : Nat} {x : Ex} {s : Value} (h : W.heap[b]? = some (.cells smI 63 (0, 0))) (hf : W.heap[b + 1]? = some (.cells (smF x s) 40 (0, 0))) (hS : St W x s) : PgAt W (smP x) (.slice (some ⟨b, 0, none⟩) 1 1) (.slice (some ⟨b + 1, 0, none⟩) 1 1) N0 where
  ins := by
    refine ⟨some ⟨b, 0, none⟩, 1, rfl, by show (1 : Nat) ≤ _; omega, by show (1 : Nat) ≤ _; omega, ?_, .inr ⟨b, 0, rfl, fun i hi => ?_⟩⟩
    · intro z hz
      obtain rfl := List.mem_singleton.1 hz
      exact ⟨by show (1 : Nat) ≤ _; omega, by decide, by decide, by decide⟩
    · have hi2 : i < 1 := hi
      obtain rfl : i = 0 := by omega
      refine ⟨?_, ?_, ?_⟩ <;> (rw [cell_of_row _ _ _ _ 63 (0, 0) h]; rfl)
  flows := by
    refine ⟨some ⟨b + 1, 0, none⟩, 1, fun _ => s, rfl, by show (1 : Nat) ≤ _; omega, by show (1 : Nat) ≤ _; omega, ?_, .inr ⟨b + 1, 0, rfl, fun i hi => ?_⟩, fun i hi => ?_⟩
    · intro z hz
      obtain rfl := List.mem_singleton.1 hz
      exact ⟨by show (1 : Nat) ≤ _; omega, by show (1 : Nat) < _; omega, ⟨by show (-9223372036854775808 : Int) ≤ 1; omega, by show (1 : Int) ≤ _; omega⟩, ⟨by show (-9223372036854775808 : Int) ≤ 0; omega, by show (0 : Int) ≤ _; omega⟩⟩
    · have hi2 : i < 1 := hi
      obtain rfl : i = 0 := by omega
      refine ⟨?_, ?_, ?_, ?_, ?_, ?_, ?_, ?_⟩ <;> (rw [cell_of_row _ _ _ _ 40 (0, 0) hf]; rfl)
    · have hi2 : i < 1 := hi
      obtain rfl : i = 0 := by omega
      exact hS
  outs := ⟨none, 0, rfl, by show (0 : Nat) ≤ _; omega, by show (0 : Nat) ≤ _; omega, fun x hx => (List.not_mem_nil hx).elim, .inl rfl⟩
  st := ⟨by show (-9223372036854775808 : Int) ≤ 1; omega, by show (1 : Int) ≤ _; omega⟩
set_option maxRecDepth 100000 in
set_option maxHeartbeats 1000000 in
theorem small_at (x : Ex) (s : Value) (w : World) (hS : St w x s) : Calls Tryd.prog 13 #[exV x s] w fun e w' => ∃ b, e = .returned (pgV (smP x) (.slice (some ⟨b, 0, none⟩) 1 1) (.slice (some ⟨b + 1, 0, none⟩) 1 1) N0) ∧ PgAt w' (smP x) (.slice (some ⟨b, 0, none⟩) 1 1) (.slice (some ⟨b + 1, 0, none⟩) 1 1) N0 ∧ Below w.heap.size w w' := by
  have HS := hid hS
  clear hS
  go_enter Tryd.func13, Tryd.ntmps13
  go_wp2
  have hb := fun o0 o1 o2 o3 => ((((Below.refl w.heap.size w).alloc (by simp; try omega) o0).alloc (by simp; try omega) o1).alloc (by simp; try omega) o2).alloc (by simp; try omega) o3
  refine bodyPost_ret (v := pgV (smP x) (.slice (some ⟨w.heap.size + 1 + 1, 0, none⟩) 1 1) (.slice (some ⟨w.heap.size + 1 + 1 + 1, 0, none⟩) 1 1) N0) ?_ rfl ⟨w.heap.size + 1 + 1, rfl, pg_small (push_old (push_new _ _ _ (by simp))) (push_new _ _ _ (by simp)) (HS.out.keep (hb _ _ _ _)), hb _ _ _ _⟩
  simp [results, Tryd.f13, go_sem]
  rfl
abbrev c30 : Array Value := #[.int .u8 0, .int .i64 0, .string ⟨#[]⟩, .slice none 0 0]
theorem info30 : (Tryd.prog.info? 30).map (·.size) = some 4 := by kernel_rfl
theorem name_at (s : ByteArray) (w : World) : Calls Tryd.prog 11 #[.string s] w fun e w' => e = .returned (exV ⟨3, 0, s, []⟩ (.slice none 0 0)) ∧ Below w.heap.size w w' := by
  have B0 := hid ((Below.refl w.heap.size w).alloc (Nat.le_refl _) (.cells c30 30))
  have X0 := heap_alloc_new w (.cells c30 30)
  go_enter Tryd.func11, Tryd.ntmps11
  go_wp2_with (refine wpList_store_row rfl 30 _ _ rfl w.heap.size #[.int .u8 3, .int .i64 0, .string s, .slice none 0 0] rfl rfl 30 _ X0 info30 rfl (by simp [Value.oneCell']) ?_)
  exact bodyPost_ret (results_cell_row rfl _ _ w.heap.size 30 #[.int .u8 3, .int .i64 0, .string s, .slice none 0 0] (0, 0) _ rfl (setRow_heap _ _ _ _ _ _ X0) Tryd.underlying30 rfl info30) rfl ⟨rfl, below_row B0.out B0.out.size (Nat.le_refl _) _⟩
theorem nought_at (w : World) : Calls Tryd.prog 14 #[] w fun e w' => e = .returned (exV exO N0) ∧ Below w.heap.size w w' := by
  have B0 := hid ((Below.refl w.heap.size w).alloc (Nat.le_refl _) (.cells c30 30))
  have X0 := heap_alloc_new w (.cells c30 30)
  go_enter Tryd.func14, Tryd.ntmps14
  go_wp2_with (refine wpList_store_row rfl 30 _ _ rfl w.heap.size #[.int .u8 1, .int .i64 0, .string ⟨#[]⟩, .slice none 0 0] rfl rfl 30 _ X0 info30 rfl (by simp [Value.oneCell']) ?_)
  exact bodyPost_ret (results_cell_row rfl _ _ w.heap.size 30 #[.int .u8 1, .int .i64 0, .string ⟨#[]⟩, .slice none 0 0] (0, 0) _ rfl (setRow_heap _ _ _ _ _ _ X0) Tryd.underlying30 rfl info30) rfl ⟨rfl, below_row B0.out B0.out.size (Nat.le_refl _) _⟩
/-- of, as a value. -/
theorem of_pl (z : Int) (a : Option Addr) (n c : Nat) (w : World) : Calls Tryd.prog 12 #[.int .u8 z, .slice a n c] w fun e w' => e = .returned (.agg #[.int .u8 z, .int .i64 0, .string ⟨#[]⟩, .slice a n c]) ∧ Below w.heap.size w w' := by
  have B0 := hid ((Below.refl w.heap.size w).alloc (Nat.le_refl _) (.cells c30 30))
  have X0 := heap_alloc_new w (.cells c30 30)
  go_enter Tryd.func12, Tryd.ntmps12
  go_wp2_with (refine wpList_store_row rfl 30 _ _ rfl w.heap.size #[.int .u8 z, .int .i64 0, .string ⟨#[]⟩, .slice a n c] rfl rfl 30 _ X0 info30 rfl (by simp [Value.oneCell']) ?_)
  exact bodyPost_ret (results_cell_row rfl _ _ w.heap.size 30 #[.int .u8 z, .int .i64 0, .string ⟨#[]⟩, .slice a n c] (0, 0) _ rfl (setRow_heap _ _ _ _ _ _ X0) Tryd.underlying30 rfl info30) rfl ⟨rfl, below_row B0.out B0.out.size (Nat.le_refl _) _⟩
/-- Something that is worked out, in its variable. -/
structure XQ (w : World) (x : Ex) (ao : Option Addr) (cap : Nat) (W : World) : Prop where
  row : W.heap[w.heap.size]? = some (.cells #[.int .u8 (x.op : Int), .int .i64 x.n, .string x.name, .slice ao x.args.length cap] 30 (0, 0))
  S : St W x (.slice ao x.args.length cap)
  R : TabR W
  J : TabJ W
  below : Below w.heap.size w W
theorem XQ.keep {w W W' : World} {x : Ex} {ao : Option Addr} {cap : Nat} (h : XQ w x ao cap W) (hb : Below W.heap.size W W') : XQ w x ao cap W' :=
  ⟨keep_row h.row hb, h.S.keep hb, h.R.below hb, h.J.below hb, h.below.trans (hb.mono h.below.size)⟩
theorem XQ.cells {w W : World} {x : Ex} {ao : Option Addr} {cap : Nat} (h : XQ w x ao cap W) : W.cell? ⟨w.heap.size, 0, none⟩ = some (.int .u8 (x.op : Int)) ∧ W.cell? ⟨w.heap.size, 1, none⟩ = some (.int .i64 x.n) ∧ W.cell? ⟨w.heap.size, 2, none⟩ = some (.string x.name) ∧ W.cell? ⟨w.heap.size, 3, none⟩ = some (.slice ao x.args.length cap) := row4e h.row
set_option maxRecDepth 100000 in
set_option maxHeartbeats 2000000 in
theorem is_at (x : Ex) (t : Nat) (ho : ofV (smP exO) x = (t, 0)) (w : World) (s : Value) (hS : St w x s) (hR : TabR w) (hJ : TabJ w) : Calls Tryd.prog 15 #[exV x s, .int .i64 (t : Int)] w fun e w' => e = .returned (.bool true) ∧ Below w.heap.size w w' := by
  obtain ⟨ao, cap, _, rfl, _⟩ := hS.out
  have b0 := (Below.refl w.heap.size w).alloc (Nat.le_refl _) (.cells #[.int .u8 (x.op : Int), .int .i64 x.n, .string x.name, .slice ao x.args.length cap] 30)
  have X0 : Hid (XQ w x ao cap (w.alloc (.cells #[.int .u8 (x.op : Int), .int .i64 x.n, .string x.name, .slice ao x.args.length cap] 30))) := hid ⟨heap_alloc_new w _, hS.keep b0, hR.below b0, hJ.below b0, b0⟩
  have HO := hid ho
  clear b0 hS hR hJ ho
  obtain ⟨p0, p1, p2, p3⟩ := X0.out.cells
  go_enter Tryd.func15, Tryd.ntmps15
  go_wp2_with (fail)
  generalize w.alloc (.cells #[.int .u8 (x.op : Int), .int .i64 x.n, .string x.name, .slice ao x.args.length cap] 30) = W0 at *
  refine wp_region_held_drew (S := fun W => W.cell? ⟨w.heap.size, 0, none⟩ = some (.int .u8 (x.op : Int)) ∧ W.cell? ⟨w.heap.size, 1, none⟩ = some (.int .i64 x.n) ∧ W.cell? ⟨w.heap.size, 2, none⟩ = some (.string x.name) ∧ W.cell? ⟨w.heap.size, 3, none⟩ = some (.slice ao x.args.length cap)) (by kernel_rfl) ?_ (fun hHeld => ?_)
  · exact ⟨p0, p1, p2, p3⟩
  refine wpAnyH_take (i := 2) (oi := { dst := some 10, op := Go.Op.load 30 (Go.Operand.tmp 2), type := 30, pos := _, after := #[], guard := none }) (v := ?_) rfl (by kernel_rfl) (by kernel_rfl) (by kernel_rfl) (fun _ _ _ h => h) (Or.inl ⟨by rfl, ?_⟩) (by assumption) ?_
  rotate_left
  · intro w hSw; (try dsimp only at hSw); go_simp <;> first | with_reducible rfl | (rw [if_neg (by first | omega | (simp only [ByteArray.size_append] at *; omega))])
  simp only [Act.put, List.setIfInBounds_toArray, List.set_cons_zero, List.set_cons_succ]
  refine wpAnyH_ready (rs := [0]) (by kernel_rfl) (by simp) ?_
  refine AllReadyH.cons (o := { dst := some 8, op := Go.Op.call { callee := Go.Callee.value (Go.Operand.func 14), args := #[], argTypes := #[] }, type := 30, pos := _, after := #[], guard := none }) rfl (fun K hK => ?_) AllReadyH.nil
  go_simp
  refine (nought_at _).mono ?_
  rintro e w0 ⟨rfl, hb0'⟩
  have hb0 : Below W0.heap.size W0 w0 := (Below.refl _ _).drew.trans (hb0'.mono (by simp))
  have Xz := hid (X0.out.keep hb0)
  obtain ⟨r0, r1, r2, r3⟩ := Xz.out.cells
  clear hb0 hb0'
  go_wp2_with fail
  refine hK.out _ _ ?_ (fun hHeld1 => ?_)
  · exact ⟨r0, r1, r2, r3⟩
  clear hK K
  refine wpAnyH_ready (rs := [1]) (by kernel_rfl) (by simp) ?_
  refine AllReadyH.cons (o := { dst := some 9, op := Go.Op.call { callee := Go.Callee.value (Go.Operand.func 13), args := #[Go.Operand.tmp 8], argTypes := #[30] }, type := 26, pos := _, after := #[{ on := 0, ground := Go.Ground.data }, { on := 0, ground := Go.Ground.chain }], guard := none }) rfl (fun K hK => ?_) AllReadyH.nil
  go_simp
  refine (small_at exO N0 _ (stO _)).mono ?_
  rintro e w1 ⟨sb, rfl, hP1, hb1⟩
  have X1 := hid (Xz.out.keep hb1)
  have P1 := hid hP1
  obtain ⟨q0, q1, q2, q3⟩ := X1.out.cells
  clear hP1 hb1
  go_wp2_with fail
  refine hK.out _ _ ?_ (fun hHeld2 => ?_)
  · exact ⟨q0, q1, q2, q3⟩
  clear hK K
  refine wpAnyH_ready (rs := [3]) (by kernel_rfl) (by simp) ?_
  refine AllReadyH.cons (o := { dst := some 11, op := Go.Op.call { callee := Go.Callee.value (Go.Operand.func 9), args := #[Go.Operand.tmp 9, Go.Operand.tmp 10], argTypes := #[26, 30] }, type := 44, pos := _, after := #[{ on := 1, ground := Go.Ground.data }, { on := 2, ground := Go.Ground.data }, { on := 1, ground := Go.Ground.chain }], guard := none }) rfl (fun K hK => ?_) AllReadyH.nil
  go_simp
  refine (of_ (smP exO) x _ _ _ _ _ P1.out X1.out.S X1.out.R X1.out.J).mono ?_
  rintro e w2 ⟨rfl, hb2⟩
  have X2 := hid (X1.out.keep hb2)
  obtain ⟨t0, t1, t2, t3⟩ := X2.out.cells
  rw [HO.out]
  clear hb2
  go_wp2_with fail
  refine hK.out _ _ ?_ (fun hHeld3 => ?_)
  · exact ⟨t0, t1, t2, t3⟩
  clear hK K
  refine wpAnyH_take (i := 4) (oi := { dst := some 7, op := Go.Op.move (Go.Operand.tmp 11), type := 44, pos := _, after := #[{ on := 3, ground := Go.Ground.data }], guard := none }) (v := ?_) rfl (by kernel_rfl) (by kernel_rfl) (by kernel_rfl) (fun _ _ _ h => h) (Or.inl ⟨by rfl, ?_⟩) (by assumption) ?_
  rotate_left
  · intro w hSw; (try dsimp only at hSw); go_simp <;> first | with_reducible rfl | (rw [if_neg (by first | omega | (simp only [ByteArray.size_append] at *; omega))])
  simp only [Act.put, List.setIfInBounds_toArray, List.set_cons_zero, List.set_cons_succ]
  refine wpAnyH_take (i := 5) (oi := { dst := some 12, op := Go.Op.extract (Go.Operand.tmp 7) 0, type := 3, pos := _, after := #[{ on := 4, ground := Go.Ground.data }], guard := none }) (v := ?_) rfl (by kernel_rfl) (by kernel_rfl) (by kernel_rfl) (fun _ _ _ h => h) (Or.inl ⟨by rfl, ?_⟩) (by assumption) ?_
  rotate_left
  · intro w hSw; (try dsimp only at hSw); go_simp <;> first | with_reducible rfl | (rw [if_neg (by first | omega | (simp only [ByteArray.size_append] at *; omega))])
  simp only [Act.put, List.setIfInBounds_toArray, List.set_cons_zero, List.set_cons_succ]
  refine wpAnyH_take (i := 6) (oi := { dst := some 13, op := Go.Op.extract (Go.Operand.tmp 7) 1, type := 43, pos := _, after := #[{ on := 4, ground := Go.Ground.data }, { on := 7, ground := Go.Ground.gcOnly Go.Departure.lateStores }], guard := none }) (v := ?_) rfl (by kernel_rfl) (by kernel_rfl) (by kernel_rfl) (fun _ _ _ h => h) (Or.inl ⟨by rfl, ?_⟩) (by assumption) ?_
  rotate_left
  · intro w hSw; (try dsimp only at hSw); go_simp <;> first | with_reducible rfl | (rw [if_neg (by first | omega | (simp only [ByteArray.size_append] at *; omega))])
  simp only [Act.put, List.setIfInBounds_toArray, List.set_cons_zero, List.set_cons_succ]
  refine wpAnyH_take (i := 7) (oi := { dst := some 5, op := Go.Op.assign (Go.Operand.tmp 12), type := 3, pos := _, after := #[{ on := 5, ground := Go.Ground.data }, { on := 3, ground := Go.Ground.chain }, { on := 0, ground := Go.Ground.phase }, { on := 1, ground := Go.Ground.phase }, { on := 2, ground := Go.Ground.phase }, { on := 3, ground := Go.Ground.phase }, { on := 4, ground := Go.Ground.phase }, { on := 5, ground := Go.Ground.phase }, { on := 6, ground := Go.Ground.textOnly Go.Departure.lateStores }], guard := none }) (v := ?_) rfl (by kernel_rfl) (by kernel_rfl) (by kernel_rfl) (fun _ _ _ h => h) (Or.inl ⟨by rfl, ?_⟩) (by assumption) ?_
  rotate_left
  · intro w hSw; (try dsimp only at hSw); go_simp <;> first | with_reducible rfl | (rw [if_neg (by first | omega | (simp only [ByteArray.size_append] at *; omega))])
  simp only [Act.put, List.setIfInBounds_toArray, List.set_cons_zero, List.set_cons_succ]
  refine wpAnyH_take (i := 8) (oi := { dst := some 6, op := Go.Op.assign (Go.Operand.tmp 13), type := 43, pos := _, after := #[{ on := 6, ground := Go.Ground.data }, { on := 7, ground := Go.Ground.chain }, { on := 0, ground := Go.Ground.phase }, { on := 1, ground := Go.Ground.phase }, { on := 2, ground := Go.Ground.phase }, { on := 3, ground := Go.Ground.phase }, { on := 4, ground := Go.Ground.phase }, { on := 5, ground := Go.Ground.phase }, { on := 6, ground := Go.Ground.phase }, { on := 7, ground := Go.Ground.phase }], guard := none }) (v := ?_) rfl (by kernel_rfl) (by kernel_rfl) (by kernel_rfl) (fun _ _ _ h => h) (Or.inl ⟨by rfl, ?_⟩) (by assumption) ?_
  rotate_left
  · intro w hSw; (try dsimp only at hSw); go_simp <;> first | with_reducible rfl | (rw [if_neg (by first | omega | (simp only [ByteArray.size_append] at *; omega))])
  simp only [Act.put, List.setIfInBounds_toArray, List.set_cons_zero, List.set_cons_succ]
  refine wpAnyH_done (by kernel_rfl) ?_ _
  have e1 : ((t : Int) == (t : Int)) = true := by simp
  have hB := X2.out.below
  go_wp2_with (fail)
  go_ret
  exact ⟨rfl, hB⟩
end Go.Proofs.YtejacmgppnafcabDoor.Lex
namespace Go.Proofs.YtejacmgppnafcabDoor.Lex
open Go.ChangeShapes Go.WideShapes Go.ChangeAt Go.RowKit Go.Joins
theorem okD_up : ∀ (d : Nat) (x : Ex), okD d x → okD (d + 1) x
  | 0, _, h => h.elim
  | d + 1, _, h => ⟨h.1, fun y hy => okD_up d y (h.2 y hy)⟩
theorem okD_add (d : Nat) (x : Ex) (h : okD d x) : ∀ k, okD (d + k) x
  | 0 => h
  | k + 1 => okD_up (d + k) x (okD_add d x h k)
theorem nmz_add (d : Nat) (x : Ex) (h : okD d x) : ∀ k, nmz (d + k) x = nmz d x
  | 0 => rfl
  | k + 1 => (nmz_deep (d + k) x (okD_add d x h k)).trans (nmz_add d x h k)
/-- A flow with a name alone; a program of such. -/
abbrev fl0 (nm : ByteArray) : Fl := ⟨nm, 0, 0, 0, ⟨0, 0, ⟨#[]⟩, []⟩⟩
def anyP (l : List ByteArray) : Pg := ⟨0, [], l.map fl0, []⟩
theorem find_any {l : List ByteArray} {s : ByteArray} (h : s ∈ l) : (findT (thingsL (anyP l)) s).isSome = true := by
  have hn : namesOf (anyP l) = l := by
    unfold namesOf anyP
    rw [List.map_nil, List.nil_append, List.map_map]
    exact (List.map_congr_left (fun _ _ => rfl)).trans (List.map_id l)
  have hm : s ∈ (thingsL (anyP l)).map (fun x => x.2.name) := by rw [things_names, hn]; exact h
  obtain ⟨x, hx, rfl⟩ := List.mem_map.1 hm
  unfold findT
  rw [List.find?_isSome]
  exact ⟨x, hx, by simp⟩
theorem deep_names {x : Ex} (h : chk x = true) (s : ByteArray) : s ∈ (gat 20000 x 0 []).map (·.1) ↔ s ∈ nmz 32 x := by
  have hd := chk_ok h
  have e := nmz_add 32 x hd 19968
  rw [show 32 + 19968 = 20000 from rfl] at e
  rw [← e, ← pl_nmz 20000 x 0]
  constructor
  · intro hs
    obtain ⟨r, hr, rfl⟩ := List.mem_map.1 hs
    exact List.mem_map.2 ⟨r, (gat_mem 20000 x 0 r).1 hr, rfl⟩
  · intro hs
    obtain ⟨r, hr, rfl⟩ := List.mem_map.1 hs
    exact List.mem_map.2 ⟨r, (gat_mem 20000 x 0 r).2 hr, rfl⟩
theorem of_any {x : Ex} (h : chk x = true) : ofV (anyP ((gat 20000 x 0 []).map (·.1))) x = (stE x, 0) :=
  of_ok h ((asks_nmz _ _).2 fun s hs => find_any ((deep_names h s).2 hs))
theorem of_bad (p : Pg) {x : Ex} (h : chk x = false) : ofV p x = (0, 1) := by unfold ofV; rw [if_pos h]
theorem there_asks (p : Pg) {x : Ex} (h : chk x = true) : ((gat 20000 x 0 []).all fun z => (findT (thingsL p) z.1).isSome) = asksAll p x := by
  rw [Bool.eq_iff_iff, asks_nmz, List.all_eq_true]
  constructor
  · intro ha s hs
    obtain ⟨r, hr, rfl⟩ := List.mem_map.1 ((deep_names h s).2 hs)
    exact ha r hr
  · intro ha r hr
    exact ha r.1 ((deep_names h r.1).1 (List.mem_map.2 ⟨r, hr, rfl⟩))
/-- The cells of such flows. -/
def fl8 (nm : ByteArray) : List Value := [.string nm, .int .u8 0, .int .i64 0, .int .i64 0, .int .u8 0, .int .i64 0, .string ⟨#[]⟩, .slice none 0 0]
def fls8 (l : List ByteArray) : List Value := l.flatMap fl8
theorem fls8_app (a b : List ByteArray) : fls8 (a ++ b) = fls8 a ++ fls8 b := by simp [fls8]
theorem fls8_at (l : List ByteArray) : ∀ (i j : Nat) (h : i < l.length), j < 8 → (fls8 l)[i * 8 + j]? = (fl8 l[i])[j]? := by
  induction l with
  | nil => intro i j h; simp at h
  | cons a l ih =>
    intro i j h hj
    have e : fls8 (a :: l) = fl8 a ++ fls8 l := by simp [fls8]
    cases i with
    | zero =>
      rw [e, List.getElem?_append_left (by simp [fl8]; omega)]
      simp
    | succ i =>
      rw [e, List.getElem?_append_right (by simp [fl8]; omega)]
      have := ih i j (by simpa using h) hj
      simp only [List.getElem_cons_succ]
      rw [← this]
      congr 1
      simp [fl8]
      omega
/-- The program in its variable, and the row of its flows. -/
structure QF (wb : World) (qb : Nat) (l : List ByteArray) (v : Value) (W : World) : Prop where
  below : Below wb.heap.size wb W
  row : W.heap[qb]? = some (.cells #[.int .i64 0, .slice none 0 0, v, .slice none 0 0] 26 (0, 0))
  own : W.ownsRow wb.heap.size 40 8 v l.length (fls8 l)
  ne : v.ownBlock ≠ some qb
  lo : wb.heap.size ≤ qb
theorem own_block9 {w W : World} {base e c n : Nat} {v : Value} {xs : List Value} (h : w.ownsRow base e c v n xs) (hg : ∀ g, v.ownBlock = some g → W.heap[g]? = w.heap[g]?) : W.ownsRow base e c v n xs := by
  refine ⟨h.1, ?_⟩
  rcases h.2 with hn | ⟨g, cap, cur, e, hg0, hh, rest⟩
  · exact .inl hn
  · subst e
    exact .inr ⟨g, cap, cur, rfl, hg0, (hg g rfl).trans hh, rest⟩
theorem row_pos {W : World} {base e size k : Nat} {v : Value} {xs : List Value} (h : W.ownsRow base e size v k xs) (hk : 0 < k) : ∃ g cap, v = .slice (some ⟨g, 0, none⟩) k cap := by
  rcases h.2 with ⟨_, h0⟩ | ⟨g, cap, _, rfl, _⟩
  · omega
  · exact ⟨g, cap, rfl⟩
theorem QF.keep {wb W W' : World} {qb : Nat} {l : List ByteArray} {v : Value} (h : QF wb qb l v W) (hb : Below W.heap.size W W') : QF wb qb l v W' :=
  ⟨h.below.trans (hb.mono h.below.size), keep_row h.row hb, own_block9 h.own fun g hg => hb.block g (h.own.lt g hg).2, h.ne, h.lo⟩
theorem QF.rows {wb W W1 W' : World} {qb : Nat} {l : List ByteArray} {v : Value} (h : QF wb qb l v W) (h1 : Below W.heap.size W W1) (hg : W1.grownBy W' v.ownBlock) : W'.heap[qb]? = some (.cells #[.int .i64 0, .slice none 0 0, v, .slice none 0 0] 26 (0, 0)) := by
  have hq := (Array.getElem?_eq_some_iff.1 h.row).1
  have hs1 := h1.size
  exact (hg.block qb (by omega) (fun e => h.ne e.symm)).trans (keep_row h.row h1)
/-- One flow more, laid in the variable. -/
theorem QF.grow {wb W W1 W' : World} {qb gg cap : Nat} {l : List ByteArray} {v : Value} {x : ByteArray} (h : QF wb qb l v W) (h1 : Below W.heap.size W W1) (hr : W'.ownsRow wb.heap.size 40 8 (.slice (some ⟨gg, 0, none⟩) (l.length + 1) cap) (l.length + 1) (fls8 l ++ fl8 x)) (hg : W1.grownBy W' v.ownBlock) (hat : some gg = v.ownBlock ∨ some gg = some W1.heap.size) : QF wb qb (l ++ [x]) (.slice (some ⟨gg, 0, none⟩) (l.length + 1) cap) (W'.setCell ⟨qb, 2, none⟩ (.slice (some ⟨gg, 0, none⟩) (l.length + 1) cap)) := by
  have hq := (Array.getElem?_eq_some_iff.1 h.row).1
  have hs1 := h1.size
  have hrow := h.rows h1 hg
  have hne : gg ≠ qb := by
    rcases hat with e | e
    · intro e'; subst e'; exact h.ne e.symm
    · injection e with e; omega
  have b1 : Below wb.heap.size wb W1 := h.below.trans (h1.mono h.below.size)
  have b2 : Below wb.heap.size wb W' := b1.grown hg b1.size (fun j hj => (h.own.lt j hj).1)
  refine ⟨b2.setCell (p := ⟨qb, 2, none⟩) h.lo _, ?_, ?_, ?_, h.lo⟩
  · have := heap_setCell_same W' qb 2 _ 26 (.slice (some ⟨gg, 0, none⟩) (l.length + 1) cap) hrow
    exact this
  · rw [show (l ++ [x]).length = l.length + 1 by simp, fls8_app, show fls8 [x] = fl8 x by simp [fls8]]
    exact own_block9 hr fun g hg' => by
      have e : some gg = some g := hg'
      injection e with e
      exact Below.heap_setCell _ _ _ _ (by show g ≠ qb; omega)
  · intro e
    have e' : some gg = some qb := e
    injection e' with e'
    exact hne e'
theorem QF.pg {wb W : World} {qb : Nat} {l : List ByteArray} {v : Value} (h : QF wb qb l v W) (hok : ∀ s ∈ l, s.size ≤ 65536) (hl : l.length ≤ 1000000) : PgAt W (anyP l) (.slice none 0 0) v (.slice none 0 0) where
  st := ⟨by show (-9223372036854775808 : Int) ≤ 0; omega, by show (0 : Int) ≤ _; omega⟩
  ins := ⟨none, 0, rfl, Nat.zero_le _, Nat.zero_le _, fun x hx => (List.not_mem_nil hx).elim, .inl rfl⟩
  flows := by
    have hlen : (anyP l).flows.length = l.length := by simp [anyP]
    have hget : ∀ i (hi : i < (anyP l).flows.length), (anyP l).flows[i] = fl0 (l[i]'(by omega)) := fun i hi => by simp [anyP]
    have hokf : ∀ x ∈ (anyP l).flows, x.ok := fun x hx => by
      obtain ⟨s, hs, rfl⟩ := List.mem_map.1 (show x ∈ l.map fl0 from hx)
      have := hok s hs
      exact ⟨by show s.size ≤ _; omega, by show (0 : Nat) < _; omega, ⟨by show (-9223372036854775808 : Int) ≤ 0; omega, by show (0 : Int) ≤ _; omega⟩, ⟨by show (-9223372036854775808 : Int) ≤ 0; omega, by show (0 : Int) ≤ _; omega⟩⟩
    have hst : ∀ i (hi : i < (anyP l).flows.length), St W (anyP l).flows[i].body N0 := fun i hi => by
      rw [hget i hi]
      exact st_leaf W ⟨0, 0, ⟨#[]⟩, []⟩ rfl (by decide) (by decide) (by show (0 : Nat) ≤ _; omega)
    rcases h.own.2 with ⟨e, e0⟩ | ⟨g, cap, cur, e, _, _, hc, _⟩
    · exact ⟨none, 0, fun _ => N0, by rw [e, hlen, e0], by omega, by omega, hokf, .inl (by omega), hst⟩
    · refine ⟨some ⟨g, 0, none⟩, cap, fun _ => N0, by rw [e, hlen], by omega, by omega, hokf, .inr ⟨g, 0, rfl, fun i hi => ?_⟩, hst⟩
      have hi' : i < l.length := by omega
      subst e
      rw [hget i hi, Nat.zero_add]
      have q := fun j (hj : j < 8) => fls8_at l i j hi' hj
      have c := fun j (hj : j < 8) => (h.own.cellAt (i * 8 + j) (by omega)).trans (q j hj)
      refine ⟨?_, c 1 (by omega), c 2 (by omega), c 3 (by omega), c 4 (by omega), c 5 (by omega), c 6 (by omega), c 7 (by omega)⟩
      have := c 0 (by omega)
      rw [Nat.add_zero] at this
      exact this
  outs := ⟨none, 0, rfl, Nat.zero_le _, Nat.zero_le _, fun x hx => (List.not_mem_nil hx).elim, .inl rfl⟩
end Go.Proofs.YtejacmgppnafcabDoor.Lex
namespace Go.Proofs.YtejacmgppnafcabDoor.Lex
open Go.ChangeShapes Go.WideShapes Go.ChangeAt Go.RowKit Go.Joins
/-- Its parts, itself with them, and the bytes of their names. -/
def esz : Ex → Nat
  | ⟨_, _, nm, args⟩ => 1 + nm.size + args.length + (args.map esz).sum
theorem esz_eq (x : Ex) : esz x = 1 + x.name.size + x.args.length + (x.args.map esz).sum := by
  obtain ⟨op, n, nm, args⟩ := x
  rw [esz]
theorem sum_ge {l : List Nat} {a : Nat} (h : a ∈ l) : a ≤ l.sum := by
  induction l with
  | nil => cases h
  | cons b l ih =>
    rw [List.sum_cons]
    rcases List.mem_cons.1 h with rfl | h
    · omega
    · have := ih h; omega
theorem esz_part {x y : Ex} (h : y ∈ x.args) : esz y + 1 ≤ esz x := by
  rw [esz_eq x]
  have := sum_ge (List.mem_map.2 ⟨y, h, rfl⟩ : esz y ∈ x.args.map esz)
  omega
theorem esz_nm : ∀ (n : Nat) (x : Ex), esz x ≤ n → n ≤ 65536 → NmOk n x
  | 0, x, h, _ => by rw [esz_eq] at h; omega
  | n + 1, x, h, hn => by
    refine ⟨by rw [esz_eq] at h; omega, fun y hy => esz_nm n y (by have := esz_part hy; omega) (by omega)⟩
theorem fold_cnt (f g : Ex → Nat) : ∀ (l : List Ex) (n m : Nat), n ≤ m → (∀ y ∈ l, f y ≤ g y) → l.foldl (fun n y => n + f y) n ≤ m + (l.map g).sum
  | [], n, m, h, _ => by simpa using h
  | a :: l, n, m, h, hf => by
    rw [List.foldl_cons, List.map_cons, List.sum_cons]
    have h1 := hf a (List.mem_cons_self ..)
    have := fold_cnt f g l (n + f a) (m + g a) (by omega) (fun y hy => hf y (List.mem_cons_of_mem _ hy))
    omega
theorem esz_cnt : ∀ (k : Nat) (x : Ex), cnt k x ≤ esz x
  | 0, x => by rw [esz_eq]; show 1 ≤ _; omega
  | k + 1, x => by
    rw [esz_eq]
    show x.args.foldl (fun n y => n + cnt k y) 1 ≤ _
    have := fold_cnt (cnt k) esz x.args 1 (1 + x.name.size) (by omega) (fun y _ => esz_cnt k y)
    omega
/-- ExprSize tells it. -/
def SizeE (x : Ex) : Prop := ∀ (w : World) (s : Value), St w x s → esz x ≤ 1048576 → Calls Tryd.prog 6 #[exV x s] w fun e w' => e = .returned (.int .i64 (esz x : Int)) ∧ Below w.heap.size w w'
theorem take_sum {l : List Nat} (k : Nat) : (l.take k).sum ≤ l.sum := by
  have := congrArg List.sum (List.take_append_drop k l)
  rw [List.sum_append] at this
  omega
set_option maxRecDepth 100000 in
set_option maxHeartbeats 1000000 in
theorem sizes_e (x : Ex) (ih : ∀ i (h : i < x.args.length), SizeE x.args[i]) (w : World) (s : Value) (hS : St w x s) (hx : x.args.length + (x.args.map esz).sum ≤ 1048576) :
    Calls Tryd.prog 18 #[s] w fun e w' => e = .returned (.int .i64 ((x.args.length + (x.args.map esz).sum : Nat) : Int)) ∧ Below w.heap.size w w' := by
  obtain ⟨ao, cap, sl, rfl, _, _, _, hlen, _, hc, hs⟩ := hS.out
  have HS := hid hs
  have HC := hid hc
  have HI := hid ih
  have HX := hid hx
  clear hs hc ih hS hx
  go_enter Tryd.func18, Tryd.ntmps18
  go_wp2
  go_loopw [3, 4] (fun n i wr => ∃ (z k : Nat), k ≤ x.args.length ∧ n = .int .i64 (z : Int) ∧ i = .int .i64 (k : Int) ∧ Hid (z = x.args.length + ((x.args.map esz).take k).sum) ∧ Hid (Below w.heap.size w wr)) (fun _ i _ => x.args.length - (intOf i).toNat)
  case atStart => exact ⟨x.args.length, 0, Nat.zero_le _, rfl, rfl, hid (by simp), Below.refl _ _⟩
  case round =>
    obtain ⟨z, k, hk, rfl, rfl, hZ, hB⟩ := hrel
    have hz1 : z ≤ 1048576 := by have h1 := hZ.out; have h2 := take_sum (l := x.args.map esz) k; have h3 := HX.out; omega
    have hz : (z : Int) ≤ 1048576 := by omega
    by_cases hlt : k < x.args.length
    · have hlt' : (k : Int) < (x.args.length : Int) := by omega
      have hk0 : (0 : Int) ≤ (k : Int) := by omega
      obtain ⟨b, o, rfl, hc⟩ := HC.out.resolve_left (by omega)
      obtain ⟨h0, h1, h2, h3⟩ := hc k hlt
      have y0 := cell_kept h0 hB.out
      have y1 := cell_kept h1 hB.out
      have y2 := cell_kept h2 hB.out
      have y3 := cell_kept h3 hB.out
      have hsz : esz x.args[k] ≤ (x.args.map esz).sum := sum_ge (List.mem_map.2 ⟨_, List.getElem_mem hlt, rfl⟩)
      have c := HI.out k hlt wr (sl k) ((HS.out k hlt).keep hB.out) (by have := HX.out; omega)
      have HT : Hid (((x.args.map esz).take (k + 1)).sum = ((x.args.map esz).take k).sum + esz x.args[k]) := hid (by
        rw [List.take_succ_eq_append_getElem (by simpa using hlt), List.sum_append]
        simp)
      have hm := HX.out
      have hwr : IntKind.i64.wrap ((z : Int) + (esz x.args[k] : Int)) = (z : Int) + (esz x.args[k] : Int) := by rw [IntKind.wrap_i64]; omega
      clear h0 h1 h2 h3 hc
      generalize esz x.args[k] = ez at *
      generalize x.args[k] = y at *
      clear hm hsz
      go_wp2_with (go_at_call 6; refine c.mono ?_; rintro e w2 ⟨rfl, hb2⟩)
      go_roundw
      case rel => exact ⟨z + ez, k + 1, by omega, by simp, by go_num, hid (by rw [HT.out, hZ.out]; omega), bstep hB.out hb2⟩
      case measure => simp [intOf]; omega
    · have hlt' : ¬ (k : Int) < (x.args.length : Int) := by omega
      obtain rfl : k = x.args.length := by omega
      have HZ : Hid (z = x.args.length + (x.args.map esz).sum) := hid (by rw [hZ.out, List.take_of_length_le (by simp)])
      go_wp2
      go_ret
      have hzz := HZ.out
      exact ⟨by subst hzz; first | rfl | simp, hB.out⟩
set_option maxRecDepth 100000 in
theorem size_e (x : Ex) (ih : ∀ i (h : i < x.args.length), SizeE x.args[i]) : SizeE x := by
  intro w s hS hx
  have hx2 : x.args.length + (x.args.map esz).sum ≤ 1048576 := by rw [esz_eq] at hx; omega
  have hs := fun W h => sizes_e x ih W s h hx2
  obtain ⟨ao, cap, sl, rfl, hop, hn, hnm, hlen, hcap, hc, _⟩ := hS.out
  have HS := hid hS
  have HE := hid (esz_eq x)
  clear ih hc hS
  have hle : (1 : Int) + (x.name.size : Int) ≤ 1048576 := by have := HE.out; omega
  have HE2 : Hid (esz x = 1 + x.name.size + (x.args.length + (x.args.map esz).sum)) := hid (by have := HE.out; omega)
  have hwr : IntKind.i64.wrap (1 + (x.name.size : Int) + ((x.args.length + (x.args.map esz).sum : Nat) : Int)) = 1 + (x.name.size : Int) + ((x.args.length + (x.args.map esz).sum : Nat) : Int) := by rw [IntKind.wrap_i64]; have := HE.out; omega
  clear hx hx2 HE
  generalize x.args.length + (x.args.map esz).sum = su at *
  go_enter Tryd.func6, Tryd.ntmps6
  go_wp2_with (go_at_call 18; refine (hs _ (HS.out.keep ((Below.refl _ _).alloc (Nat.le_refl _) _))).mono ?_; rintro e w2 ⟨rfl, hb2⟩)
  go_ret
  exact ⟨by rw [HE2.out]; simp, bstep ((Below.refl _ _).alloc (Nat.le_refl _) _) hb2⟩
/-- ExprSize tells it. -/
theorem size_all : ∀ (m : Nat) (x : Ex), SizeOf.sizeOf x ≤ m → SizeE x := by
  intro m
  induction m with
  | zero => intro x h; obtain ⟨o, n, s, l⟩ := x; simp at h
  | succ m ih => intro x h; exact size_e x fun i hi => ih _ (by have := x.part_lt i hi; omega)
theorem bulk_str {H : Type} {y : DataW H × List MemPlace} {nm : ByteArray} {p : List MemPlace} (h : y = (.lit (.string nm.data.toList), p)) : nm.size + 1 ≤ Rows.uptoBulk y.1 := by
  subst h
  simp only [Rows.uptoBulk]
  rw [Lib.size_eq]
  omega
theorem sum_bulk {H : Type} : ∀ (elems : List (DataW H × List MemPlace)) (len : Nat), elems.length = len → ∀ f : Nat → Nat, (∀ i, i < len → f i + 1 ≤ Rows.uptoBulk ((elems[i]?.map (·.1)).getD .nil)) → ((List.range len).map f).sum + len ≤ Rows.uptoBulkAll (elems.map (·.1))
  | [], len, h, f, hf => by
    obtain rfl : len = 0 := by simpa using h.symm
    simp [Rows.uptoBulkAll]
  | e :: l, len, h, f, hf => by
    obtain ⟨m, rfl⟩ : ∃ m, len = m + 1 := ⟨l.length, by simpa using h.symm⟩
    have h0 := hf 0 (by omega)
    have ih := sum_bulk l m (by simpa using h) (fun i => f (i + 1)) (fun i hi => by simpa using hf (i + 1) (by omega))
    rw [List.range_succ_eq_map, List.map_cons, List.sum_cons, List.map_map, List.map_cons]
    simp only [Rows.uptoBulkAll]
    have e2 : ((List.range m).map (f ∘ Nat.succ)).sum = ((List.range m).map fun i => f (i + 1)).sum := rfl
    rw [e2]
    simp at h0
    omega
theorem viewTB {H : Type} {enc : TypeId × Value → H} {W : World} : ∀ (m fuel : Nat) (cs : List Value) (d : DataW H) (p : List MemPlace), fuel ≤ m → DataW.trod enc Tryd.prog W 0 (fun _ => true) true fuel 30 cs = some (d, p) → (∀ v ∈ d.weights Tryd.prog 30, v ≤ reachBytes) →
    ∃ (x : Ex) (s : Value), cs = [.int .u8 (x.op : Int), .int .i64 x.n, .string x.name, s] ∧ St W x s ∧ esz x + 1 ≤ Rows.uptoBulk d := by
  intro m
  induction m with
  | zero => intro fuel cs d p hm h; obtain rfl : fuel = 0 := by omega
            simp [DataW.trod] at h
  | succ m ih =>
    intro fuel cs d p hm h hw
    obtain ⟨xs, n, hn, hx, hl, hlen, hfs⟩ := DataW.trod_struct Tryd.underlying30 h
    rw [cells25] at hl
    obtain ⟨c0, c1, c2, c3, rfl⟩ := list4 hl
    match xs, hlen with
    | [y0, y1, y2, y3], _ =>
      have h0 : DataW.trod enc Tryd.prog W 0 (fun _ => true) true n 27 [c0] = some y0 := by simpa [cells22] using hfs 0 _ rfl
      have h1 : DataW.trod enc Tryd.prog W 0 (fun _ => true) true n 2 [c1] = some y1 := by simpa [cells2] using hfs 1 _ rfl
      have h2 : DataW.trod enc Tryd.prog W 0 (fun _ => true) true n 9 [c2] = some y2 := by simpa [cells9] using hfs 2 _ rfl
      have h3 : DataW.trod enc Tryd.prog W 0 (fun _ => true) true n 28 [c3] = some y3 := by simpa [cells23] using hfs 3 _ rfl
      obtain ⟨op, e0, _, w0⟩ := DataW.trod_int Tryd.underlying27 h0
      obtain ⟨k, e1, _, w1⟩ := DataW.trod_int Tryd.underlying2 h1
      obtain ⟨nm, e2, hy2, _⟩ := DataW.trod_string Tryd.underlying9 h2
      simp only [List.cons.injEq, and_true] at e0 e1 e2
      subst e0 e1 e2
      simp only [Prod.mk.injEq] at hx
      obtain ⟨rfl, _⟩ := hx
      have hw2 : ∀ v ∈ y2.1.weights Tryd.prog 9, v ≤ reachBytes := fun v hv => hw v (by simp [DataW.weights, Tryd.underlying30, DataW.weightsEach]; right; right; left; exact hv)
      have hw3 : ∀ v ∈ y3.1.weights Tryd.prog 28, v ≤ reachBytes := fun v hv => hw v (by simp [DataW.weights, Tryd.underlying30, DataW.weightsEach]; right; right; right; exact hv)
      have hnm : nm.size ≤ 140737488355328 := by
        have := hw2 nm.data.toList.length (by rw [hy2]; simp [DataW.weights])
        rw [← Lib.size_eq] at this
        unfold reachBytes at this
        omega
      have hop : 0 ≤ op ∧ op < 256 := by
        simp [Lit.wf, IntKind.min, IntKind.max, IntKind.signed, IntKind.bits] at w0
        omega
      have hk : -9223372036854775808 ≤ k ∧ k ≤ 9223372036854775807 := by
        simp [Lit.wf, IntKind.min, IntKind.max, IntKind.signed, IntKind.bits] at w1
        omega
      obtain ⟨u, rfl⟩ : ∃ u : Nat, op = (u : Int) := ⟨op.toNat, by omega⟩
      rcases DataW.trod_slice Tryd.underlying28 h3 with ⟨hc, _⟩ | ⟨a, len, cap, elems, rest, n', hn', hc, hy3, hb, hlc, hcm, hel, helem, hsp, _⟩
      · simp only [List.cons.injEq, and_true] at hc
        subst hc
        refine ⟨.mk u k nm [], .slice none 0 0, rfl, ?_, ?_⟩
        rotate_left
        · rw [esz_eq]
          have := bulk_str hy2
          simp [Rows.uptoBulk, Rows.uptoBulkAll]
          omega
        exact (St.intro (.mk u k nm []) none 0 (fun _ => .slice none 0 0) (by show u < 256; omega) hk hnm (by show 0 ≤ _; omega) (Nat.le_refl _) (.inl rfl) (fun i hi => by cases hi))
      · simp only [List.cons.injEq, and_true] at hc
        subst hc
        rw [cells25] at helem
        have hwl : (len + rest.length) * 56 ≤ reachBytes := by
          have := hw3 ((elems.map (·.1)).length + (rest.map (·.1)).length |> (· * 56)) (by rw [hy3]; simp [DataW.weights, Tryd.underlying28, bytes25])
          simpa [hel] using this
        have hlen2 : len ≤ 2513169434843 := by unfold reachBytes at hwl; omega
        have each : ∀ i, ∃ q : Ex × Value, i < len → (∃ v0 v1 v2 v3, W.cell? ((a.add (i * 4)).add 0) = some v0 ∧ W.cell? ((a.add (i * 4)).add 1) = some v1 ∧ W.cell? ((a.add (i * 4)).add 2) = some v2 ∧ W.cell? ((a.add (i * 4)).add 3) = some v3 ∧ [v0, v1, v2, v3] = [.int .u8 (q.1.op : Int), .int .i64 q.1.n, .string q.1.name, q.2]) ∧ St W q.1 q.2 ∧ esz q.1 + 1 ≤ Rows.uptoBulk ((elems[i]?.map (·.1)).getD .nil) := by
          intro i
          by_cases hi : i < len
          · have he := helem i hi
            rw [List.getElem?_eq_getElem (by omega)] at he
            obtain ⟨l, hl1, hl2⟩ := Option.bind_eq_some_iff.1 he
            obtain ⟨v0, v1, v2, v3, rfl, g0, g1, g2, g3⟩ := cells4 hl1
            obtain ⟨x, s, ex, hs, hz⟩ := ih n' _ _ _ (by omega) (show DataW.trod enc Tryd.prog W 0 (fun _ => true) true n' 30 [v0, v1, v2, v3] = some ((elems[i]'(by omega)).1, (elems[i]'(by omega)).2) from hl2) (fun v hv => hw3 v (by
              rw [hy3]
              simp only [DataW.weights, Tryd.underlying28]
              refine List.mem_cons_of_mem _ (List.mem_append_left _ (all_mem (i := i) (d := (elems[i]'(by omega)).1) ?_ v hv))
              rw [List.getElem?_map, List.getElem?_eq_getElem (by omega)]
              rfl))
            exact ⟨(x, s), fun _ => ⟨⟨v0, v1, v2, v3, g0, g1, g2, g3, ex⟩, hs, by rw [List.getElem?_eq_getElem (by omega)]; exact hz⟩⟩
          · exact ⟨(.mk 0 0 ByteArray.empty [], .slice none 0 0), fun h => absurd h hi⟩
        obtain ⟨f, hf⟩ := Classical.axiomOfChoice each
        have hargs : ((List.range len).map fun i => (f i).1).length = len := by simp
        have hget : ∀ i (hi : i < ((List.range len).map fun i => (f i).1).length), ((List.range len).map fun i => (f i).1)[i] = (f i).1 := fun i hi => by simp
        refine ⟨.mk u k nm ((List.range len).map fun i => (f i).1), .slice (some a) len cap, rfl, ?_, ?_⟩
        rotate_left
        · have hargs2 : (Ex.mk u k nm ((List.range len).map fun i => (f i).1)).args.length = len := by simp
          rw [esz_eq]
          have h1 := bulk_str hy2
          have h2 : (((List.range len).map fun i => (f i).1).map esz).sum + len ≤ Rows.uptoBulkAll (elems.map (·.1)) := by
            rw [List.map_map]
            exact sum_bulk elems len hel (fun i => esz (f i).1) (fun i hi => (hf i hi).2.2)
          rw [hy3]
          simp only [Rows.uptoBulk, Rows.uptoBulkAll, List.map_cons, List.map_nil] at h1 h2 ⊢
          rw [hargs2]
          omega
        have key : St W (.mk u k nm ((List.range len).map fun i => (f i).1)) (.slice (some a) ((List.range len).map fun i => (f i).1).length cap) := by
          refine St.intro (.mk u k nm ((List.range len).map fun i => (f i).1)) (some a) cap (fun i => (f i).2) (by show u < 256; omega) hk hnm (by show ((List.range len).map fun i => (f i).1).length ≤ _; omega) (by show ((List.range len).map fun i => (f i).1).length ≤ _; omega) ?_ (fun i hi => ?_)
          · by_cases h00 : len = 0
            · exact .inl (by show ((List.range len).map fun i => (f i).1).length = 0; omega)
            · right
              obtain ⟨b, o, sp⟩ := a
              have hspt : sp = none := by
                obtain ⟨⟨v0, _, _, _, g0, _⟩, _, _⟩ := hf 0 (by omega)
                simpa [Addr.add] using World.cell?_spot g0
              subst hspt
              refine ⟨b, o, rfl, fun i hi => ?_⟩
              have hi' : i < len := by have : i < ((List.range len).map fun i => (f i).1).length := hi; omega
              obtain ⟨⟨v0, v1, v2, v3, g0, g1, g2, g3, ex⟩, _, _⟩ := hf i hi'
              simp only [List.cons.injEq, and_true] at ex
              obtain ⟨rfl, rfl, rfl, rfl⟩ := ex
              rw [add_off, add_off] at g0 g1 g2 g3
              have e : (Ex.mk u k nm ((List.range len).map fun i => (f i).1)).args[i] = (f i).1 := hget i hi
              rw [e]
              exact ⟨g0, g1, g2, g3⟩
          · have hi' : i < len := by have : i < ((List.range len).map fun i => (f i).1).length := hi; omega
            have e : (Ex.mk u k nm ((List.range len).map fun i => (f i).1)).args[i] = (f i).1 := hget i hi
            rw [e]
            exact (hf i hi').2.1
        rwa [hargs] at key
set_option maxRecDepth 100000 in
/-- An api.Expr that came in, opened once. -/
theorem viewEB {H : Type} {enc : TypeId × Value → H} {W : World} {r : Reach} {b0 : Nat} {v : Value} {d : DataW H} {p : List MemPlace} {ts : List TypeId} {ds : List (DataW H)} {j : Nat}
    (hv : Value.okWide Tryd.prog W r b0 30 v) (h : DataW.Trod enc Tryd.prog W 0 (fun _ => true) true 30 v d p)
    (hsz : (DataW.weightsEach Tryd.prog ts ds).all (· ≤ reachBytes) = true) (ht : ts[j]? = some 30) (hj : ds[j]? = some d) : ∃ (x : Ex) (s : Value), v = exV x s ∧ St W x s ∧ esz x + 1 ≤ Rows.uptoBulk d := by
  obtain ⟨cs, rfl, hz⟩ := okWide_struct Tryd.underlying30 hv
  obtain ⟨c0, c1, c2, c3, rfl⟩ := array4 (by rw [hz]; exact cells25)
  obtain ⟨fuel, hf⟩ := h
  obtain ⟨x, s, e, hs, hbk⟩ := viewTB fuel fuel _ d p (Nat.le_refl _) hf (fun v hv => by
    have := List.all_eq_true.1 hsz _ (DataW.weights_mem_each ht hj v hv)
    simpa using this)
  have e' : [c0, c1, c2, c3] = [.int .u8 (x.op : Int), .int .i64 x.n, .string x.name, s] := by simpa [Value.cells] using e
  simp only [List.cons.injEq, and_true] at e'
  obtain ⟨rfl, rfl, rfl, rfl⟩ := e'
  exact ⟨x, _, rfl, hs, hbk⟩
end Go.Proofs.YtejacmgppnafcabDoor.Lex
