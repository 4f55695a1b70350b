/-
  A range over a function, where the rounds may turn memory that they have laid themselves, and the function leans on memory of its own: what such a function promises, and the law of the statement.
  Who asks for a name: the rows, and the map with them.
  Whether the twin is as it was: the contracts of LeftExprs and LeftExpr.
  Whether it may be: how great it is, part by part; the contracts of fits and Check.
  Programs, as they stand in memory.
  The things of a program, one by one: the contracts of names.things and of the function that it hands back.
  What a name is: the contract of names.Find.
  The things of a program, one by one, where a round may turn what lies behind the program's rows: the contract of the function that names.things hands back.
  The names that the Bodies ask for, one by one: the contract of the function that names.asked hands back.
  The names that the Bodies ask for: what names.asked hands back goes through them.
  What flows ask for, as a list: plain mathematics, and how it stands in memory.
-/
import Derived.RangeFuncNested
import Derived.Test.YtdenddknbmiboaaDoorG2
import Derived.Deep.AppendLies
import Derived.Test.YtdenddknbmiboaaDoorG1
import Derived.WalkSmall
import Derived.Maps.AppendAt
import Derived.Laws.OwnMore
import Derived.Deep.RegionHeld3
import Derived.ProofKit
import Derived.OpenShut
import Derived.ShutString
import Derived.ChangeOld
import Derived.RangeFuncBound
import Derived.RangeFuncCalls
import Derived.RangeFuncLeaves
import Derived.Shelf.Abstract
import Derived.Shelf.RegionOpen
import Derived.OwnWalkIn
import Derived.TacticsInMore
import Derived.LoopNIn
import Derived.LoopIn
import Derived.BigRegionIn
namespace Go.Proofs.YtdenddknbmiboaaDoor.Lex
open Go.RowKit
/-- A set of blocks. -/
abbrev Bl := Nat → Prop
/-- All blocks lie as they lay, but some. -/
structure Buts (own : Bl) (W W' : World) : Prop where
  os : W'.os = W.os
  tape : W'.tape = W.tape
  output : W'.output = W.output
  size : W.heap.size ≤ W'.heap.size
  same : ∀ b, b < W.heap.size → ¬ own b → W'.heap[b]? = W.heap[b]?
theorem Buts.refl (own : Bl) (W : World) : Buts own W W := ⟨rfl, rfl, rfl, Nat.le_refl _, fun _ _ _ => rfl⟩
theorem Buts.trans {own : Bl} {A B C : World} (h : Buts own A B) (k : Buts own B C) : Buts own A C :=
  ⟨k.os.trans h.os, k.tape.trans h.tape, k.output.trans h.output, Nat.le_trans h.size k.size, fun b hb hn => (k.same b (Nat.lt_of_lt_of_le hb h.size) hn).trans (h.same b hb hn)⟩
theorem Buts.mono {own own' : Bl} {A B : World} (h : Buts own A B) (hi : ∀ b, b < A.heap.size → own b → own' b) : Buts own' A B := ⟨h.os, h.tape, h.output, h.size, fun b hb hn => h.same b hb (fun ho => hn (hi b hb ho))⟩
theorem Buts.below {own : Bl} {A B : World} (h : Below A.heap.size A B) : Buts own A B := ⟨h.os, h.tape, h.output, h.size, fun b hb _ => h.block b hb⟩
theorem Buts.put {own : Bl} (W : World) (r : Nat) (o : Obj) (h : own r) : Buts own W (W.putObj r o) := ⟨rfl, rfl, rfl, by simp, fun b _ hn => World.putObj_heap_other (fun e => hn (by rw [e]; exact h))⟩
/-- A step that turns no block below one, nor any of some. -/
structure Far (B : Nat) (T : Bl) (A C : World) : Prop where
  os : C.os = A.os
  tape : C.tape = A.tape
  output : C.output = A.output
  size : A.heap.size ≤ C.heap.size
  block : ∀ b, b < A.heap.size → (b < B ∨ T b) → C.heap[b]? = A.heap[b]?
theorem Far.of_below {B : Nat} {T : Bl} {A C : World} (h : Below A.heap.size A C) : Far B T A C := ⟨h.os, h.tape, h.output, h.size, fun b hb _ => h.block b hb⟩
theorem Buts.set {own : Bl} (W : World) (b o : Nat) (v : Value) (h : own b) : Buts own W (W.setCell ⟨b, o, none⟩ v) := ⟨rfl, rfl, rfl, by simp [World.setCell], fun x _ hn => Below.heap_setCell _ _ _ _ (fun e => hn (by rw [e]; exact h))⟩
theorem Buts.low {own : Bl} {n : Nat} {A B : World} (h : Buts own A B) (hn : ∀ b, b < n → ¬ own b) (hs : n ≤ A.heap.size) : Below n A B := ⟨h.os, h.tape, h.output, h.size, fun b hb => h.same b (by omega) (hn b hb)⟩
theorem Buts.row {own : Bl} {A B : World} (h : Buts own A B) {b : Nat} {o : Obj} (hb : A.heap[b]? = some o) (hn : ¬ own b) : B.heap[b]? = some o := (h.same b (Array.getElem?_eq_some_iff.1 hb).1 hn).trans hb
/-- A cell stays where its block does. -/
theorem cell_same {A B : World} {b o : Nat} {v : Value} (e : B.heap[b]? = A.heap[b]?) (h : A.cell? ⟨b, o, none⟩ = some v) : B.cell? ⟨b, o, none⟩ = some v := by
  unfold World.cell? at h ⊢
  rw [← h]
  simp only [e]
/-- It speaks of blocks below one, and of some, alone. -/
def LowT {β : Type} (B : Nat) (J : β → Bl → World → Prop) : Prop := ∀ s T A C, J s T A → Far B T A C → J s T C
/-- Blocks that were laid since. -/
def Since (B : Nat) (T : Bl) (W : World) : Prop := ∀ b, T b → B ≤ b ∧ b < W.heap.size
/-- They were there, or are new. -/
def Newer (T T' : Bl) (W W' : World) : Prop := ∀ b, T' b → T b ∨ (W.heap.size ≤ b ∧ b < W'.heap.size)
/-- What a function promises: each round turns what the rounds have laid, and what lay ahead of it and is not kept, alone. -/
def SeqT {α : Type} (F : Fence) (n : Nat) (P : Program) (g : Nat) (lb : Array Value) (encs : α → Array Value) (kept : Bl) (S Sp : List α → Prop) (N : Nat) (w : World) : Prop :=
  ∀ (l : Nat) (J Jx : List α → Bl → World → Prop) (W : World), Below w.heap.size w W → LowT W.heap.size J → LowT W.heap.size Jx →
    (∀ pre x T W1, J pre T W1 → Since W.heap.size T W1 → W.heap.size ≤ W1.heap.size → pre.length < N → Sp (pre ++ [x]) → YieldAt F (n - 1) P l (encs x) W1 fun e W' =>
      (e = .returned (.bool true) ∧ ∃ T', Newer T T' W1 W' ∧ J (pre ++ [x]) T' W' ∧ Buts (fun b => T b ∨ (b < W.heap.size ∧ ¬ kept b)) W1 W') ∨ (e = .returned (.bool false) ∧ Buts (fun b => T b ∨ (b < W.heap.size ∧ ¬ kept b)) W1 W' ∧ ∃ T', Newer T T' W1 W' ∧ Jx (pre ++ [x]) T' W')) →
    J [] (fun _ => False) W →
    CallsIn F n P g (#[.func (.yield l) #[] #[]] ++ lb) W fun e W' => (∃ v, e = .returned v) ∧ ∃ T', Since W.heap.size T' W' ∧ W.heap.size ≤ W'.heap.size ∧ ((∃ xs, S xs ∧ J xs T' W') ∨ (∃ pre, Sp pre ∧ Jx pre T' W'))
/-- How the body may be left. -/
def leftT {α : Type} (own : Bl) (I : List α → Bl → World → Prop) (Ix : Code → List α → Bl → World → Prop) (xs : List α) (T : Bl) (W : World) : Exit → Act → World → Prop
  | .normal, _, W' => ∃ T', Newer T T' W W' ∧ Buts (fun b => T b ∨ own b) W W' ∧ I xs T' W'
  | .ret, _, W' => ∃ T', Newer T T' W W' ∧ Buts (fun b => T b ∨ own b) W W' ∧ Ix .ret xs T' W'
  | .exit id, _, W' => ∃ T', Newer T T' W W' ∧ Buts (fun b => T b ∨ own b) W W' ∧ Ix (.exit id) xs T' W'
  | .goto t, _, W' => ∃ T', Newer T T' W W' ∧ Buts (fun b => T b ∨ own b) W W' ∧ Ix (.goto t) xs T' W'
  | .panic _, _, _ => False
  | .outgrown, _, _ => False
variable {F : Fence} {n : Nat} {P : Program}
theorem range_T {α : Type} {g : Operand} {ps : Array Tmp} {assign body : Code} {Q : Exit → Act → World → Prop} {a : Act} {w : World}
    (hro : F.round = none) (h1 : 1 ≤ n) {gf : Nat} {lb : Array Value} (hg : a.eval g = .func (.func gf) #[] lb) (hFg : F.fn gf) (eg : ∀ args w, (callFunc gf args).run P w = .ok (.enter gf args) w)
    {encs : α → Array Value} {kept own : Bl} {S Sp : List α → Prop} {N : Nat} {w0 : World} (hseq : SeqT F (n - 1) P gf lb encs kept S Sp N w0) (hb0 : Below w0.heap.size w0 w) (hps : ∀ x, (encs x).size = ps.size)
    (hown : ∀ b, own b → b < w.heap.size ∧ ¬ kept b) (hkept : ∀ b, kept b → b < w.heap.size)
    (I : List α → Bl → World → Prop) (Ix : Code → List α → Bl → World → Prop) (hI : LowT w.heap.size I) (hIx : ∀ c, LowT w.heap.size (Ix c)) (h0 : I [] (fun _ => False) w)
    (Ax : α → Act → World → Prop) (hAx : ∀ x a' W o, w.heap.size + 2 ≤ W.heap.size → Ax x a' W → Ax x a' (W.putObj (w.heap.size + 1) o))
    (hassign : ∀ (l : Nat) (pre : List α) (x : α) (T : Bl) (W : World) (K : Act → World → Prop), w.heap.size + 2 ≤ W.heap.size → I pre T W → (∀ a' W', Below W.heap.size W W' → Ax x a' W' → K a' W') →
      assign.wpIn (F.inRound l) (n - 1 - 1) P (Exit.then K (fun _ _ _ => False)) { tmps := (ps.zip (encs x)).foldl (fun t (p, v) => t.setIfInBounds p v) a.tmps, defers := [] } W)
    (hbody : ∀ (l : Nat) (pre : List α) (x : α) (T : Bl) (a' : Act) (W : World), w.heap.size + 2 ≤ W.heap.size → Since (w.heap.size + 2) T W → I pre T W → Ax x a' W → pre.length < N → Sp (pre ++ [x]) → body.wpIn (F.inRound l) (n - 1 - 1) P (leftT own I Ix (pre ++ [x]) T W) a' W)
    (hdone : ∀ (D : Nat) (xs : List α) (T : Bl) (W : World), w.heap.size = D → w.heap.size ≤ W.heap.size → S xs → Since (w.heap.size + 2) T W → I xs T W → W.heap[D]? = some (.deferred (some [])) → Q .normal { a with defers := { target := .collected D, args := #[] } :: a.defers } W)
    (hstop : ∀ (D : Nat) (c : Code) (pre : List α) (T : Bl) (W : World), w.heap.size = D → w.heap.size ≤ W.heap.size → Sp pre → Since (w.heap.size + 2) T W → Ix c pre T W → W.heap[D]? = some (.deferred (some [])) → c.wpIn F n P Q { a with defers := { target := .collected D, args := #[] } :: a.defers } W) :
    (Code.rangeFunc g ps assign body).wpIn F n P Q a w := by
  refine wpIn_rangeFunc fun fn hfn => ?_
  rw [hro]
  obtain ⟨mk, hmk⟩ : ∃ mk : LoopState → Option Code → Obj, mk = fun st pe => .loop { state := st, pending := pe, fn := fn, tmps := a.tmps, params := ps, assign := assign, body := body, defers := w.heap.size } := ⟨_, rfl⟩
  obtain ⟨V, hV⟩ : ∃ V, V = (w.alloc (.deferred (some []))).alloc (mk .ready none) := ⟨_, rfl⟩
  have sV : V.heap.size = w.heap.size + 2 := by rw [hV]; simp
  have bV : Below w.heap.size w V := by rw [hV]; exact ((Below.refl _ w).alloc (Nat.le_refl _) _).alloc (by simp) _
  have dV : V.heap[w.heap.size]? = some (.deferred (some [])) := by rw [hV]; exact (Below.heap_alloc _ _ _ (by simp)).trans (World.alloc_heap_new w _)
  have lV : V.heap[w.heap.size + 1]? = some (mk .ready none) := by
    have := World.alloc_heap_new (w.alloc (.deferred (some []))) (mk .ready none)
    rw [hV]
    rwa [World.size_alloc] at this
  refine ⟨w.heap.size + 1, [{ target := .collected w.heap.size, args := #[] }], V, { target := .fn (.func gf) lb, args := #[.func (.yield (w.heap.size + 1)) #[] #[]] }, V, gf, #[.func (.yield (w.heap.size + 1)) #[] #[]] ++ lb, V, ?_, ?_, ?_, ?_, fun _ => h1, ?_⟩
  · rw [hV, hmk]; exact run_enterLoop_outer _ _ _ _ _
  · simp only [resolve, hg]
    simp [go_sem]
  · intro f' hf'
    simp [Target.leads] at hf'
    subst hf'
    exact hFg
  · simp [invoke, go_sem, eg]
  have putP : ∀ {β : Type} {J : β → Bl → World → Prop} (_ : LowT w.heap.size J) (s : β) (T : Bl) (W : World) (o : Obj), Since (w.heap.size + 2) T W → J s T W → J s T (W.putObj (w.heap.size + 1) o) := fun hJ s T W o hs h => hJ s T W _ h ⟨rfl, rfl, rfl, by simp, fun b hb hor => World.putObj_heap_other (fun e => by
    rcases hor with h | h
    · omega
    · have := (hs b h).1; omega)⟩
  have sinceV : ∀ {T : Bl} {W : World}, Since V.heap.size T W → Since (w.heap.size + 2) T W := fun h b hb => by have := h b hb; omega
  refine (hseq (w.heap.size + 1) (fun pre T W => I pre T W ∧ W.heap[w.heap.size + 1]? = some (mk .ready none) ∧ W.heap[w.heap.size]? = some (.deferred (some [])))
    (fun pre T W => ∃ c, Ix c pre T W ∧ W.heap[w.heap.size + 1]? = some (mk .done (some c)) ∧ W.heap[w.heap.size]? = some (.deferred (some []))) V (hb0.trans (bV.mono hb0.size)) ?_ ?_ ?_ ⟨hI [] _ w V h0 (Far.of_below bV), lV, dV⟩).mono ?_
  · rintro s T A C ⟨x1, x2, x3⟩ hf
    have l1 := (Array.getElem?_eq_some_iff.1 x2).1
    exact ⟨hI s T A C x1 ⟨hf.os, hf.tape, hf.output, hf.size, fun b hb ho => hf.block b hb (ho.imp (fun h => by omega) id)⟩, (hf.block _ l1 (.inl (by omega))).trans x2, (hf.block _ (by omega) (.inl (by omega))).trans x3⟩
  · rintro s T A C ⟨c, x1, x2, x3⟩ hf
    have l1 := (Array.getElem?_eq_some_iff.1 x2).1
    exact ⟨c, hIx c s T A C x1 ⟨hf.os, hf.tape, hf.output, hf.size, fun b hb ho => hf.block b hb (ho.imp (fun h => by omega) id)⟩, (hf.block _ l1 (.inl (by omega))).trans x2, (hf.block _ (by omega) (.inl (by omega))).trans x3⟩
  · rintro pre x T W ⟨hi, hl, hk⟩ hsn hsz hlen hsp
    have hl' := hl
    rw [hmk] at hl'
    refine ⟨fn, _, assign, body, run_yield hl' (hps x), roundIn_of_wpIn hfn (hassign _ pre x T W _ (by omega) hi ?_)⟩
    intro a' Wa hbl hax
    have hla : Wa.heap[w.heap.size + 1]? = some (mk .ready none) := (hbl.block _ (by omega)).trans hl
    have hka : Wa.heap[w.heap.size]? = some (.deferred (some [])) := (hbl.block _ (by omega)).trans hk
    have hsa : Since (w.heap.size + 2) T Wa := fun b hb => by have := hsn b hb; have := hbl.size; omega
    have hia := hI pre T W Wa hi (Far.of_below hbl)
    have hszA := hbl.size
    have hla' := hla
    rw [hmk] at hla'
    refine ⟨_, run_beginRound hla' rfl, ?_⟩
    obtain ⟨busy, hbusy⟩ : ∃ busy : Obj, busy = .loop { state := .busy, pending := none, fn := fn, tmps := a.tmps, params := ps, assign := assign, body := body, defers := w.heap.size } := ⟨_, rfl⟩
    show body.wpIn _ _ P _ _ (Wa.putObj (w.heap.size + 1) (.loop { state := .busy, pending := none, fn := fn, tmps := a.tmps, params := ps, assign := assign, body := body, defers := w.heap.size }))
    rw [← hbusy]
    have hsb : Since (w.heap.size + 2) T (Wa.putObj (w.heap.size + 1) busy) := fun b hb => by have := hsa b hb; simp; omega
    refine wpIn_mono (hbody _ pre x T a' (Wa.putObj (w.heap.size + 1) busy) (by simp; omega) hsb (putP hI _ _ _ _ hsa hia) (hAx _ _ _ _ (by omega) hax) hlen hsp) ?_
    have fin : ∀ (jump : Option Code) (W3 : World), Buts (fun b => T b ∨ own b) (Wa.putObj (w.heap.size + 1) busy) W3 →
        (Instr.endRound (w.heap.size + 1) jump).run P W3 = .ok (.bool jump.isNone) (W3.putObj (w.heap.size + 1) (mk (if jump.isNone then .ready else .done) jump)) ∧
        (W3.putObj (w.heap.size + 1) (mk (if jump.isNone then .ready else .done) jump)).heap[w.heap.size + 1]? = some (mk (if jump.isNone then .ready else .done) jump) ∧
        (W3.putObj (w.heap.size + 1) (mk (if jump.isNone then .ready else .done) jump)).heap[w.heap.size]? = some (.deferred (some [])) := fun jump W3 hk3 => by
      have hno : ¬ (T (w.heap.size + 1) ∨ own (w.heap.size + 1)) := fun ho => by
        rcases ho with ho | ho
        · have := (hsa _ ho).1; omega
        · have := (hown _ ho).1; omega
      have hno' : ¬ (T w.heap.size ∨ own w.heap.size) := fun ho => by
        rcases ho with ho | ho
        · have := (hsa _ ho).1; omega
        · have := (hown _ ho).1; omega
      have e1 : W3.heap[w.heap.size + 1]? = some busy := (hk3.same _ (by simp; omega) hno).trans (World.putObj_heap_same (by omega))
      have e2 : W3.heap[w.heap.size]? = some (.deferred (some [])) := (hk3.same _ (by simp; omega) hno').trans ((World.putObj_heap_other (by omega)).trans hka)
      have hr := e1
      rw [hbusy] at hr
      refine ⟨?_, World.putObj_heap_same (Array.getElem?_eq_some_iff.1 e1).1, (World.putObj_heap_other (by omega)).trans e2⟩
      rw [hmk]
      exact run_endRound jump hr
    have new : ∀ {T' : Bl} {W3 : World} (o : Obj), Newer T T' (Wa.putObj (w.heap.size + 1) busy) W3 → Newer T T' W (W3.putObj (w.heap.size + 1) o) := fun o h b hb => by
      rcases h b hb with h | h
      · exact .inl h
      · refine .inr ?_; simp at h; simp; omega
    have snc : ∀ {T' : Bl} {W3 : World}, (Wa.putObj (w.heap.size + 1) busy).heap.size ≤ W3.heap.size → Newer T T' (Wa.putObj (w.heap.size + 1) busy) W3 → Since (w.heap.size + 2) T' W3 := fun hs h b hb => by
      simp at hs
      rcases h b hb with h | h
      · have := hsa b h; omega
      · simp at h; omega
    have bt : ∀ {W3 : World} (o : Obj), Buts (fun b => T b ∨ own b) (Wa.putObj (w.heap.size + 1) busy) W3 → Buts (fun b => T b ∨ (b < V.heap.size ∧ ¬ kept b)) W (W3.putObj (w.heap.size + 1) o) := fun o hk3 => by
      have hk1 : ¬ kept (w.heap.size + 1) := fun hk => by have := hkept _ hk; omega
      refine (((Buts.below hbl).trans (Buts.put Wa (w.heap.size + 1) busy ?_)).trans (hk3.mono fun b _ hb => ?_)).trans (Buts.put _ _ _ ?_)
      · exact .inr ⟨by omega, hk1⟩
      · rcases hb with hb | hb
        · exact .inl hb
        · have := hown b hb; exact .inr ⟨by omega, this.2⟩
      · exact .inr ⟨by omega, hk1⟩
    rintro e a3 W3 hp
    cases e with
    | normal =>
      obtain ⟨T', hn, hk3, hi3⟩ := hp
      obtain ⟨hr, hl4, hk4⟩ := fin none W3 hk3
      exact ⟨_, _, hr, .inl ⟨rfl, T', new _ hn, ⟨putP hI _ _ _ _ (snc hk3.size hn) hi3, hl4, hk4⟩, bt _ hk3⟩⟩
    | ret =>
      obtain ⟨T', hn, hk3, hi3⟩ := hp
      obtain ⟨hr, hl4, hk4⟩ := fin (some .ret) W3 hk3
      exact ⟨_, _, hr, .inr ⟨rfl, bt _ hk3, T', new _ hn, .ret, putP (hIx _) _ _ _ _ (snc hk3.size hn) hi3, hl4, hk4⟩⟩
    | exit id =>
      obtain ⟨T', hn, hk3, hi3⟩ := hp
      obtain ⟨hr, hl4, hk4⟩ := fin (some (.exit id)) W3 hk3
      exact ⟨_, _, hr, .inr ⟨rfl, bt _ hk3, T', new _ hn, .exit id, putP (hIx _) _ _ _ _ (snc hk3.size hn) hi3, hl4, hk4⟩⟩
    | goto t =>
      obtain ⟨T', hn, hk3, hi3⟩ := hp
      obtain ⟨hr, hl4, hk4⟩ := fin (some (.goto t)) W3 hk3
      exact ⟨_, _, hr, .inr ⟨rfl, bt _ hk3, T', new _ hn, .goto t, putP (hIx _) _ _ _ _ (snc hk3.size hn) hi3, hl4, hk4⟩⟩
    | panic ch => exact hp.elim
    | outgrown => exact hp.elim
  · rintro e W2 ⟨⟨v, rfl⟩, T', hsn, hsz, ⟨xs, hS, hi, hl, hk⟩ | ⟨pre, hSp, c, hi, hl, hk⟩⟩
    · rw [hmk] at hl
      exact ⟨none, _, run_endLoop hl (by simp), hdone _ xs T' _ rfl (by simp; omega) hS (fun b hb => by have := hsn b hb; simp; omega) (putP hI _ _ _ _ (sinceV hsn) hi) ((World.putObj_heap_other (by omega)).trans hk)⟩
    · rw [hmk] at hl
      exact ⟨some c, _, run_endLoop hl (by simp), hstop _ c pre T' _ rfl (by simp; omega) hSp (fun b hb => by have := hsn b hb; simp; omega) (putP (hIx c) _ _ _ _ (sinceV hsn) hi) ((World.putObj_heap_other (by omega)).trans hk)⟩
end Go.Proofs.YtdenddknbmiboaaDoor.Lex
namespace Go.Proofs.YtdenddknbmiboaaDoor.Lex
open Go.ChangeShapes Go.WideShapes Go.ChangeAt Go.RowKit Go.Joins
/-- A flow that asks: its place, its station, how long ago. -/
structure Ak where
  fl : Nat
  st : Int
  ago : Nat
def akC (a : Ak) : List Value := [.int .i64 (a.fl : Int), .int .i64 a.st, .int .i64 (a.ago : Int)]
abbrev akV (a : Ak) : Value := .agg #[.int .i64 (a.fl : Int), .int .i64 a.st, .int .i64 (a.ago : Int)]
def aksC (l : List Ak) : List Value := (l.map akC).flatten
theorem aksC_len (l : List Ak) : (aksC l).length = l.length * 3 := by
  induction l with
  | nil => rfl
  | cons a l ih =>
    show (akC a ++ aksC l).length = _
    rw [List.length_append, ih]
    simp [akC]
    omega
theorem aksC_app (l m : List Ak) : aksC (l ++ m) = aksC l ++ aksC m := by simp [aksC]
theorem aksC_one (a : Ak) : aksC [a] = akC a := by simp [aksC]
theorem aksC_at (l : List Ak) : ∀ i (h : i < l.length) j, j < 3 → (aksC l)[i * 3 + j]? = (akC l[i])[j]? := by
  induction l with
  | nil => intro i h; cases h
  | cons a l ih =>
    intro i h j hj
    show (akC a ++ aksC l)[i * 3 + j]? = _
    cases i with
    | zero => rw [List.getElem?_append_left (by simp [akC]; omega)]; simp
    | succ i =>
      rw [List.getElem?_append_right (by simp [akC]; omega)]
      have : (i + 1) * 3 + j - (akC a).length = i * 3 + j := by simp [akC]; omega
      rw [this, ih i (by simpa using h) j hj]
      rfl
/-- A row of them, in memory of its own. -/
abbrev RowA (W : World) (base : Nat) (v : Value) (l : List Ak) : Prop := W.ownsRow base 148 3 v l.length (aksC l)
/-- A row of them that is read. -/
def AkAt (W : World) (lo : Nat) (v : Value) (l : List Ak) : Prop := ∃ ao cap, v = .slice ao l.length cap ∧ (l.length = 0 ∨ ∃ g, ao = some ⟨g, 0, none⟩ ∧ (lo < g ∧ g < W.heap.size) ∧ ∀ i (h : i < l.length), W.cell? ⟨g, i * 3, none⟩ = some (.int .i64 (l[i].fl : Int)) ∧ W.cell? ⟨g, i * 3 + 1, none⟩ = some (.int .i64 l[i].st) ∧ W.cell? ⟨g, i * 3 + 2, none⟩ = some (.int .i64 (l[i].ago : Int)))
theorem RowA.at {W : World} {base : Nat} {v : Value} {l : List Ak} (h : RowA W base v l) {lo : Nat} (hlo : lo < base) : AkAt W lo v l := by
  rcases h.2 with ⟨rfl, h0⟩ | ⟨g, cap, cur, rfl, hbg, hg, _⟩
  · exact ⟨none, 0, by rw [h0], .inl h0⟩
  · refine ⟨_, cap, rfl, .inr ⟨g, rfl, ⟨by omega, (Array.getElem?_eq_some_iff.1 hg).1⟩, fun i hi => ?_⟩⟩
    have q : ∀ j, j < 3 → W.cell? ⟨g, i * 3 + j, none⟩ = (akC l[i])[j]? := fun j hj => by rw [h.cellAt _ (by omega), aksC_at l i hi j hj]
    exact ⟨q 0 (by omega), q 1 (by omega), q 2 (by omega)⟩
theorem AkAt.far {W W' : World} {lo : Nat} {v : Value} {l : List Ak} (h : AkAt W lo v l) (hb : ∀ b, lo < b → b < W.heap.size → W'.heap[b]? = W.heap[b]?) (hs : W.heap.size ≤ W'.heap.size) : AkAt W' lo v l := by
  obtain ⟨ao, cap, rfl, h⟩ := h
  refine ⟨ao, cap, rfl, ?_⟩
  rcases h with h | ⟨g, e, hg, h⟩
  · exact .inl h
  · have hh := hb g hg.1 hg.2
    exact .inr ⟨g, e, ⟨hg.1, by omega⟩, fun i hi => by obtain ⟨h1, h2, h3⟩ := h i hi; exact ⟨cell_same hh h1, cell_same hh h2, cell_same hh h3⟩⟩
/-- Those of one name. -/
def akOf (L : List (ByteArray × Ak)) (nm : ByteArray) : List Ak := (L.filter fun x => x.1.data.toList == nm.data.toList).map (·.2)
theorem bytes_eq {a b : ByteArray} (h : a.data.toList = b.data.toList) : a = b := by
  obtain ⟨⟨l⟩⟩ := a
  obtain ⟨⟨l'⟩⟩ := b
  simp only at h
  rw [h]
theorem akOf_app (L : List (ByteArray × Ak)) (x nm : ByteArray) (a : Ak) : akOf (L ++ [(x, a)]) nm = if nm = x then akOf L nm ++ [a] else akOf L nm := by
  unfold akOf
  rw [List.filter_append, List.map_append]
  by_cases e : nm = x
  · subst e
    simp
  · have e2 : (x.data.toList == nm.data.toList) = false := by
      rw [beq_eq_false_iff_ne]
      exact fun h => e (bytes_eq h).symm
    rw [if_neg e, List.filter_cons, e2]
    simp
/-- The map with its rows, while it grows. -/
structure AM (W : World) (base mb : Nat) (L : List (ByteArray × Ak)) (V : ByteArray → Option Sl) : Prop where
  m : KMap W mb L.length V
  rows : ∀ nm, NmK nm → RowA W base (slV (V nm)) (akOf L nm)
  ap : ∀ a b g, NmK a → NmK b → (slV (V a)).ownBlock = some g → (slV (V b)).ownBlock = some g → a = b
  lt : mb < base
/-- The map with its rows, that is read. -/
def AMr (W : World) (mb : Nat) (L : List (ByteArray × Ak)) : Prop := mb < W.heap.size ∧ ∃ n V, KMap W mb n V ∧ ∀ nm, NmK nm → AkAt W mb (slV (V nm)) (akOf L nm)
theorem AM.read {W : World} {base mb : Nat} {L : List (ByteArray × Ak)} {V : ByteArray → Option Sl} (h : AM W base mb L V) : AMr W mb L := ⟨h.m.lt, _, V, h.m, fun nm hn => (h.rows nm hn).at h.lt⟩
theorem AMr.far {W W' : World} {mb : Nat} {L : List (ByteArray × Ak)} (h : AMr W mb L) (hb : ∀ b, mb ≤ b → b < W.heap.size → W'.heap[b]? = W.heap[b]?) (hs : W.heap.size ≤ W'.heap.size) : AMr W' mb L := by
  obtain ⟨h0, n, V, h1, h2⟩ := h
  exact ⟨Nat.lt_of_lt_of_le h0 hs, n, V, h1.block (hb mb (Nat.le_refl _) h0), fun nm hn => (h2 nm hn).far (fun b hl => hb b (by omega)) hs⟩
theorem AMr.keep {W W' : World} {mb : Nat} {L : List (ByteArray × Ak)} (h : AMr W mb L) (hb : Below W.heap.size W W') : AMr W' mb L := h.far (fun b _ hl => hb.block b hl) hb.size
theorem AMr.look {W : World} {mb : Nat} {L : List (ByteArray × Ak)} (h : AMr W mb L) {nm : ByteArray} (hn : NmK nm) : ∃ v, AkAt W mb v (akOf L nm) ∧ ∀ W', W'.heap[mb]? = W.heap[mb]? → (Instr.lookup 77 (.map (some mb)) (kV nm) false).run Tryd.prog W' = .ok v W' := by
  obtain ⟨h0, n, V, h1, h2⟩ := h
  exact ⟨_, h2 nm hn, fun W' hb => (h1.block hb).look hn⟩
theorem AM.new (W : World) : AM (W.alloc (.map #[] 0)) (W.heap.size + 1) W.heap.size [] (fun _ => none) :=
  ⟨KMap.new W, fun _ _ => ⟨rfl, .inl ⟨rfl, rfl⟩⟩, fun _ _ _ _ _ h => (by cases h), Nat.lt_succ_self _⟩
end Go.Proofs.YtdenddknbmiboaaDoor.Lex
namespace Go.Proofs.YtdenddknbmiboaaDoor.Lex
open Go.ChangeShapes Go.WideShapes Go.ChangeAt Go.RowKit Go.Joins
theorem Tw.out {w : World} {lo : Nat} {x : Ex} {s : Value} (h : Tw w lo x s) : ∃ (b cap : Nat) (sl : Nat → Value), s = .slice (some ⟨b, 0, none⟩) x.args.length cap ∧ x.args.length ≤ 2513169434843 ∧ x.args.length < cap ∧
    (∀ i (h : i < x.args.length), w.cell? ⟨b, i * 4, none⟩ = some (.int .u8 (x.args[i].op : Int)) ∧ w.cell? ⟨b, i * 4 + 1, none⟩ = some (.int .i64 x.args[i].n) ∧ w.cell? ⟨b, i * 4 + 2, none⟩ = some (.string x.args[i].name) ∧ w.cell? ⟨b, i * 4 + 3, none⟩ = some (sl i)) ∧
    (w.cell? ⟨b, x.args.length * 4, none⟩ = some (.int .u8 0) ∧ w.cell? ⟨b, x.args.length * 4 + 1, none⟩ = some (.int .i64 0) ∧ w.cell? ⟨b, x.args.length * 4 + 2, none⟩ = some (.string spare) ∧ w.cell? ⟨b, x.args.length * 4 + 3, none⟩ = some (.slice none 0 0)) ∧
    ∀ i (h : i < x.args.length), Tw w lo x.args[i] (sl i) := by
  obtain ⟨b, cap, sl, e, _, _, _, _, hlen, hcap, hc, hsp, hs⟩ := h.full
  exact ⟨b, cap, sl, e, hlen, hcap, hc, hsp, hs⟩
end Go.Proofs.YtdenddknbmiboaaDoor.Lex
namespace Go.Proofs.YtdenddknbmiboaaDoor.Lex
open Go.ChangeShapes Go.WideShapes Go.ChangeAt Go.RowKit Go.Joins
/-- How great parts are behind so many, where at most so many may be. -/
def szL (f : Nat → Ex → Option Nat) (most : Nat) : Nat → List Ex → Option Nat
  | n, [] => some n
  | n, a :: l => match f (most - n) a with
    | none => none
    | some k => szL f most (n + k) l
/-- How great it is, if it may be, so deep and so great at most. -/
def sz : Nat → Nat → Ex → Option Nat
  | 0, _, _ => none
  | d + 1, most, x => if most = 0 ∨ fieldsOk x.op x.n x.name x.args.length = false then none else szL (sz d) most 1 x.args
theorem szL_le {f : Nat → Ex → Option Nat} (hf : ∀ m a k, f m a = some k → 1 ≤ k ∧ k ≤ m) (most : Nat) : ∀ (l : List Ex) (n r : Nat), n ≤ most → szL f most n l = some r → n ≤ r ∧ r ≤ most
  | [], n, r, hn, h => by simp only [szL, Option.some.injEq] at h; omega
  | a :: l, n, r, hn, h => by
    simp only [szL] at h
    cases e : f (most - n) a with
    | none => rw [e] at h; cases h
    | some k =>
      rw [e] at h
      have := hf _ _ _ e
      have := szL_le hf most l (n + k) r (by omega) h
      omega
theorem sz_le : ∀ (d most : Nat) (x : Ex) (k : Nat), sz d most x = some k → 1 ≤ k ∧ k ≤ most
  | 0, most, x, k, h => by simp [sz] at h
  | d + 1, most, x, k, h => by
    rw [sz] at h
    split at h
    · cases h
    · next hn => exact szL_le (fun m a k => sz_le d m a k) most x.args 1 k (by omega) h
/-- May it be? -/
def chk (x : Ex) : Bool := (sz 32 200 x).isSome
theorem set_same {w : World} {b : Nat} {c : Array Value} {t : TypeId} {f : Nat × Nat} (h : w.heap[b]? = some (.cells c t f)) (i : Nat) (u : Value) :
    (w.setCell ⟨b, i, none⟩ u).heap[b]? = some (.cells (c.setIfInBounds i u) t f) := by
  obtain ⟨hlt, hk⟩ := Array.getElem?_eq_some_iff.1 h
  show (w.heap.modify b _)[b]? = _
  rw [Array.getElem?_eq_getElem (by rw [Array.size_modify]; exact hlt), Array.getElem_modify_self, hk]
  rfl
/-- A count in a cell of its own, beyond all that came in. -/
structure Lf (w0 w : World) (b : Nat) (M : Int) (W : World) : Prop where
  base : Below w0.heap.size w0 W
  below : Below b w W
  cell : W.heap[b]? = some (.cells #[.int .i64 M] 3 (0, 0))
theorem Lf.step {w0 w W W' : World} {b : Nat} {M : Int} (h : Lf w0 w b M W) (hb : Below W.heap.size W W') : Lf w0 w b M W' :=
  have hlt := (Array.getElem?_eq_some_iff.1 h.cell).1
  ⟨bstep h.base hb, h.below.trans (hb.mono (by omega)), (hb.block b hlt).trans h.cell⟩
theorem Lf.set {w0 w W : World} {b : Nat} {M : Int} (h : Lf w0 w b M W) (hb : w0.heap.size ≤ b) (M' : Int) : Lf w0 w b M' (W.setCell ⟨b, 0, none⟩ (.int .i64 M')) :=
  ⟨h.base.setCell (p := ⟨b, 0, none⟩) hb _, h.below.setCell (p := ⟨b, 0, none⟩) (Nat.le_refl _) _, set_same h.cell 0 _⟩
theorem Lf.at {w0 w W : World} {b : Nat} {M : Int} (h : Lf w0 w b M W) : W.cell? ⟨b, 0, none⟩ = some (.int .i64 M) ∧ W.frozen? ⟨b, 0, none⟩ = false :=
  ⟨by rw [cell_of_row _ _ _ _ 3 (0, 0) h.cell]; rfl, frozen_of_row _ _ _ _ _ h.cell⟩
/-- What fits answers. -/
def FitC (d : Nat) : Prop := ∀ (x : Ex) (w0 w : World) (s : Value) (b L : Nat), L ≤ 200 → St w0 x s → Below w0.heap.size w0 w → w0.heap.size ≤ b → w.heap[b]? = some (.cells #[.int .i64 (L : Int)] 3 (0, 0)) → TabR w0 → TabJ w0 →
  Calls Tryd.prog 90 #[exV x s, .int .i64 (d : Int), .pointer (some ⟨b, 0, none⟩)] w fun e w' => e = .returned (.bool (sz d L x).isSome) ∧ Below b w w' ∧ ∀ k, sz d L x = some k → Lf w0 w b ((L : Int) - (k : Int)) w'
/-- The cells of a value in a box. -/
theorem box_at (w : World) (c : Array Value) (t : TypeId) (j : Nat) (v : Value) (h : c[j]? = some v) : (w.alloc (.cells c t)).cell? ⟨w.heap.size, j, none⟩ = some v := by
  rw [World.cell?_alloc_at _ _ _ _ rfl]; exact h
set_option maxRecDepth 100000 in
set_option maxHeartbeats 1000000 in
theorem fits_zero : FitC 0 := by
  intro x w0 w s b L hL hS hB hb hc hR hJ
  obtain ⟨ao, cap, sl, rfl, _⟩ := hS.out
  have hsz : sz 0 L x = none := by simp [sz]
  have l0 : Lf w0 w b (L : Int) (w.alloc (.cells #[.int .u8 (x.op : Int), .int .i64 x.n, .string x.name, .slice ao x.args.length cap] 70)) := Lf.step ⟨hB, Below.refl _ _, hc⟩ ((Below.refl _ _).alloc (Nat.le_refl _) _)
  have l1 := l0.set hb ((L : Int) - 1)
  obtain ⟨y0, y1⟩ := l0.at
  rw [hsz]
  have H1 := hid l1.below
  clear l0 l1 hc hsz hS hR hJ hB
  go_enter Tryd.func90, Tryd.ntmps90
  go_wp2
  go_ret
  exact ⟨rfl, H1.out, fun k h => by cases h⟩
set_option maxRecDepth 100000 in
set_option maxHeartbeats 1000000 in
theorem fits_none (d : Nat) (hd : d + 1 ≤ 32) : ∀ (x : Ex) (w0 w : World) (s : Value) (b : Nat), St w0 x s → Below w0.heap.size w0 w → w0.heap.size ≤ b → w.heap[b]? = some (.cells #[.int .i64 ((0 : Nat) : Int)] 3 (0, 0)) →
    Calls Tryd.prog 90 #[exV x s, .int .i64 ((d + 1 : Nat) : Int), .pointer (some ⟨b, 0, none⟩)] w fun e w' => e = .returned (.bool false) ∧ Below b w w' := by
  intro x w0 w s b hS hB hb hc
  obtain ⟨ao, cap, sl, rfl, _⟩ := hS.out
  have l0 : Lf w0 w b ((0 : Nat) : Int) (w.alloc (.cells #[.int .u8 (x.op : Int), .int .i64 x.n, .string x.name, .slice ao x.args.length cap] 70)) := Lf.step ⟨hB, Below.refl _ _, hc⟩ ((Below.refl _ _).alloc (Nat.le_refl _) _)
  have l1 := l0.set hb (-1)
  obtain ⟨y0, y1⟩ := l0.at
  obtain ⟨y2, _⟩ := l1.at
  have H1 := hid l1.below
  have hd0 : (((d + 1 : Nat) : Int) == 0) = false := by simp; omega
  generalize hD : ((d + 1 : Nat) : Int) = D at *
  clear l0 l1 hc hS hB hD
  go_enter Tryd.func90, Tryd.ntmps90
  go_wp2
  go_ret
  exact ⟨rfl, H1.out⟩
set_option maxRecDepth 100000 in
set_option maxHeartbeats 1000000 in
theorem fits_bad (d : Nat) (hd : d + 1 ≤ 32) : ∀ (x : Ex) (w0 w : World) (s : Value) (b L : Nat), 1 ≤ L → L ≤ 200 → St w0 x s → Below w0.heap.size w0 w → w0.heap.size ≤ b → w.heap[b]? = some (.cells #[.int .i64 (L : Int)] 3 (0, 0)) → TabR w0 → TabJ w0 → fieldsOk x.op x.n x.name x.args.length = false →
    Calls Tryd.prog 90 #[exV x s, .int .i64 ((d + 1 : Nat) : Int), .pointer (some ⟨b, 0, none⟩)] w fun e w' => e = .returned (.bool false) ∧ Below b w w' := by
  intro x w0 w s b L h1 hL hS hB hb hc hR hJ hf
  obtain ⟨ao, cap, sl, rfl, _⟩ := hS.out
  have l0 : Lf w0 w b (L : Int) (w.alloc (.cells #[.int .u8 (x.op : Int), .int .i64 x.n, .string x.name, .slice ao x.args.length cap] 70)) := Lf.step ⟨hB, Below.refl _ _, hc⟩ ((Below.refl _ _).alloc (Nat.le_refl _) _)
  have l1 := l0.set hb ((L : Int) - 1)
  obtain ⟨y0, y1⟩ := l0.at
  obtain ⟨y2, _⟩ := l1.at
  have c := hasIts x.op x.n x.name ao x.args.length cap _ (hR.below l1.base) (hJ.below l1.base)
  rw [hf] at c
  have H1 := hid l1
  have hd0 : (((d + 1 : Nat) : Int) == 0) = false := by simp; omega
  have hL1 : ¬ (L : Int) - 1 < 0 := by omega
  have hne : w.heap.size ≠ b := by have := (Array.getElem?_eq_some_iff.1 hc).1; omega
  have xb : ∀ j v, (#[.int .u8 (x.op : Int), .int .i64 x.n, .string x.name, .slice ao x.args.length cap] : Array Value)[j]? = some v → ((w.alloc (.cells #[.int .u8 (x.op : Int), .int .i64 x.n, .string x.name, .slice ao x.args.length cap] 70)).setCell ⟨b, 0, none⟩ (.int .i64 ((L : Int) - 1))).cell? ⟨w.heap.size, j, none⟩ = some v := fun j v h => by
    rw [World.cell?_of_block (w := w.alloc (.cells #[.int .u8 (x.op : Int), .int .i64 x.n, .string x.name, .slice ao x.args.length cap] 70)) (Below.heap_setCell _ _ _ _ hne)]
    exact box_at w _ 70 j v h
  have x0 := xb 0 _ rfl
  have x1 := xb 1 _ rfl
  have x2 := xb 2 _ rfl
  have x3 := xb 3 _ rfl
  generalize hW : (w.alloc (.cells #[.int .u8 (x.op : Int), .int .i64 x.n, .string x.name, .slice ao x.args.length cap] 70)).setCell ⟨b, 0, none⟩ (.int .i64 ((L : Int) - 1)) = W1 at *
  generalize hD : ((d + 1 : Nat) : Int) = D at *
  clear l0 l1 hc hS hB hR hJ hD hf xb hne
  go_enter Tryd.func90, Tryd.ntmps90
  go_wp2_with (go_at_call 93; refine c.mono ?_; rintro e w3 ⟨rfl, hb3⟩)
  go_ret
  exact ⟨rfl, (H1.out.step hb3).below⟩
set_option maxRecDepth 100000 in
set_option maxHeartbeats 2000000 in
theorem fits_ok (d : Nat) (hd : d + 1 ≤ 32) (ih : FitC d) : ∀ (x : Ex) (w0 w : World) (s : Value) (b L : Nat), 1 ≤ L → L ≤ 200 → St w0 x s → Below w0.heap.size w0 w → w0.heap.size ≤ b → w.heap[b]? = some (.cells #[.int .i64 (L : Int)] 3 (0, 0)) → TabR w0 → TabJ w0 → fieldsOk x.op x.n x.name x.args.length = true →
    Calls Tryd.prog 90 #[exV x s, .int .i64 ((d + 1 : Nat) : Int), .pointer (some ⟨b, 0, none⟩)] w fun e w' => e = .returned (.bool (szL (sz d) L 1 x.args).isSome) ∧ Below b w w' ∧ ∀ k, szL (sz d) L 1 x.args = some k → Lf w0 w b ((L : Int) - (k : Int)) w' := by
  intro x w0 w s b L h1 hL hS hB hb hc hR hJ hf
  obtain ⟨ao, cap, sl, rfl, _, _, _, hlen, _, hcs, hss⟩ := hS.out
  have l0 : Lf w0 w b (L : Int) (w.alloc (.cells #[.int .u8 (x.op : Int), .int .i64 x.n, .string x.name, .slice ao x.args.length cap] 70)) := Lf.step ⟨hB, Below.refl _ _, hc⟩ ((Below.refl _ _).alloc (Nat.le_refl _) _)
  have l1 := l0.set hb ((L : Int) - 1)
  obtain ⟨y0, y1⟩ := l0.at
  obtain ⟨y2, _⟩ := l1.at
  have c := hasIts x.op x.n x.name ao x.args.length cap _ (hR.below l1.base) (hJ.below l1.base)
  rw [hf] at c
  have H1 := hid l1
  have hd0 : (((d + 1 : Nat) : Int) == 0) = false := by simp; omega
  have hD1 : ((d + 1 : Nat) : Int) - 1 = (d : Int) := by omega
  have hD2 : ((d + 1 : Nat) : Int) ≤ 32 ∧ 0 ≤ ((d + 1 : Nat) : Int) := by omega
  have hL1 : ¬ (L : Int) - 1 < 0 := by omega
  have hne : w.heap.size ≠ b := by have := (Array.getElem?_eq_some_iff.1 hc).1; omega
  have xb : ∀ j v, (#[.int .u8 (x.op : Int), .int .i64 x.n, .string x.name, .slice ao x.args.length cap] : Array Value)[j]? = some v → ((w.alloc (.cells #[.int .u8 (x.op : Int), .int .i64 x.n, .string x.name, .slice ao x.args.length cap] 70)).setCell ⟨b, 0, none⟩ (.int .i64 ((L : Int) - 1))).cell? ⟨w.heap.size, j, none⟩ = some v := fun j v h => by
    rw [World.cell?_of_block (w := w.alloc (.cells #[.int .u8 (x.op : Int), .int .i64 x.n, .string x.name, .slice ao x.args.length cap] 70)) (Below.heap_setCell _ _ _ _ hne)]
    exact box_at w _ 70 j v h
  have x0 := xb 0 _ rfl
  have x1 := xb 1 _ rfl
  have x2 := xb 2 _ rfl
  have x3 := xb 3 _ rfl
  generalize hW : (w.alloc (.cells #[.int .u8 (x.op : Int), .int .i64 x.n, .string x.name, .slice ao x.args.length cap] 70)).setCell ⟨b, 0, none⟩ (.int .i64 ((L : Int) - 1)) = W1 at *
  generalize hD : ((d + 1 : Nat) : Int) = D at *
  have HS := hid hss
  have HC := hid hcs
  have HI := hid ih
  have HR := hid hR
  have HJ := hid hJ
  obtain ⟨hD3, hD4⟩ := hD2
  clear l0 l1 hc hS hB hR hJ hD hf xb hne hss hcs ih
  go_enter Tryd.func90, Tryd.ntmps90
  go_wp2_with (go_at_call 93; refine c.mono ?_; rintro e w3 ⟨rfl, hb3⟩; have z3 := cell_kept x3 hb3; have L3 := hid (H1.out.step hb3); clear hb3 c x0 x1 x2 x3 y0 y1 y2)
  go_loopw [30] (fun i wr => ∃ k n : Nat, k ≤ x.args.length ∧ 1 ≤ n ∧ n ≤ L ∧ i = .int .i64 (k : Int) ∧ Hid (szL (sz d) L 1 x.args = szL (sz d) L n (x.args.drop k)) ∧ Hid (Lf w0 w b ((L : Int) - (n : Int)) wr)) (fun i _ => x.args.length - (intOf i).toNat)
  case atStart => exact ⟨0, 1, Nat.zero_le _, Nat.le_refl _, h1, rfl, by simp [Hid], L3⟩
  case round =>
    obtain ⟨k, n, hk, hn1, hnL, rfl, hE, hB⟩ := hrel
    by_cases hlt : k < x.args.length
    · have hlt' : (k : Int) < (x.args.length : Int) := by omega
      have hk0 : (0 : Int) ≤ (k : Int) := by omega
      obtain ⟨bb, o, rfl, hcc⟩ := HC.out.resolve_left (by omega)
      obtain ⟨a0, a1, a2, a3⟩ := hcc k hlt
      have v0 := cell_kept a0 hB.out.base
      have v1 := cell_kept a1 hB.out.base
      have v2 := cell_kept a2 hB.out.base
      have v3 := cell_kept a3 hB.out.base
      have hdr : x.args.drop k = x.args[k] :: x.args.drop (k + 1) := List.drop_eq_getElem_cons hlt
      have hE' := hE.out
      rw [hdr, szL] at hE'
      have HE := hid hE'
      have hst := HS.out k hlt
      clear a0 a1 a2 a3 hcc hdr hE' hE
      generalize x.args[k] = y at *
      obtain ⟨sv, hsv⟩ : ∃ sv, sl k = sv := ⟨_, rfl⟩
      rw [hsv] at v3 hst
      obtain ⟨ak, ck, _, rfl, _⟩ := hst.out
      clear hsv
      have lA : Lf w0 w b ((L : Int) - (n : Int)) (wr.alloc (.cells #[.int .u8 (y.op : Int), .int .i64 y.n, .string y.name, .slice ak y.args.length ck] 70)) := hB.out.step ((Below.refl _ _).alloc (Nat.le_refl _) _)
      have hlL : ((L - n : Nat) : Int) = (L : Int) - (n : Int) := by omega
      have cc := HI.out y w0 _ _ b (L - n) (by omega) hst lA.base hb (by rw [hlL]; exact lA.cell) HR.out HJ.out
      have LA := hid lA
      clear lA hst
      cases hz : sz d (L - n) y with
      | none =>
        rw [hz] at cc HE
        have hnone : Hid (szL (sz d) L 1 x.args = none) := HE.out
        go_wp2_with (go_at_call 90; refine cc.mono ?_; rintro e w4 ⟨rfl, hb4, _⟩)
        go_ret
        exact ⟨by rw [hnone.out]; rfl, LA.out.below.trans hb4, fun k h => by rw [hnone.out] at h; cases h⟩
      | some m =>
        rw [hz] at cc HE
        have hm := sz_le _ _ _ _ hz
        have HM : Hid ((((L - n : Nat) : Int) - (m : Int)) = (L : Int) - ((n + m : Nat) : Int)) := by unfold Hid; omega
        go_wp2_with (go_at_call 90; refine cc.mono ?_; rintro e w4 ⟨rfl, hb4, hl4⟩; have L4 := hid (hl4 m rfl); clear hl4)
        go_roundw
        case rel =>
          have l4 := L4.out
          rw [HM.out] at l4
          exact ⟨k + 1, n + m, by omega, by omega, by omega, by go_num, HE.out, ⟨l4.base, LA.out.below.trans l4.below, l4.cell⟩⟩
        case measure => simp [intOf]; omega
    · have hlt' : ¬ (k : Int) < (x.args.length : Int) := by omega
      have hdr : x.args.drop k = [] := List.drop_eq_nil_of_le (by omega)
      have hE' := hE.out
      rw [hdr, szL] at hE'
      have HE := hid hE'
      clear hE' hdr hE
      go_wp2
      go_ret
      exact ⟨by rw [HE.out]; rfl, hB.out.below, fun j h => by rw [HE.out] at h; injection h with h; subst h; exact hB.out⟩
/-- fits. -/
theorem fits_any : ∀ (d : Nat), d ≤ 32 → FitC d
  | 0, _ => fits_zero
  | d + 1, hd => by
    intro x w0 w s b L hL hS hB hb hc hR hJ
    have ih := fits_any d (by omega)
    by_cases h0 : L = 0
    · subst h0
      have e : sz (d + 1) 0 x = none := by rw [sz, if_pos (.inl rfl)]
      rw [e]
      exact (fits_none d hd x w0 w s b hS hB hb hc).mono fun e w' ⟨h1, h2⟩ => ⟨h1, h2, fun k h => by cases h⟩
    · cases hf : fieldsOk x.op x.n x.name x.args.length with
      | false =>
        have e : sz (d + 1) L x = none := by rw [sz, if_pos (.inr hf)]
        rw [e]
        exact (fits_bad d hd x w0 w s b L (by omega) hL hS hB hb hc hR hJ hf).mono fun e w' ⟨h1, h2⟩ => ⟨h1, h2, fun k h => by cases h⟩
      | true =>
        have e : sz (d + 1) L x = szL (sz d) L 1 x.args := by rw [sz, if_neg (by rw [hf]; simp [h0])]
        rw [e]
        exact fits_ok d hd ih x w0 w s b L (by omega) hL hS hB hb hc hR hJ hf
set_option maxRecDepth 100000 in
/-- Check. -/
theorem check (x : Ex) (w : World) (s : Value) (hS : St w x s) (hR : TabR w) (hJ : TabJ w) : Calls Tryd.prog 82 #[exV x s] w fun e w' => e = .returned (.bool (chk x)) ∧ Below w.heap.size w w' := by
  obtain ⟨ao, cap, sl, rfl, _⟩ := hS.out
  have b1 := (Below.refl w.heap.size w).alloc (Nat.le_refl _) (.cells #[.int .u8 (x.op : Int), .int .i64 x.n, .string x.name, .slice ao x.args.length cap] 70)
  have b2 := bstep b1 ((Below.refl _ _).alloc (Nat.le_refl _) (.cells #[.int .i64 200] 3))
  have c := fits_any 32 (Nat.le_refl _) x w _ _ (w.heap.size + 1) 200 (Nat.le_refl _) hS b2 (by omega) (by
    have h := heap_alloc_new (w.alloc (.cells #[.int .u8 (x.op : Int), .int .i64 x.n, .string x.name, .slice ao x.args.length cap] 70)) (.cells #[.int .i64 200] 3)
    have e : (w.alloc (.cells #[.int .u8 (x.op : Int), .int .i64 x.n, .string x.name, .slice ao x.args.length cap] 70)).heap.size = w.heap.size + 1 := by simp
    rw [e] at h
    exact h) hR hJ
  have H2 := hid b2
  clear hS hR hJ b1 b2
  go_enter Tryd.func82, Tryd.ntmps82
  go_wp2_with (go_at_call 90; refine c.mono ?_; rintro e w3 ⟨rfl, hb3, _⟩)
  go_ret
  exact ⟨rfl, H2.out.trans (hb3.mono (by omega))⟩
end Go.Proofs.YtdenddknbmiboaaDoor.Lex
namespace Go.Proofs.YtdenddknbmiboaaDoor.Lex
open Go.ChangeShapes Go.WideShapes Go.ChangeAt Go.RowKit Go.Joins
/-- The head of a flow: all that one from without has. -/
structure Hd where
  name : ByteArray
  ty : Nat
  st : Int
/-- A flow. -/
structure Fl where
  name : ByteArray
  ty : Nat
  st : Int
  df : Int
  body : Ex
/-- A program. -/
structure Pg where
  st : Int
  ins : List Hd
  flows : List Fl
  outs : List ByteArray
abbrev Hd.ok (x : Hd) : Prop := x.name.size ≤ 140737488355328 ∧ x.ty < 256 ∧ (-9223372036854775808 ≤ x.st ∧ x.st ≤ 9223372036854775807)
abbrev Fl.ok (x : Fl) : Prop := x.name.size ≤ 140737488355328 ∧ x.ty < 256 ∧ (-9223372036854775808 ≤ x.st ∧ x.st ≤ 9223372036854775807) ∧ (-9223372036854775808 ≤ x.df ∧ x.df ≤ 9223372036854775807)
/-- The cells of a head. -/
def HdCells (w : World) (b p : Nat) (x : Hd) : Prop :=
  w.cell? ⟨b, p, none⟩ = some (.string x.name) ∧ w.cell? ⟨b, p + 1, none⟩ = some (.int .u8 (x.ty : Int)) ∧ w.cell? ⟨b, p + 2, none⟩ = some (.int .i64 x.st)
/-- The cells of a flow. -/
def FlCells (w : World) (b p : Nat) (x : Fl) (s : Value) : Prop :=
  w.cell? ⟨b, p, none⟩ = some (.string x.name) ∧ w.cell? ⟨b, p + 1, none⟩ = some (.int .u8 (x.ty : Int)) ∧ w.cell? ⟨b, p + 2, none⟩ = some (.int .i64 x.st) ∧ w.cell? ⟨b, p + 3, none⟩ = some (.int .i64 x.df) ∧
  w.cell? ⟨b, p + 4, none⟩ = some (.int .u8 (x.body.op : Int)) ∧ w.cell? ⟨b, p + 5, none⟩ = some (.int .i64 x.body.n) ∧ w.cell? ⟨b, p + 6, none⟩ = some (.string x.body.name) ∧ w.cell? ⟨b, p + 7, none⟩ = some s
theorem HdCells.keep {w w' : World} {b p : Nat} {x : Hd} (h : HdCells w b p x) (hb : Below w.heap.size w w') : HdCells w' b p x :=
  ⟨cell_kept h.1 hb, cell_kept h.2.1 hb, cell_kept h.2.2 hb⟩
theorem FlCells.keep {w w' : World} {b p : Nat} {x : Fl} {s : Value} (h : FlCells w b p x s) (hb : Below w.heap.size w w') : FlCells w' b p x s :=
  ⟨cell_kept h.1 hb, cell_kept h.2.1 hb, cell_kept h.2.2.1 hb, cell_kept h.2.2.2.1 hb, cell_kept h.2.2.2.2.1 hb, cell_kept h.2.2.2.2.2.1 hb, cell_kept h.2.2.2.2.2.2.1 hb, cell_kept h.2.2.2.2.2.2.2 hb⟩
/-- A row of heads in memory. -/
def InsAt (w : World) (l : List Hd) (s : Value) : Prop :=
  ∃ (ao : Option Addr) (cap : Nat), s = .slice ao l.length cap ∧ l.length ≤ 4398046510976 ∧ l.length ≤ cap ∧ (∀ x ∈ l, x.ok) ∧
    (l.length = 0 ∨ ∃ b o, ao = some ⟨b, o, none⟩ ∧ ∀ i (h : i < l.length), HdCells w b (o + i * 3) l[i])
/-- A row of flows in memory. -/
def FlowsAt (w : World) (l : List Fl) (s : Value) : Prop :=
  ∃ (ao : Option Addr) (cap : Nat) (sl : Nat → Value), s = .slice ao l.length cap ∧ l.length ≤ 1466015503658 ∧ l.length ≤ cap ∧ (∀ x ∈ l, x.ok) ∧
    (l.length = 0 ∨ ∃ b o, ao = some ⟨b, o, none⟩ ∧ ∀ i (h : i < l.length), FlCells w b (o + i * 8) l[i] (sl i)) ∧ ∀ i (h : i < l.length), St w l[i].body (sl i)
/-- A row of texts in memory. -/
def TextsAt (w : World) (l : List ByteArray) (s : Value) : Prop :=
  ∃ (ao : Option Addr) (cap : Nat), s = .slice ao l.length cap ∧ l.length ≤ 8796093021952 ∧ l.length ≤ cap ∧ (∀ x ∈ l, x.size ≤ 140737488355328) ∧
    (l.length = 0 ∨ ∃ b o, ao = some ⟨b, o, none⟩ ∧ ∀ i (h : i < l.length), w.cell? ⟨b, o + i, none⟩ = some (.string l[i]))
theorem InsAt.keep {w w' : World} {l : List Hd} {s : Value} (h : InsAt w l s) (hb : Below w.heap.size w w') : InsAt w' l s := by
  obtain ⟨ao, cap, rfl, h1, h2, h3, h4⟩ := h
  refine ⟨ao, cap, rfl, h1, h2, h3, h4.imp_right ?_⟩
  rintro ⟨b, o, ha, hc⟩
  exact ⟨b, o, ha, fun i hi => (hc i hi).keep hb⟩
theorem FlowsAt.keep {w w' : World} {l : List Fl} {s : Value} (h : FlowsAt w l s) (hb : Below w.heap.size w w') : FlowsAt w' l s := by
  obtain ⟨ao, cap, sl, rfl, h1, h2, h3, h4, h5⟩ := h
  refine ⟨ao, cap, sl, rfl, h1, h2, h3, h4.imp_right ?_, fun i hi => (h5 i hi).keep hb⟩
  rintro ⟨b, o, ha, hc⟩
  exact ⟨b, o, ha, fun i hi => (hc i hi).keep hb⟩
theorem TextsAt.keep {w w' : World} {l : List ByteArray} {s : Value} (h : TextsAt w l s) (hb : Below w.heap.size w w') : TextsAt w' l s := by
  obtain ⟨ao, cap, rfl, h1, h2, h3, h4⟩ := h
  refine ⟨ao, cap, rfl, h1, h2, h3, h4.imp_right ?_⟩
  rintro ⟨b, o, ha, hc⟩
  exact ⟨b, o, ha, fun i hi => cell_kept (hc i hi) hb⟩
/-- A head, a flow, a program, as a value. -/
abbrev hdV (x : Hd) : Value := .agg #[.string x.name, .int .u8 (x.ty : Int), .int .i64 x.st]
abbrev flV (x : Fl) (s : Value) : Value := .agg #[.string x.name, .int .u8 (x.ty : Int), .int .i64 x.st, .int .i64 x.df, .int .u8 (x.body.op : Int), .int .i64 x.body.n, .string x.body.name, s]
abbrev pgC (p : Pg) (a b c : Value) : Array Value := #[.int .i64 p.st, a, b, c]
abbrev pgV (p : Pg) (a b c : Value) : Value := .agg (pgC p a b c)
/-- A program in memory: its three rows. -/
structure PgAt (w : World) (p : Pg) (a b c : Value) : Prop where
  st : -9223372036854775808 ≤ p.st ∧ p.st ≤ 9223372036854775807
  ins : InsAt w p.ins a
  flows : FlowsAt w p.flows b
  outs : TextsAt w p.outs c
theorem PgAt.keep {w w' : World} {p : Pg} {a b c : Value} (h : PgAt w p a b c) (hb : Below w.heap.size w w') : PgAt w' p a b c :=
  ⟨h.st, h.ins.keep hb, h.flows.keep hb, h.outs.keep hb⟩
end Go.Proofs.YtdenddknbmiboaaDoor.Lex
namespace Go.Proofs.YtdenddknbmiboaaDoor.Lex
open Go.ChangeShapes Go.WideShapes Go.ChangeAt Go.RowKit Go.Shelf
attribute [local go_sem] Oper.semAt_some
/-- The head of a flow. -/
abbrev Fl.hd (f : Fl) : Hd := ⟨f.name, f.ty, f.st⟩
def insL (p : Pg) : List (Int × Hd) := p.ins.map fun x => (-1, x)
def flowsL (p : Pg) : List (Int × Hd) := (List.range p.flows.length).map fun (i : Nat) => ((i : Int), (p.flows[i]?.map Fl.hd).getD ⟨ByteArray.empty, 0, 0⟩)
/-- The things of a program, each with its place. -/
def thingsL (p : Pg) : List (Int × Hd) := insL p ++ flowsL p
theorem insL_len (p : Pg) : (insL p).length = p.ins.length := by simp [insL]
theorem flowsL_len (p : Pg) : (flowsL p).length = p.flows.length := by simp [flowsL]
theorem insL_succ (p : Pg) (k : Nat) (h : k < p.ins.length) : (insL p).take (k + 1) = (insL p).take k ++ [(-1, p.ins[k])] := by
  rw [List.take_succ_eq_append_getElem (by rw [insL_len]; exact h)]
  simp [insL]
theorem flowsL_succ (p : Pg) (k : Nat) (h : k < p.flows.length) : (flowsL p).take (k + 1) = (flowsL p).take k ++ [((k : Int), p.flows[k].hd)] := by
  rw [List.take_succ_eq_append_getElem (by rw [flowsL_len]; exact h)]
  simp [flowsL, h]
set_option maxRecDepth 100000 in
set_option maxHeartbeats 2000000 in
theorem things1 (F : Fence) (n : Nat) (h22 : F.fn 84) (hro : F.round = none) (hn : 1 ≤ n) (l Bn n₀ : Nat) (p : Pg) (a b c : Value) (J Jx : List (Int × Hd) → World → Prop) (W0 W : World) (hW0 : n₀ = W0.heap.size) (hW : Below n₀ W0 W) (hP : PgAt W0 p a b c)
    (hA : AbidesFrom W.heap.size J)
    (hY : ∀ pre x W, J pre W → pre.length < (thingsL p).length → YieldAt F (n - 1) Tryd.prog l #[.int .i64 x.1, hdV x.2] W fun e W' =>
      (e = .returned (.bool true) ∧ J (pre ++ [x]) W' ∧ Below n₀ W W') ∨ (e = .returned (.bool false) ∧ Jx (pre ++ [x]) W'))
    (hB1 : W0.cell? ⟨Bn, 1, none⟩ = some a) (hB2 : W0.cell? ⟨Bn, 2, none⟩ = some b) (h0 : J [] W) :
    CallsIn F n Tryd.prog 84 #[.func (.yield l) #[] #[], .pointer (some ⟨Bn, 0, none⟩)] W fun e W' => (∃ v, e = .returned v) ∧
      ((∃ ys, ys = thingsL p ∧ J ys W') ∨ (∃ pre, pre <+: thingsL p ∧ Jx pre W')) := by
  subst hW0
  obtain ⟨ao, cap, rfl, hlen, _, _, hc⟩ := hP.ins
  obtain ⟨bo, cbp, sl, rfl, hlen2, _, _, hc2, hs2⟩ := hP.flows
  have HS2 := hid hs2
  have HC := hid hc
  have HC2 := hid hc2
  have HL : Hid ((thingsL p).length = p.ins.length + p.flows.length) := hid (by simp [thingsL, insL_len, flowsL_len])
  clear hc hc2 hs2 hP
  have x1 := cell_kept hB1 hW
  have HB2 := hid hB2
  have AL : ∀ (s : List (Int × Hd)) (V : World) (o : Obj), J s V → J s (V.alloc o) := fun s V o h => hA s V _ none h (World.grownBy_alloc V o none) (fun r e => by cases e)
  clear hB1 hB2 hA
  refine callsIn_of_wp Tryd.func84 rfl h22 ?_ hro
  simp only [Tryd.ntmps84, List.size_toArray, List.length_cons, List.length_nil, Nat.reduceAdd, Nat.reduceSub, Array.replicate_succ, Array.replicate_zero, List.push_toArray, List.append_toArray, List.nil_append, List.cons_append]
  gi_wp2
  gi_loopw [10] (fun i wr => ∃ k : Nat, k ≤ p.ins.length ∧ i = .int .i64 (k : Int) ∧ Hid (J ((insL p).take k) wr) ∧ Hid (Below W0.heap.size W0 wr)) (fun i wr => p.ins.length - (intOf i).toNat)
  case atStart => exact ⟨0, Nat.zero_le _, rfl, hid h0, hid hW⟩
  case round =>
    obtain ⟨k, hk, rfl, hJ, hB⟩ := hrel
    by_cases hlt : k < p.ins.length
    · have hlt' : (k : Int) < (p.ins.length : Int) := by omega
      have hk0 : (0 : Int) ≤ (k : Int) := by omega
      obtain ⟨bb, o, rfl, hcc⟩ := HC.out.resolve_left (by omega)
      obtain ⟨v0, v1, v2⟩ := (hcc k hlt).keep hB.out
      have HS := hid (insL_succ p k hlt)
      obtain ⟨fn, tmps, assign, body, hy, hR⟩ := hY ((insL p).take k) (-1, p.ins[k]) (wr.alloc (.cells #[.string p.ins[k].name, .int .u8 (p.ins[k].ty : Int), .int .i64 p.ins[k].st] 73)) (AL _ _ _ hJ.out) (by have := HL.out; have := insL_len p; simp; omega)
      dsimp only at hy
      clear hcc
      generalize p.ins[k] = y at *
      gi_wp2
      refine hR.mono ?_
      rintro e W3 (⟨rfl, hJ3, hk3⟩ | ⟨rfl, hJx3⟩)
      · gi_wp2
        go_roundw
        case rel => exact ⟨k + 1, by omega, by go_num, hid (by rw [HS.out]; exact hJ3), hid ((hB.out.alloc hB.out.size _).trans hk3)⟩
        case measure => simp [intOf]; omega
      · gi_wp2
        refine bodyPost_ret (results_none rfl _ _ _) rfl ?_
        exact ⟨⟨_, rfl⟩, .inr ⟨_, by rw [← HS.out]; exact (List.take_prefix _ _).trans (List.prefix_append _ _), hJx3⟩⟩
    · have hlt' : ¬ (k : Int) < (p.ins.length : Int) := by omega
      have hJ' : Hid (J (insL p) wr) := by rw [List.take_of_length_le (by rw [insL_len]; omega)] at hJ; exact hJ
      have x2 := cell_kept HB2.out hB.out
      clear hJ
      gi_wp2
      gi_loopw [22] (fun i wr => ∃ k : Nat, k ≤ p.flows.length ∧ i = .int .i64 (k : Int) ∧ Hid (J (insL p ++ (flowsL p).take k) wr) ∧ Hid (Below W0.heap.size W0 wr)) (fun i wr => p.flows.length - (intOf i).toNat)
      case atStart => exact ⟨0, Nat.zero_le _, rfl, hid (by simpa using hJ'.out), hB⟩
      case round =>
        obtain ⟨j, hj, rfl, hJ2, hB'⟩ := hrel
        by_cases hjl : j < p.flows.length
        · have hjl' : (j : Int) < (p.flows.length : Int) := by omega
          have hj0 : (0 : Int) ≤ (j : Int) := by omega
          obtain ⟨b2, o2, rfl, hcc⟩ := HC2.out.resolve_left (by omega)
          have X := (hcc j hjl).keep hB'.out
          obtain ⟨a3, c3, _, e3, _⟩ := (HS2.out j hjl).out
          rw [e3] at X
          have HS := hid (flowsL_succ p j hjl)
          obtain ⟨fn, tmps, assign, body, hy, hR⟩ := hY (insL p ++ (flowsL p).take j) ((j : Int), p.flows[j].hd) (wr.alloc (.cells #[.string p.flows[j].name, .int .u8 (p.flows[j].ty : Int), .int .i64 p.flows[j].st, .int .i64 p.flows[j].df, .int .u8 (p.flows[j].body.op : Int), .int .i64 p.flows[j].body.n, .string p.flows[j].body.name, .slice a3 p.flows[j].body.args.length c3] 76)) (AL _ _ _ hJ2.out) (by have := HL.out; have := insL_len p; have := flowsL_len p; simp; omega)
          dsimp only [Fl.hd] at hy
          clear hcc e3
          obtain ⟨v0, v1, v2, v3, v4, v5, v6, v7⟩ := X
          generalize p.flows[j] = y at *
          gi_wp2
          refine hR.mono ?_
          rintro e W3 (⟨rfl, hJ3, hk3⟩ | ⟨rfl, hJx3⟩)
          · gi_wp2
            go_roundw
            case rel => exact ⟨j + 1, by omega, by go_num, hid (by rw [HS.out, ← List.append_assoc]; exact hJ3), hid ((hB'.out.alloc hB'.out.size _).trans hk3)⟩
            case measure => simp [intOf]; omega
          · gi_wp2
            refine bodyPost_ret (results_none rfl _ _ _) rfl ?_
            exact ⟨⟨_, rfl⟩, .inr ⟨_, by rw [List.append_assoc, ← HS.out]; exact (List.prefix_append_right_inj _).2 (List.take_prefix _ _), hJx3⟩⟩
        · have hjl' : ¬ (j : Int) < (p.flows.length : Int) := by omega
          gi_wp2
          go_end0
          exact ⟨⟨_, rfl⟩, .inl (by have := hJ2.out; rw [List.take_of_length_le (by rw [flowsL_len]; omega)] at this; exact this)⟩
/-- names.things hands back that function, over a copy of the program. -/
theorem things (F : Fence) (n : Nat) (h14 : F.fn 63) (hro : F.round = none) (p : Pg) (a b c : Value) (w : World) :
    CallsIn F n Tryd.prog 63 #[pgV p a b c] w fun e w' => e = .returned (.func (.func 84) #[] #[.pointer (some ⟨w.heap.size, 0, none⟩)]) ∧ w' = w.alloc (.cells (pgC p a b c) 46) := by
  refine callsIn_of_wp Tryd.func63 rfl h14 ?_ hro
  simp only [Tryd.ntmps63, List.size_toArray, List.length_cons, List.length_nil, Nat.reduceAdd, Nat.reduceSub, Array.replicate_succ, Array.replicate_zero, List.push_toArray, List.append_toArray, List.nil_append, List.cons_append]
  gi_wp2
  go_ret
  exact ⟨rfl, rfl⟩
/-- What it hands back goes through the things. -/
theorem things_stops (F : Fence) (n : Nat) (h22 : F.fn 84) (hro : F.round = none) (hn : 1 ≤ n) (Bn : Nat) (p : Pg) (a b c : Value) (w : World) (hP : PgAt w p a b c) (hB1 : w.cell? ⟨Bn, 1, none⟩ = some a) (hB2 : w.cell? ⟨Bn, 2, none⟩ = some b) :
    SeqStopsK F n Tryd.prog 84 #[.pointer (some ⟨Bn, 0, none⟩)] (fun x : Int × Hd => #[.int .i64 x.1, hdV x.2]) (Below w.heap.size) (fun ys => ys = thingsL p) (fun pre => pre <+: thingsL p) (thingsL p).length w := fun l J Jx W hW hA _ hY h0 =>
  things1 F n h22 hro hn l Bn w.heap.size p a b c J Jx w W rfl hW hP hA hY hB1 hB2 h0
end Go.Proofs.YtdenddknbmiboaaDoor.Lex
namespace Go.Proofs.YtdenddknbmiboaaDoor.Lex
open Go.ChangeShapes Go.WideShapes Go.ChangeAt Go.RowKit Go.Shelf
attribute [local go_sem] Oper.semAt_some
/-- The first of them that has the name. -/
def findT (l : List (Int × Hd)) (name : ByteArray) : Option (Int × Hd) := l.find? fun x => x.2.name.toList == name.toList
/-- What is answered. -/
def foV (o : Option (Int × Hd)) : Array Value := match o with
  | some x => #[.int .i64 x.2.st, .int .u8 (x.2.ty : Int), .int .i64 x.1, .bool true]
  | none => #[.int .i64 0, .int .u8 0, .int .i64 0, .bool false]
/-- None of them has it. -/
def Free (l : List (Int × Hd)) (name : ByteArray) : Prop := ∀ x ∈ l, (x.2.name.toList == name.toList) = false
theorem findT_none {l : List (Int × Hd)} {name : ByteArray} (h : Free l name) : findT l name = none := by
  unfold findT
  rw [List.find?_eq_none]
  intro x hx
  simp [h x hx]
theorem findT_some {l pre : List (Int × Hd)} {x : Int × Hd} {name : ByteArray} (hp : pre ++ [x] <+: l) (h : Free pre name) (hx : (x.2.name.toList == name.toList) = true) : findT l name = some x := by
  obtain ⟨t, rfl⟩ := hp
  have h' := findT_none h
  unfold findT at h' ⊢
  rw [List.append_assoc, List.find?_append, h']
  simp [hx]
theorem Free.snoc {l : List (Int × Hd)} {x : Int × Hd} {name : ByteArray} (h : Free l name) (hx : (x.2.name.toList == name.toList) = false) : Free (l ++ [x]) name := by
  intro y hy
  rcases List.mem_append.1 hy with hy | hy
  · exact h y hy
  · rw [List.mem_singleton.1 hy]; exact hx
theorem box_turn {B0 : Nat} {X Y : World} {row : Option Nat} {B : Nat} {t : TypeId} {v : Value} (h : Boxed X B t v) (hg : X.grownBy Y row) (hr : ∀ r, row = some r → B0 ≤ r ∧ ∃ o : Obj, X.heap[r]? = some o ∧ o.isCells = false) : Boxed Y B t v :=
  boxed_own B t (fun (_ : Unit) => v) () X Y row h hg (fun r e => (hr r e).2)
theorem grownBy_keeps_cells {X Y : World} {row : Option Nat} {B : Nat} {c : Array Value} {t : TypeId} {f : Nat × Nat} (hg : X.grownBy Y row) (hr : ∀ r, row = some r → ∃ o : Obj, X.heap[r]? = some o ∧ o.isCells = false) (h : X.heap[B]? = some (.cells c t f)) : Y.heap[B]? = some (.cells c t f) := by
  refine (hg.block B (Array.getElem?_eq_some_iff.1 h).1 ?_).trans h
  intro e
  obtain ⟨o, ho, hc⟩ := hr B e.symm
  rw [h] at ho
  cases ho
  cases hc
theorem boxed_drew {W : World} {B : Nat} {t : TypeId} {v : Value} (h : Boxed W B t v) : Boxed W.drew B t v := h
/-- Four boxes that are stored into. -/
def four (W : World) (b : Nat) (u2 u3 u4 u5 : Value) : World := (((W.setCell ⟨b + 1 + 1, 0, none⟩ u2).setCell ⟨b + 1 + 1 + 1, 0, none⟩ u3).setCell ⟨b + 1 + 1 + 1 + 1, 0, none⟩ u4).setCell ⟨b + 1 + 1 + 1 + 1 + 1, 0, none⟩ u5
theorem four_keeps (W : World) (b : Nat) (u2 u3 u4 u5 : Value) : KeepsOthers W (four W b u2 u3 u4 u5) :=
  (((KeepsOthers.setCell _ _ _).trans (KeepsOthers.setCell _ _ _)).trans (KeepsOthers.setCell _ _ _)).trans (KeepsOthers.setCell _ _ _)
theorem four_below {w W : World} {b : Nat} (u2 u3 u4 u5 : Value) (h : Below b w W) : Below b w (four W b u2 u3 u4 u5) :=
  (((h.setCell (p := ⟨b + 1 + 1, 0, none⟩) (by simp; omega) u2).setCell (p := ⟨b + 1 + 1 + 1, 0, none⟩) (by simp; omega) u3).setCell (p := ⟨b + 1 + 1 + 1 + 1, 0, none⟩) (by simp; omega) u4).setCell (p := ⟨b + 1 + 1 + 1 + 1 + 1, 0, none⟩) (by simp; omega) u5
theorem four_boxed {W : World} {b t2 t3 t4 t5 : Nat} {v2 v3 v4 v5 : Value} (u2 u3 u4 u5 : Value) (c2 : Boxed W (b + 1 + 1) t2 v2) (c3 : Boxed W (b + 1 + 1 + 1) t3 v3) (c4 : Boxed W (b + 1 + 1 + 1 + 1) t4 v4) (c5 : Boxed W (b + 1 + 1 + 1 + 1 + 1) t5 v5) :
    Boxed (four W b u2 u3 u4 u5) (b + 1 + 1) t2 u2 ∧ Boxed (four W b u2 u3 u4 u5) (b + 1 + 1 + 1) t3 u3 ∧ Boxed (four W b u2 u3 u4 u5) (b + 1 + 1 + 1 + 1) t4 u4 ∧ Boxed (four W b u2 u3 u4 u5) (b + 1 + 1 + 1 + 1 + 1) t5 u5 :=
  ⟨(((c2.set u2).other (by omega) u3).other (by omega) u4).other (by omega) u5, (((c3.other (by omega) u2).set u3).other (by omega) u4).other (by omega) u5, (((c4.other (by omega) u2).other (by omega) u3).set u4).other (by omega) u5, (((c5.other (by omega) u2).other (by omega) u3).other (by omega) u4).set u5⟩
set_option maxRecDepth 100000 in
set_option maxHeartbeats 4000000 in
theorem find_in (F : Fence) (n : Nat) (h7 : F.fn 52) (h14 : F.fn 63) (h22 : F.fn 84) (hro : F.round = none) (hn : 6 ≤ n) (p : Pg) (name : ByteArray) (w : World) (a b c : Value) (hP : PgAt w p a b c) :
    CallsIn F n Tryd.prog 52 #[pgV p a b c, .string name] w fun e W' => e = .returned (.tuple (foV (findT (thingsL p) name))) ∧ Below w.heap.size w W' := by
  have h1 : 1 ≤ n := by omega
  obtain ⟨a0, a1, rfl, _⟩ := hP.ins
  obtain ⟨b0, b1, _, rfl, _⟩ := hP.flows
  obtain ⟨c0, c1, rfl, _⟩ := hP.outs
  have HP := hid hP
  clear hP
  refine callsIn_of_wp_marks Tryd.func52 rfl h7 ?_ hro
  simp only [Tryd.ntmps52, List.size_toArray, List.length_cons, List.length_nil, Nat.reduceAdd, Nat.reduceSub, Array.replicate_succ, Array.replicate_zero, List.push_toArray, List.append_toArray, List.nil_append, List.cons_append]
  gi_wp2_with (gi_at_call 63; refine (things F (n - 1) h14 hro p _ _ _ _).mono ?_; rintro e w' ⟨rfl, rfl⟩)
  have hB0 : Below w.heap.size w (((((((w.alloc (.cells (pgC p (.slice a0 p.ins.length a1) (.slice b0 p.flows.length b1) (.slice c0 p.outs.length c1)) 46)).alloc (.cells #[.string name] 9)).alloc (.cells #[.int .i64 0] 3)).alloc (.cells #[.int .u8 0] 27)).alloc (.cells #[.int .i64 0] 3)).alloc (.cells #[.bool false] 4)).alloc (.cells (pgC p (.slice a0 p.ins.length a1) (.slice b0 p.flows.length b1) (.slice c0 p.outs.length c1)) 46)) := ((((((((Below.refl w.heap.size w).alloc (by simp; try omega) (.cells (pgC p (.slice a0 p.ins.length a1) (.slice b0 p.flows.length b1) (.slice c0 p.outs.length c1)) 46)).alloc (by simp; try omega) (.cells #[.string name] 9)).alloc (by simp; try omega) (.cells #[.int .i64 0] 3)).alloc (by simp; try omega) (.cells #[.int .u8 0] 27)).alloc (by simp; try omega) (.cells #[.int .i64 0] 3)).alloc (by simp; try omega) (.cells #[.bool false] 4)).alloc (by simp; try omega) (.cells (pgC p (.slice a0 p.ins.length a1) (.slice b0 p.flows.length b1) (.slice c0 p.outs.length c1)) 46))
  have hsz : (((((((w.alloc (.cells (pgC p (.slice a0 p.ins.length a1) (.slice b0 p.flows.length b1) (.slice c0 p.outs.length c1)) 46)).alloc (.cells #[.string name] 9)).alloc (.cells #[.int .i64 0] 3)).alloc (.cells #[.int .u8 0] 27)).alloc (.cells #[.int .i64 0] 3)).alloc (.cells #[.bool false] 4)).alloc (.cells (pgC p (.slice a0 p.ins.length a1) (.slice b0 p.flows.length b1) (.slice c0 p.outs.length c1)) 46)).heap.size = w.heap.size + 7 := by simp
  have bN : Boxed (((((((w.alloc (.cells (pgC p (.slice a0 p.ins.length a1) (.slice b0 p.flows.length b1) (.slice c0 p.outs.length c1)) 46)).alloc (.cells #[.string name] 9)).alloc (.cells #[.int .i64 0] 3)).alloc (.cells #[.int .u8 0] 27)).alloc (.cells #[.int .i64 0] 3)).alloc (.cells #[.bool false] 4)).alloc (.cells (pgC p (.slice a0 p.ins.length a1) (.slice b0 p.flows.length b1) (.slice c0 p.outs.length c1)) 46)) (w.heap.size + 1) 9 (.string name) := by have := ((((((Boxed.new (w.alloc (.cells (pgC p (.slice a0 p.ins.length a1) (.slice b0 p.flows.length b1) (.slice c0 p.outs.length c1)) 46)) 9 (.string name)).alloc (.cells #[.int .i64 0] 3)).alloc (.cells #[.int .u8 0] 27)).alloc (.cells #[.int .i64 0] 3)).alloc (.cells #[.bool false] 4)).alloc (.cells (pgC p (.slice a0 p.ins.length a1) (.slice b0 p.flows.length b1) (.slice c0 p.outs.length c1)) 46)); simpa using this
  have b2 : Boxed (((((((w.alloc (.cells (pgC p (.slice a0 p.ins.length a1) (.slice b0 p.flows.length b1) (.slice c0 p.outs.length c1)) 46)).alloc (.cells #[.string name] 9)).alloc (.cells #[.int .i64 0] 3)).alloc (.cells #[.int .u8 0] 27)).alloc (.cells #[.int .i64 0] 3)).alloc (.cells #[.bool false] 4)).alloc (.cells (pgC p (.slice a0 p.ins.length a1) (.slice b0 p.flows.length b1) (.slice c0 p.outs.length c1)) 46)) (w.heap.size + 1 + 1) 3 (.int .i64 0) := by have := (((((Boxed.new ((w.alloc (.cells (pgC p (.slice a0 p.ins.length a1) (.slice b0 p.flows.length b1) (.slice c0 p.outs.length c1)) 46)).alloc (.cells #[.string name] 9)) 3 (.int .i64 0)).alloc (.cells #[.int .u8 0] 27)).alloc (.cells #[.int .i64 0] 3)).alloc (.cells #[.bool false] 4)).alloc (.cells (pgC p (.slice a0 p.ins.length a1) (.slice b0 p.flows.length b1) (.slice c0 p.outs.length c1)) 46)); simpa using this
  have b3 : Boxed (((((((w.alloc (.cells (pgC p (.slice a0 p.ins.length a1) (.slice b0 p.flows.length b1) (.slice c0 p.outs.length c1)) 46)).alloc (.cells #[.string name] 9)).alloc (.cells #[.int .i64 0] 3)).alloc (.cells #[.int .u8 0] 27)).alloc (.cells #[.int .i64 0] 3)).alloc (.cells #[.bool false] 4)).alloc (.cells (pgC p (.slice a0 p.ins.length a1) (.slice b0 p.flows.length b1) (.slice c0 p.outs.length c1)) 46)) (w.heap.size + 1 + 1 + 1) 27 (.int .u8 0) := by have := ((((Boxed.new (((w.alloc (.cells (pgC p (.slice a0 p.ins.length a1) (.slice b0 p.flows.length b1) (.slice c0 p.outs.length c1)) 46)).alloc (.cells #[.string name] 9)).alloc (.cells #[.int .i64 0] 3)) 27 (.int .u8 0)).alloc (.cells #[.int .i64 0] 3)).alloc (.cells #[.bool false] 4)).alloc (.cells (pgC p (.slice a0 p.ins.length a1) (.slice b0 p.flows.length b1) (.slice c0 p.outs.length c1)) 46)); simpa using this
  have b4 : Boxed (((((((w.alloc (.cells (pgC p (.slice a0 p.ins.length a1) (.slice b0 p.flows.length b1) (.slice c0 p.outs.length c1)) 46)).alloc (.cells #[.string name] 9)).alloc (.cells #[.int .i64 0] 3)).alloc (.cells #[.int .u8 0] 27)).alloc (.cells #[.int .i64 0] 3)).alloc (.cells #[.bool false] 4)).alloc (.cells (pgC p (.slice a0 p.ins.length a1) (.slice b0 p.flows.length b1) (.slice c0 p.outs.length c1)) 46)) (w.heap.size + 1 + 1 + 1 + 1) 3 (.int .i64 0) := by have := (((Boxed.new ((((w.alloc (.cells (pgC p (.slice a0 p.ins.length a1) (.slice b0 p.flows.length b1) (.slice c0 p.outs.length c1)) 46)).alloc (.cells #[.string name] 9)).alloc (.cells #[.int .i64 0] 3)).alloc (.cells #[.int .u8 0] 27)) 3 (.int .i64 0)).alloc (.cells #[.bool false] 4)).alloc (.cells (pgC p (.slice a0 p.ins.length a1) (.slice b0 p.flows.length b1) (.slice c0 p.outs.length c1)) 46)); simpa using this
  have b5 : Boxed (((((((w.alloc (.cells (pgC p (.slice a0 p.ins.length a1) (.slice b0 p.flows.length b1) (.slice c0 p.outs.length c1)) 46)).alloc (.cells #[.string name] 9)).alloc (.cells #[.int .i64 0] 3)).alloc (.cells #[.int .u8 0] 27)).alloc (.cells #[.int .i64 0] 3)).alloc (.cells #[.bool false] 4)).alloc (.cells (pgC p (.slice a0 p.ins.length a1) (.slice b0 p.flows.length b1) (.slice c0 p.outs.length c1)) 46)) (w.heap.size + 1 + 1 + 1 + 1 + 1) 4 (.bool false) := by have := ((Boxed.new (((((w.alloc (.cells (pgC p (.slice a0 p.ins.length a1) (.slice b0 p.flows.length b1) (.slice c0 p.outs.length c1)) 46)).alloc (.cells #[.string name] 9)).alloc (.cells #[.int .i64 0] 3)).alloc (.cells #[.int .u8 0] 27)).alloc (.cells #[.int .i64 0] 3)) 4 (.bool false)).alloc (.cells (pgC p (.slice a0 p.ins.length a1) (.slice b0 p.flows.length b1) (.slice c0 p.outs.length c1)) 46)); simpa using this
  have x1 : (((((((w.alloc (.cells (pgC p (.slice a0 p.ins.length a1) (.slice b0 p.flows.length b1) (.slice c0 p.outs.length c1)) 46)).alloc (.cells #[.string name] 9)).alloc (.cells #[.int .i64 0] 3)).alloc (.cells #[.int .u8 0] 27)).alloc (.cells #[.int .i64 0] 3)).alloc (.cells #[.bool false] 4)).alloc (.cells (pgC p (.slice a0 p.ins.length a1) (.slice b0 p.flows.length b1) (.slice c0 p.outs.length c1)) 46)).cell? ⟨w.heap.size + 1 + 1 + 1 + 1 + 1 + 1, 1, none⟩ = some (.slice a0 p.ins.length a1) := by have := box_at ((((((w.alloc (.cells (pgC p (.slice a0 p.ins.length a1) (.slice b0 p.flows.length b1) (.slice c0 p.outs.length c1)) 46)).alloc (.cells #[.string name] 9)).alloc (.cells #[.int .i64 0] 3)).alloc (.cells #[.int .u8 0] 27)).alloc (.cells #[.int .i64 0] 3)).alloc (.cells #[.bool false] 4)) (pgC p (.slice a0 p.ins.length a1) (.slice b0 p.flows.length b1) (.slice c0 p.outs.length c1)) 46 1 (.slice a0 p.ins.length a1) rfl; simpa using this
  have x2 : (((((((w.alloc (.cells (pgC p (.slice a0 p.ins.length a1) (.slice b0 p.flows.length b1) (.slice c0 p.outs.length c1)) 46)).alloc (.cells #[.string name] 9)).alloc (.cells #[.int .i64 0] 3)).alloc (.cells #[.int .u8 0] 27)).alloc (.cells #[.int .i64 0] 3)).alloc (.cells #[.bool false] 4)).alloc (.cells (pgC p (.slice a0 p.ins.length a1) (.slice b0 p.flows.length b1) (.slice c0 p.outs.length c1)) 46)).cell? ⟨w.heap.size + 1 + 1 + 1 + 1 + 1 + 1, 2, none⟩ = some (.slice b0 p.flows.length b1) := by have := box_at ((((((w.alloc (.cells (pgC p (.slice a0 p.ins.length a1) (.slice b0 p.flows.length b1) (.slice c0 p.outs.length c1)) 46)).alloc (.cells #[.string name] 9)).alloc (.cells #[.int .i64 0] 3)).alloc (.cells #[.int .u8 0] 27)).alloc (.cells #[.int .i64 0] 3)).alloc (.cells #[.bool false] 4)) (pgC p (.slice a0 p.ins.length a1) (.slice b0 p.flows.length b1) (.slice c0 p.outs.length c1)) 46 2 (.slice b0 p.flows.length b1) rfl; simpa using this
  obtain ⟨W0, hW0⟩ : ∃ W0, (((((((w.alloc (.cells (pgC p (.slice a0 p.ins.length a1) (.slice b0 p.flows.length b1) (.slice c0 p.outs.length c1)) 46)).alloc (.cells #[.string name] 9)).alloc (.cells #[.int .i64 0] 3)).alloc (.cells #[.int .u8 0] 27)).alloc (.cells #[.int .i64 0] 3)).alloc (.cells #[.bool false] 4)).alloc (.cells (pgC p (.slice a0 p.ins.length a1) (.slice b0 p.flows.length b1) (.slice c0 p.outs.length c1)) 46)) = W0 := ⟨_, rfl⟩
  rw [hW0] at hB0 hsz bN b2 b3 b4 b5 x1 x2 ⊢
  clear hW0
  have HP0 := hid (HP.out.keep hB0)
  refine wpIn_rangeFunc_ownH hro h1 (gf := 84) (lb := #[.pointer (some ⟨w.heap.size + 1 + 1 + 1 + 1 + 1 + 1, 0, none⟩)]) rfl h22 (enters_of Tryd.func84 (by kernel_rfl) rfl)
    (things_stops F (n - 1) h22 hro (by omega) (w.heap.size + 1 + 1 + 1 + 1 + 1 + 1) p _ _ _ W0 HP0.out x1 x2) belowK_t (belowK_b (Nat.le_refl _)) (Below.refl _ _) (fun _ => rfl)
    (fun pre W => (((((Free pre name ∧ Boxed W (w.heap.size + 1) 9 (.string name)) ∧ Boxed W (w.heap.size + 1 + 1) 3 (.int .i64 0)) ∧ Boxed W (w.heap.size + 1 + 1 + 1) 27 (.int .u8 0)) ∧ Boxed W (w.heap.size + 1 + 1 + 1 + 1) 3 (.int .i64 0)) ∧ Boxed W (w.heap.size + 1 + 1 + 1 + 1 + 1) 4 (.bool false)) ∧ (Below w.heap.size w W ∧ W0.heap.size ≤ W.heap.size))
    (fun c pre W => ∃ (q : List (Int × Hd)) (x : Int × Hd), (c = .ret ∧ pre = q ++ [x] ∧ Free q name ∧ (x.2.name.toList == name.toList) = true) ∧ Boxed W (w.heap.size + 1 + 1) 3 (.int .i64 x.2.st) ∧ Boxed W (w.heap.size + 1 + 1 + 1) 27 (.int .u8 (x.2.ty : Int)) ∧ Boxed W (w.heap.size + 1 + 1 + 1 + 1) 3 (.int .i64 x.1) ∧ Boxed W (w.heap.size + 1 + 1 + 1 + 1 + 1) 4 (.bool true) ∧ Below w.heap.size w W)
    (OwnFrom.and (OwnFrom.and (OwnFrom.and (OwnFrom.and (OwnFrom.and (OwnFrom.and (ownFrom_pure _ _) (Own.from (boxed_own _ _ _) _)) (Own.from (boxed_own _ _ _) _)) (Own.from (boxed_own _ _ _) _)) (Own.from (boxed_own _ _ _) _)) (Own.from (boxed_own _ _ _) _)) (OwnFrom.and (ownFrom_below (Nat.le_refl _) (by omega)) (fun _ _ _ _ hs hg _ => Nat.le_trans hs hg.size)))
    (fun c pre X Y row hs hg hr => by
      obtain ⟨q, x, e, e2, e3, e4, e5, e6⟩ := hs
      exact ⟨q, x, e, box_turn e2 hg hr, box_turn e3 hg hr, box_turn e4 hg hr, box_turn e5 hg hr, (ownFrom_below (w₀ := w) (Nat.le_refl _) (by omega) : OwnFrom W0.heap.size (fun (_ : Unit) W => Below w.heap.size w W)) () X Y row e6 hg hr⟩)
    ⟨⟨⟨⟨⟨⟨(fun x hx => by cases hx), bN⟩, b2⟩, b3⟩, b4⟩, b5⟩, hB0, Nat.le_refl _⟩
    (fun x a' W => ∃ Bx, w.heap.size + 1 + 1 + 1 + 1 + 1 + 1 < Bx ∧ W.heap[Bx]? = some (.cells #[.string x.2.name, .int .u8 (x.2.ty : Int), .int .i64 x.2.st] 73 (0, 0)) ∧ a' = { tmps := #[pgV p (.slice a0 p.ins.length a1) (.slice b0 p.flows.length b1) (.slice c0 p.outs.length c1), .string name, .pointer (some ⟨w.heap.size, 0, none⟩), .pointer (some ⟨w.heap.size + 1, 0, none⟩), .pointer (some ⟨w.heap.size + 1 + 1, 0, none⟩), .pointer (some ⟨w.heap.size + 1 + 1 + 1, 0, none⟩), .pointer (some ⟨w.heap.size + 1 + 1 + 1 + 1, 0, none⟩), .pointer (some ⟨w.heap.size + 1 + 1 + 1 + 1 + 1, 0, none⟩), .int .i64 x.1, .pointer (some ⟨Bx, 0, none⟩), pgV p (.slice a0 p.ins.length a1) (.slice b0 p.flows.length b1) (.slice c0 p.outs.length c1), .func (.func 84) #[] #[.pointer (some ⟨w.heap.size + 1 + 1 + 1 + 1 + 1 + 1, 0, none⟩)], .int .i64 x.1, hdV x.2, undef, undef, undef, undef, undef, undef, undef, undef, undef], defers := [] })
    (fun x a' _ X Y row hs hg hr => by obtain ⟨Bx, e1, e2, e3⟩ := hs; exact ⟨Bx, e1, (grownBy_keeps_cells hg (fun r e => (hr r e).2) e2), e3⟩)
    ?assign ?body ?done ?stop
  case assign =>
    rintro l pre x W K ⟨⟨⟨⟨⟨⟨hf, cN⟩, c2⟩, c3⟩, c4⟩, c5⟩, hB1, hZ⟩ hK
    gi_wp2
    exact hK _ _ ((KeepsOthers.alloc _ _).from _) ((Below.refl _ W).alloc hZ _) ⟨⟨⟨⟨⟨⟨hf, cN.alloc _⟩, c2.alloc _⟩, c3.alloc _⟩, c4.alloc _⟩, c5.alloc _⟩, hB1.alloc hB1.size _, by simp; omega⟩ ⟨W.heap.size, by omega, World.alloc_heap_new W _, rfl⟩
  case body =>
    rintro l pre x a' W hl _ ⟨⟨⟨⟨⟨⟨hf, cN⟩, c2⟩, c3⟩, c4⟩, c5⟩, hB1, hZ⟩ ⟨Bx, hBx, hRow, rfl⟩ _
    have dN := cN.cell
    have d2 := c2.cell
    have d3 := c3.cell
    have d4 := c4.cell
    have d5 := c5.cell
    have f2 := c2.frozen
    have f3 := c3.frozen
    have f4 := c4.frozen
    have f5 := c5.frozen
    have v0 : W.cell? ⟨Bx, 0, none⟩ = some (.string x.2.name) := by rw [cell_of_row _ _ _ _ 73 (0, 0) hRow]; rfl
    have v1 : W.cell? ⟨Bx, 1, none⟩ = some (.int .u8 (x.2.ty : Int)) := by rw [cell_of_row _ _ _ _ 73 (0, 0) hRow]; rfl
    have v2 : W.cell? ⟨Bx, 2, none⟩ = some (.int .i64 x.2.st) := by rw [cell_of_row _ _ _ _ 73 (0, 0) hRow]; rfl
    by_cases heq : (x.2.name.toList == name.toList) = true
    · gi_wp2
      have FB := four_boxed (.int .i64 x.2.st) (.int .u8 (x.2.ty : Int)) (.int .i64 x.1) (.bool true) c2 c3 c4 c5
      have FK := (four_keeps W w.heap.size (.int .i64 x.2.st) (.int .u8 (x.2.ty : Int)) (.int .i64 x.1) (.bool true)).trans (KeepsOthers.drew _)
      have FL := (four_below (.int .i64 x.2.st) (.int .u8 (x.2.ty : Int)) (.int .i64 x.1) (.bool true) hB1).drew
      have F2 := boxed_drew FB.1
      have F3 := boxed_drew FB.2.1
      have F4 := boxed_drew FB.2.2.1
      have F5 := boxed_drew FB.2.2.2
      unfold four at F2 F3 F4 F5 FK FL
      have FIN := hid (And.intro (FK.from W0.heap.size) (And.intro F2 (And.intro F3 (And.intro F4 (And.intro F5 FL)))))
      clear FB FK FL F2 F3 F4 F5
      gi_region
      all_goals
        gi_wp2
        exact ⟨FIN.out.1, pre, x, ⟨rfl, rfl, hf, heq⟩, FIN.out.2⟩
    · have heq' : (x.2.name.toList == name.toList) = false := by simpa using heq
      gi_wp2
      exact ⟨KeepsFrom.refl _ _, Below.refl _ _, ⟨⟨⟨⟨⟨hf.snoc heq', cN⟩, c2⟩, c3⟩, c4⟩, c5⟩, hB1, hZ⟩
  case done =>
    rintro D ys W hD rfl ⟨⟨⟨⟨⟨⟨hf, cN⟩, c2⟩, c3⟩, c4⟩, c5⟩, hB1, hZ⟩ hK
    have d2 := c2.cell
    have d3 := c3.cell
    have d4 := c4.cell
    have d5 := c5.cell
    have f2 := c2.frozen
    have f3 := c3.frozen
    have f4 := c4.frozen
    have f5 := c5.frozen
    gi_wp2
    have FB := four_boxed (.int .i64 0) (.int .u8 0) (.int .i64 0) (.bool false) c2 c3 c4 c5
    have FK := four_keeps W w.heap.size (.int .i64 0) (.int .u8 0) (.int .i64 0) (.bool false)
    have FL := four_below (.int .i64 0) (.int .u8 0) (.int .i64 0) (.bool false) hB1
    have hK' := FK.same D _ hK rfl
    refine ⟨by simp, .inl ⟨_, _, rfl, run_takeDeferred hK', ?_⟩⟩
    have kk : ∀ B t v, Boxed (four W w.heap.size (.int .i64 0) (.int .u8 0) (.int .i64 0) (.bool false)) B t v → ((four W w.heap.size (.int .i64 0) (.int .u8 0) (.int .i64 0) (.bool false)).putObj D (.deferred none)).cell? ⟨B, 0, none⟩ = some v := fun _ _ _ h => Go.cell_kept h.cell (grownBy_putObj' _ D (.deferred none)) (fun r e => by cases e; exact ⟨_, hK', rfl⟩)
    have e2 := kk _ _ _ FB.1
    have e3 := kk _ _ _ FB.2.1
    have e4 := kk _ _ _ FB.2.2.1
    have e5 := kk _ _ _ FB.2.2.2
    refine ⟨.tuple #[.int .i64 0, .int .u8 0, .int .i64 0, .bool false], ?_, by rw [findT_none hf]; rfl, FL.trans (belowK_b (w := w) (Nat.le_refl _) _ D _ _ (by omega) hK' rfl rfl)⟩
    unfold four at e2 e3 e4 e5
    simp [results, Tryd.f52, go_sem, e2, e3, e4, e5]
  case stop =>
    rintro D c pre W hD hpre ⟨q, x, ⟨rfl, rfl, hf, hx⟩, c2, c3, c4, c5, hB1⟩ hK
    gi_wp2
    refine ⟨by simp, .inl ⟨_, _, rfl, run_takeDeferred hK, ?_⟩⟩
    have kk : ∀ B t v, Boxed W B t v → (W.putObj D (.deferred none)).cell? ⟨B, 0, none⟩ = some v := fun _ _ _ h => Go.cell_kept h.cell (grownBy_putObj' _ D (.deferred none)) (fun r e => by cases e; exact ⟨_, hK, rfl⟩)
    have e2 := kk _ _ _ c2
    have e3 := kk _ _ _ c3
    have e4 := kk _ _ _ c4
    have e5 := kk _ _ _ c5
    refine ⟨.tuple #[.int .i64 x.2.st, .int .u8 (x.2.ty : Int), .int .i64 x.1, .bool true], ?_, by rw [findT_some hpre hf hx]; rfl, hB1.trans (belowK_b (w := w) (Nat.le_refl _) W D _ _ (by omega) hK rfl rfl)⟩
    simp [results, Tryd.f52, go_sem, e2, e3, e4, e5]
/-- Find. -/
theorem find (p : Pg) (name : ByteArray) (w : World) (a b c : Value) (hP : PgAt w p a b c) :
    Calls Tryd.prog 52 #[pgV p a b c, .string name] w fun e W' => e = .returned (.tuple (foV (findT (thingsL p) name))) ∧ Below w.heap.size w W' :=
  (callsIn_wide (n := 6)).1 (find_in Fence.wide 6 trivial trivial trivial rfl (Nat.le_refl _) p name w a b c hP)
end Go.Proofs.YtdenddknbmiboaaDoor.Lex
namespace Go.Proofs.YtdenddknbmiboaaDoor.Lex
open Go.ChangeShapes Go.WideShapes Go.ChangeAt Go.RowKit Go.Shelf
attribute [local go_sem] Oper.semAt_some
/-- What a round keeps: all below some block, and one block. -/
def KpT (n₀ Bn : Nat) (W W' : World) : Prop := Below n₀ W W' ∧ W'.heap[Bn]? = W.heap[Bn]?
theorem KpT.trans {n₀ Bn : Nat} {A B C : World} (h : KpT n₀ Bn A B) (k : KpT n₀ Bn B C) : KpT n₀ Bn A C := ⟨h.1.trans k.1, k.2.trans h.2⟩
set_option maxRecDepth 100000 in
set_option maxHeartbeats 2000000 in
theorem things2 (F : Fence) (n : Nat) (h22 : F.fn 84) (hro : F.round = none) (hn : 1 ≤ n) (l Bn n₀ : Nat) (p : Pg) (a b c : Value) (J Jx : List (Int × Hd) → World → Prop) (W0 W : World) (hW0 : n₀ = W0.heap.size) (hW : Below n₀ W0 W) (hP : PgAt W0 p a b c)
    (hA : AbidesFrom W.heap.size J)
    (hY : ∀ pre x W, J pre W → pre ++ [x] <+: thingsL p → YieldAt F (n - 1) Tryd.prog l #[.int .i64 x.1, hdV x.2] W fun e W' =>
      (e = .returned (.bool true) ∧ J (pre ++ [x]) W' ∧ KpT n₀ Bn W W') ∨ (e = .returned (.bool false) ∧ Jx (pre ++ [x]) W'))
    (hBx : W.heap[Bn]? = some (.cells (pgC p a b c) 46 (0, 0))) (h0 : J [] W) :
    CallsIn F n Tryd.prog 84 #[.func (.yield l) #[] #[], .pointer (some ⟨Bn, 0, none⟩)] W fun e W' => (∃ v, e = .returned v) ∧
      ((∃ ys, ys = thingsL p ∧ J ys W') ∨ (∃ pre, pre <+: thingsL p ∧ Jx pre W')) := by
  subst hW0
  obtain ⟨ao, cap, rfl, hlen, _, _, hc⟩ := hP.ins
  obtain ⟨bo, cbp, sl, rfl, hlen2, _, _, hc2, hs2⟩ := hP.flows
  have HS2 := hid hs2
  have HC := hid hc
  have HC2 := hid hc2
  clear hc hc2 hs2 hP
  have x1 : W.cell? ⟨Bn, 1, none⟩ = some (.slice ao p.ins.length cap) := by rw [cell_of_row _ _ _ _ 46 (0, 0) hBx]; rfl
  have HBX := hid hBx
  have AL : ∀ (s : List (Int × Hd)) (V : World) (o : Obj), J s V → J s (V.alloc o) := fun s V o h => hA s V _ none h (World.grownBy_alloc V o none) (fun r e => by cases e)
  clear hBx hA
  refine callsIn_of_wp Tryd.func84 rfl h22 ?_ hro
  simp only [Tryd.ntmps84, List.size_toArray, List.length_cons, List.length_nil, Nat.reduceAdd, Nat.reduceSub, Array.replicate_succ, Array.replicate_zero, List.push_toArray, List.append_toArray, List.nil_append, List.cons_append]
  gi_wp2
  gi_loopw [10] (fun i wr => ∃ k : Nat, k ≤ p.ins.length ∧ i = .int .i64 (k : Int) ∧ Hid (J ((insL p).take k) wr) ∧ Hid (Below W0.heap.size W0 wr) ∧ Hid (wr.heap[Bn]? = some (.cells (pgC p (.slice ao p.ins.length cap) (.slice bo p.flows.length cbp) c) 46 (0, 0)))) (fun i wr => p.ins.length - (intOf i).toNat)
  case atStart => exact ⟨0, Nat.zero_le _, rfl, hid h0, hid hW, HBX⟩
  case round =>
    obtain ⟨k, hk, rfl, hJ, hB, hBX⟩ := hrel
    by_cases hlt : k < p.ins.length
    · have hlt' : (k : Int) < (p.ins.length : Int) := by omega
      have hk0 : (0 : Int) ≤ (k : Int) := by omega
      obtain ⟨bb, o, rfl, hcc⟩ := HC.out.resolve_left (by omega)
      obtain ⟨v0, v1, v2⟩ := (hcc k hlt).keep hB.out
      have HS := hid (insL_succ p k hlt)
      obtain ⟨fn, tmps, assign, body, hy, hR⟩ := hY ((insL p).take k) (-1, p.ins[k]) (wr.alloc (.cells #[.string p.ins[k].name, .int .u8 (p.ins[k].ty : Int), .int .i64 p.ins[k].st] 73)) (AL _ _ _ hJ.out) (by rw [← insL_succ p k hlt]; exact (List.take_prefix _ _).trans (List.prefix_append _ _))
      dsimp only at hy
      clear hcc
      generalize p.ins[k] = y at *
      gi_wp2
      refine hR.mono ?_
      rintro e W3 (⟨rfl, hJ3, hk3⟩ | ⟨rfl, hJx3⟩)
      · gi_wp2
        go_roundw
        case rel => exact ⟨k + 1, by omega, by go_num, hid (by rw [HS.out]; exact hJ3), hid ((hB.out.alloc hB.out.size _).trans hk3.1), hid (hk3.2.trans ((Below.heap_alloc _ _ _ (Array.getElem?_eq_some_iff.1 hBX.out).1).trans hBX.out))⟩
        case measure => simp [intOf]; omega
      · gi_wp2
        refine bodyPost_ret (results_none rfl _ _ _) rfl ?_
        exact ⟨⟨_, rfl⟩, .inr ⟨_, by rw [← HS.out]; exact (List.take_prefix _ _).trans (List.prefix_append _ _), hJx3⟩⟩
    · have hlt' : ¬ (k : Int) < (p.ins.length : Int) := by omega
      have hJ' : Hid (J (insL p) wr) := by rw [List.take_of_length_le (by rw [insL_len]; omega)] at hJ; exact hJ
      have x2 : wr.cell? ⟨Bn, 2, none⟩ = some (.slice bo p.flows.length cbp) := by rw [cell_of_row _ _ _ _ 46 (0, 0) hBX.out]; rfl
      clear hJ
      gi_wp2
      gi_loopw [22] (fun i wr => ∃ k : Nat, k ≤ p.flows.length ∧ i = .int .i64 (k : Int) ∧ Hid (J (insL p ++ (flowsL p).take k) wr) ∧ Hid (Below W0.heap.size W0 wr)) (fun i wr => p.flows.length - (intOf i).toNat)
      case atStart => exact ⟨0, Nat.zero_le _, rfl, hid (by simpa using hJ'.out), hB⟩
      case round =>
        obtain ⟨j, hj, rfl, hJ2, hB'⟩ := hrel
        by_cases hjl : j < p.flows.length
        · have hjl' : (j : Int) < (p.flows.length : Int) := by omega
          have hj0 : (0 : Int) ≤ (j : Int) := by omega
          obtain ⟨b2, o2, rfl, hcc⟩ := HC2.out.resolve_left (by omega)
          have X := (hcc j hjl).keep hB'.out
          obtain ⟨a3, c3, _, e3, _⟩ := (HS2.out j hjl).out
          rw [e3] at X
          have HS := hid (flowsL_succ p j hjl)
          obtain ⟨fn, tmps, assign, body, hy, hR⟩ := hY (insL p ++ (flowsL p).take j) ((j : Int), p.flows[j].hd) (wr.alloc (.cells #[.string p.flows[j].name, .int .u8 (p.flows[j].ty : Int), .int .i64 p.flows[j].st, .int .i64 p.flows[j].df, .int .u8 (p.flows[j].body.op : Int), .int .i64 p.flows[j].body.n, .string p.flows[j].body.name, .slice a3 p.flows[j].body.args.length c3] 76)) (AL _ _ _ hJ2.out) (by rw [List.append_assoc, ← flowsL_succ p j hjl]; exact (List.prefix_append_right_inj _).2 (List.take_prefix _ _))
          dsimp only [Fl.hd] at hy
          clear hcc e3
          obtain ⟨v0, v1, v2, v3, v4, v5, v6, v7⟩ := X
          generalize p.flows[j] = y at *
          gi_wp2
          refine hR.mono ?_
          rintro e W3 (⟨rfl, hJ3, hk3⟩ | ⟨rfl, hJx3⟩)
          · gi_wp2
            go_roundw
            case rel => exact ⟨j + 1, by omega, by go_num, hid (by rw [HS.out, ← List.append_assoc]; exact hJ3), hid ((hB'.out.alloc hB'.out.size _).trans hk3.1)⟩
            case measure => simp [intOf]; omega
          · gi_wp2
            refine bodyPost_ret (results_none rfl _ _ _) rfl ?_
            exact ⟨⟨_, rfl⟩, .inr ⟨_, by rw [List.append_assoc, ← HS.out]; exact (List.prefix_append_right_inj _).2 (List.take_prefix _ _), hJx3⟩⟩
        · have hjl' : ¬ (j : Int) < (p.flows.length : Int) := by omega
          gi_wp2
          go_end0
          exact ⟨⟨_, rfl⟩, .inl (by have := hJ2.out; rw [List.take_of_length_le (by rw [flowsL_len]; omega)] at this; exact this)⟩
/-- A thing whose name is a string. -/
abbrev Tg := { x : Int × Hd // x.2.name.size ≤ 140737488355328 }
theorem things_size {w : World} {p : Pg} {a b c : Value} (hP : PgAt w p a b c) : ∀ x ∈ thingsL p, x.2.name.size ≤ 140737488355328 := fun x hx => by
  obtain ⟨_, _, _, _, _, ho1, _⟩ := hP.ins
  obtain ⟨_, _, _, _, _, _, ho2, _⟩ := hP.flows
  rcases List.mem_append.1 hx with hx | hx
  · obtain ⟨y, hy, rfl⟩ := List.mem_map.1 hx
    exact (ho1 y hy).1
  · obtain ⟨i, hi, rfl⟩ := List.mem_map.1 hx
    have hi' : i < p.flows.length := by simpa using hi
    simp only [List.getElem?_eq_getElem hi', Option.map_some, Option.getD_some]
    exact (ho2 _ (List.getElem_mem hi')).1
/-- What it hands back goes through the things. -/
theorem things_stops2 (F : Fence) (n : Nat) (h45 : F.fn 84) (hro : F.round = none) (hn : 1 ≤ n) (Bn : Nat) (p : Pg) (a b c : Value) (w0 w : World) (hP : PgAt w0 p a b c) (hb : Below w0.heap.size w0 w) (hBx : w.heap[Bn]? = some (.cells (pgC p a b c) 46 (0, 0))) :
    SeqStopsK F n Tryd.prog 84 #[.pointer (some ⟨Bn, 0, none⟩)] (fun x : Tg => #[.int .i64 x.1.1, hdV x.1.2]) (KpT w0.heap.size Bn) (fun ys => ys.map (·.1) = thingsL p) (fun pre => pre.map (·.1) <+: thingsL p) (thingsL p).length w := fun l J Jx W hW hA _ hY h0 => by
  have hsz := things_size hP
  refine (things2 F n h45 hro hn l Bn w0.heap.size p a b c (fun pre V => ∃ q : List Tg, q.map (·.1) = pre ∧ J q V) (fun pre V => ∃ q : List Tg, q.map (·.1) = pre ∧ Jx q V) w0 W rfl (hb.trans (hW.mono hb.size)) hP ?_ ?_ ((hW.block Bn (Array.getElem?_eq_some_iff.1 hBx).1).trans hBx) ⟨[], rfl, h0⟩).mono ?_
  · rintro s V V' row ⟨q, e, hJ⟩ hg hr
    exact ⟨q, e, hA q V V' row hJ hg hr⟩
  · rintro pre x V ⟨q, rfl, hJ⟩ hpre
    have hx : x ∈ thingsL p := hpre.subset (by simp)
    have hlen : q.length < (thingsL p).length := by have := hpre.length_le; simp at this; omega
    refine (hY q ⟨x, hsz x hx⟩ V hJ hlen).mono ?_
    rintro e V' (⟨rfl, h1, h2⟩ | ⟨rfl, h1⟩)
    · exact .inl ⟨rfl, ⟨q ++ [⟨x, hsz x hx⟩], by simp, h1⟩, h2⟩
    · exact .inr ⟨rfl, ⟨q ++ [⟨x, hsz x hx⟩], by simp, h1⟩⟩
  · rintro e V' ⟨hv, ⟨ys, rfl, q, e1, hJ⟩ | ⟨pre, hp, q, rfl, hJ⟩⟩
    · exact ⟨hv, .inl ⟨q, e1, hJ⟩⟩
    · exact ⟨hv, .inr ⟨q, hp, hJ⟩⟩
end Go.Proofs.YtdenddknbmiboaaDoor.Lex
namespace Go.Proofs.YtdenddknbmiboaaDoor.Lex
open Go.ChangeShapes Go.WideShapes Go.ChangeAt Go.RowKit Go.Shelf
attribute [local go_sem] Oper.semAt_some
theorem name_small {op : Nat} {n : Int} {nm : ByteArray} {len : Nat} (h : fieldsOk op n nm len = true) : nm.size ≤ 65536 := by
  unfold fieldsOk at h
  unfold isName at h
  split at h
  · simp only [Bool.and_eq_true, decide_eq_true_eq] at h; omega
  split at h
  · simp only [Bool.and_eq_true, decide_eq_true_eq] at h; omega
  split at h
  · simp only [Bool.and_eq_true, decide_eq_true_eq] at h; omega
  · simp only [Bool.and_eq_true, decide_eq_true_eq] at h; omega
theorem szL_nm {f : Nat → Ex → Option Nat} {d : Nat} (hf : ∀ m a k, f m a = some k → NmOk d a ∧ cnt d a = k) (most : Nat) : ∀ (l : List Ex) (n r : Nat), szL f most n l = some r → (∀ y ∈ l, NmOk d y) ∧ l.foldl (fun n y => n + cnt d y) n = r
  | [], n, r, h => by simp only [szL, Option.some.injEq] at h; exact ⟨by simp, h⟩
  | a :: l, n, r, h => by
    simp only [szL] at h
    cases e : f (most - n) a with
    | none => rw [e] at h; cases h
    | some k =>
      rw [e] at h
      obtain ⟨h1, h2⟩ := hf _ _ _ e
      obtain ⟨h3, h4⟩ := szL_nm hf most l (n + k) r h
      refine ⟨fun y hy => ?_, ?_⟩
      · rcases List.mem_cons.1 hy with rfl | hy
        · exact h1
        · exact h3 y hy
      · rw [List.foldl_cons, h2]; exact h4
theorem sz_nm : ∀ (d most : Nat) (x : Ex) (k : Nat), sz d most x = some k → NmOk d x ∧ cnt d x = k
  | 0, most, x, k, h => by simp [sz] at h
  | d + 1, most, x, k, h => by
    rw [sz] at h
    split at h
    · cases h
    · next hn =>
      obtain ⟨h1, h2⟩ := szL_nm (fun m a k => sz_nm d m a k) most x.args 1 k h
      have hfo : fieldsOk x.op x.n x.name x.args.length = true := by
        cases e : fieldsOk x.op x.n x.name x.args.length
        · exact (hn (.inr e)).elim
        · rfl
      exact ⟨⟨name_small hfo, h1⟩, h2⟩
theorem chk_nm {x : Ex} (h : chk x = true) : NmOk 32 x ∧ cnt 32 x ≤ 200 := by
  unfold chk at h
  cases e : sz 32 200 x with
  | none => rw [e] at h; cases h
  | some k =>
    have h1 := sz_nm 32 200 x k e
    have h2 := sz_le 32 200 x k e
    exact ⟨h1.1, by omega⟩
def RfAt (w : World) (v : Value) (L : List Rf) : Prop :=
  ∃ a cap, v = .slice a L.length cap ∧ (L.length = 0 ∨ ∃ g, a = some ⟨g, 0, none⟩ ∧ ∀ i (h : i < L.length), w.cell? ⟨g, i * 2, none⟩ = some (.string L[i].1) ∧ w.cell? ⟨g, i * 2 + 1, none⟩ = some (.int .i64 (L[i].2 : Int)))
theorem refsV_at (L : List Rf) (i : Nat) (hi : i < L.length) : (refsV L)[2 * i]? = some (.string L[i].1) ∧ (refsV L)[2 * i + 1]? = some (.int .i64 (L[i].2 : Int)) := by
  induction L generalizing i with
  | nil => simp at hi
  | cons t ts ih =>
    have e : refsV (t :: ts) = [.string t.1, .int .i64 (t.2 : Int)] ++ refsV ts := by simp [refsV]
    rw [e]
    cases i with
    | zero => exact ⟨rfl, rfl⟩
    | succ i =>
      have := ih i (by simpa using hi)
      have hl : ([.string t.1, .int .i64 (t.2 : Int)] : List Value).length = 2 := rfl
      refine ⟨?_, ?_⟩
      · rw [List.getElem?_append_right (by omega), hl, show 2 * (i + 1) - 2 = 2 * i by omega]; simpa using this.1
      · rw [List.getElem?_append_right (by omega), hl, show 2 * (i + 1) + 1 - 2 = 2 * i + 1 by omega]; simpa using this.2
theorem RfAt.of_own {w : World} {B : Nat} {v : Value} {L : List Rf} (h : w.ownsRow B 109 2 v L.length (refsV L)) : RfAt w v L := by
  rcases h.2 with ⟨rfl, h0⟩ | ⟨g, cap, cur, rfl, hg0, hg, rest⟩
  · exact ⟨none, 0, by rw [h0], .inl h0⟩
  · refine ⟨_, cap, rfl, .inr ⟨g, rfl, fun i hi => ?_⟩⟩
    obtain ⟨a, b⟩ := refsV_at L i hi
    refine ⟨?_, ?_⟩
    · rw [h.cellAt _ (by omega), Nat.mul_comm]; exact a
    · rw [h.cellAt _ (by omega), Nat.mul_comm]; exact b
theorem gat_fold {k : Nat} (ih : ∀ (x : Ex) (ago : Nat) (acc : List Rf), (gat k x ago acc).length ≤ acc.length + cnt k x) (ago B : Nat) : ∀ (l : List Ex) (acc : List Rf) (n : Nat), acc.length ≤ B + n → (l.foldl (fun acc y => gat k y ago acc) acc).length ≤ B + l.foldl (fun n y => n + cnt k y) n
  | [], acc, n, h => h
  | y :: l, acc, n, h => by
    rw [List.foldl_cons, List.foldl_cons]
    exact gat_fold ih ago B l _ _ (by have := ih y ago acc; omega)
theorem gat_len : ∀ (k : Nat) (x : Ex) (ago : Nat) (acc : List Rf), (gat k x ago acc).length ≤ acc.length + cnt k x
  | 0, x, ago, acc => by simp [gat, cnt]
  | k + 1, x, ago, acc => by
    rw [gat, cnt]
    refine gat_fold (gat_len k) _ acc.length x.args _ 1 ?_
    unfold ownRefs addR
    split
    · split <;> simp
    · omega
/-- The names that a Body asks for; that all ask for. -/
def asksOf (f : Fl) : List ByteArray := (gat 32 f.body 0 []).map (·.1)
def asksN (p : Pg) (k : Nat) : List ByteArray := (p.flows.take k).flatMap asksOf
def askedL (p : Pg) : List ByteArray := p.flows.flatMap asksOf
theorem asksN_succ (p : Pg) (k : Nat) (h : k < p.flows.length) : asksN p (k + 1) = asksN p k ++ asksOf p.flows[k] := by
  unfold asksN
  rw [List.take_succ_eq_append_getElem h, List.flatMap_append]
  simp
theorem asksN_prefix (p : Pg) (k : Nat) : asksN p k <+: askedL p := by
  refine ⟨(p.flows.drop k).flatMap asksOf, ?_⟩
  unfold asksN askedL
  rw [← List.flatMap_append, List.take_append_drop]
/-- What a round keeps: all below some block, and all cells. -/
def KpA (n₀ : Nat) (W W' : World) : Prop := Below n₀ W W' ∧ ∀ (a : Addr) (v : Value), W.cell? a = some v → W'.cell? a = some v
theorem KpA.trans {n₀ : Nat} {A B C : World} (h : KpA n₀ A B) (k : KpA n₀ B C) : KpA n₀ A C := ⟨h.1.trans k.1, fun a v e => k.2 a v (h.2 a v e)⟩
theorem RfAt.kept {W W' : World} {ao : Option Addr} {L : List Rf} (h : L.length = 0 ∨ ∃ g, ao = some ⟨g, 0, none⟩ ∧ ∀ i (h : i < L.length), W.cell? ⟨g, i * 2, none⟩ = some (.string L[i].1) ∧ W.cell? ⟨g, i * 2 + 1, none⟩ = some (.int .i64 (L[i].2 : Int)))
    (k : ∀ (a : Addr) (v : Value), W.cell? a = some v → W'.cell? a = some v) : L.length = 0 ∨ ∃ g, ao = some ⟨g, 0, none⟩ ∧ ∀ i (h : i < L.length), W'.cell? ⟨g, i * 2, none⟩ = some (.string L[i].1) ∧ W'.cell? ⟨g, i * 2 + 1, none⟩ = some (.int .i64 (L[i].2 : Int)) := by
  rcases h with h | ⟨g, e, hc⟩
  · exact .inl h
  · exact .inr ⟨g, e, fun i hi => ⟨k _ _ (hc i hi).1, k _ _ (hc i hi).2⟩⟩
theorem grown_none {V V' : World} (hb : Below V.heap.size V V') : V.grownBy V' none := ⟨hb.os, hb.tape, hb.output, hb.size, fun k hk _ => hb.block k hk⟩
theorem cells_alloc (V : World) (o : Obj) : ∀ (a : Addr) (v : Value), V.cell? a = some v → (V.alloc o).cell? a = some v := fun _ _ h => cell_kept h ((Below.refl _ V).alloc (Nat.le_refl _) o)
set_option maxRecDepth 100000 in
set_option maxHeartbeats 2000000 in
theorem asked1 (n : Nat) (hn : 1 ≤ n) (l Bn n₀ : Nat) (p : Pg) (a b c : Value) (J Jx : List ByteArray → World → Prop) (W0 W : World) (hW0 : n₀ = W0.heap.size) (hW : Below n₀ W0 W) (hP : PgAt W0 p a b c) (hC : ∀ f ∈ p.flows, chk f.body = true)
    (hA : AbidesFrom W.heap.size J)
    (hY : ∀ pre x W, J pre W → pre ++ [x] <+: askedL p → YieldAt Fence.wide (n - 1) Tryd.prog l #[.string x] W fun e W' =>
      (e = .returned (.bool true) ∧ J (pre ++ [x]) W' ∧ KpA n₀ W W') ∨ (e = .returned (.bool false) ∧ Jx (pre ++ [x]) W'))
    (hBx : W.heap[Bn]? = some (.cells (pgC p a b c) 46 (0, 0))) (h0 : J [] W) :
    CallsIn Fence.wide n Tryd.prog 85 #[.func (.yield l) #[] #[], .pointer (some ⟨Bn, 0, none⟩)] W fun e W' => (∃ v, e = .returned v) ∧
      ((∃ ys, ys = askedL p ∧ J ys W') ∨ (∃ pre, pre <+: askedL p ∧ Jx pre W')) := by
  have h15 : Fence.wide.fn 65 := trivial
  subst hW0
  obtain ⟨bo, cbp, sl, rfl, hlen2, _, _, hc2, hs2⟩ := hP.flows
  have HS2 := hid hs2
  have HC2 := hid hc2
  have HCH := hid hC
  clear hc2 hs2 hP hC
  have x2 : W.cell? ⟨Bn, 2, none⟩ = some (.slice bo p.flows.length cbp) := by rw [cell_of_row _ _ _ _ 46 (0, 0) hBx]; rfl
  have AL : ∀ (s : List ByteArray) (V V' : World), J s V → Below V.heap.size V V' → J s V' := fun s V V' h hb => hA s V _ none h (grown_none hb) (fun r e => by cases e)
  clear hBx hA
  refine callsIn_of_wp Tryd.func85 rfl trivial ?_ rfl
  simp only [Tryd.ntmps85, List.size_toArray, List.length_cons, List.length_nil, Nat.reduceAdd, Nat.reduceSub, Array.replicate_succ, Array.replicate_zero, List.push_toArray, List.append_toArray, List.nil_append, List.cons_append]
  gi_wp2
  gi_loopw [10] (fun i wr => ∃ k : Nat, k ≤ p.flows.length ∧ i = .int .i64 (k : Int) ∧ Hid (J (asksN p k) wr) ∧ Hid (Below W0.heap.size W0 wr)) (fun i wr => p.flows.length - (intOf i).toNat)
  case atStart => exact ⟨0, Nat.zero_le _, rfl, hid h0, hid hW⟩
  case round =>
    obtain ⟨j, hj, rfl, hJ, hB⟩ := hrel
    by_cases hjl : j < p.flows.length
    · have hjl' : (j : Int) < (p.flows.length : Int) := by omega
      have hj0 : (0 : Int) ≤ (j : Int) := by omega
      obtain ⟨b2, o2, rfl, hcc⟩ := HC2.out.resolve_left (by omega)
      have X := (hcc j hjl).keep hB.out
      have hSt := (HS2.out j hjl).keep hB.out
      obtain ⟨a3, c3, _, e3, _⟩ := (HS2.out j hjl).out
      rw [e3] at X hSt
      have HSU := hid (asksN_succ p j hjl)
      have hnm := chk_nm (HCH.out _ (List.getElem_mem hjl))
      have HPX := hid (asksN_prefix p (j + 1))
      clear hcc e3
      obtain ⟨v0, v1, v2, v3, v4, v5, v6, v7⟩ := X
      generalize p.flows[j] = y at *
      have hBa := (Below.refl wr.heap.size wr).alloc (Nat.le_refl _) (.cells #[.string y.name, .int .u8 (y.ty : Int), .int .i64 y.st, .int .i64 y.df, .int .u8 (y.body.op : Int), .int .i64 y.body.n, .string y.body.name, .slice a3 y.body.args.length c3] 76)
      have c15 := (callsIn_wide (n := n - 1)).2 (refs 32 y.body _ _ (hSt.keep hBa) hnm.1 (by omega) (by omega))
      have HL : Hid ((gat 32 y.body 0 []).map (·.1) = asksOf y) := hid rfl
      have HBA := hid hBa
      have hLl : (gat 32 y.body 0 []).length ≤ 1000000 := by have h1 := gat_len 32 y.body 0 []; have h2 := hnm.2; simp at h1; omega
      clear hSt hnm hBa
      generalize gat 32 y.body 0 [] = L at *
      gi_wp2_with (gi_at_call 65; refine c15.mono ?_; rintro e w2 ⟨v, rfl, hrow, hb2⟩; obtain ⟨ao, cap, rfl, hrf⟩ := RfAt.of_own hrow; have HRF := hid hrf; have HB2 := hid hb2; clear hrow hrf hb2 c15)
      gi_loopw [18] (fun i wr => ∃ m : Nat, m ≤ L.length ∧ i = .int .i64 (m : Int) ∧ Hid (J (asksN p j ++ (L.take m).map (·.1)) wr) ∧ Hid (Below W0.heap.size W0 wr) ∧ Hid (L.length = 0 ∨ ∃ g, ao = some ⟨g, 0, none⟩ ∧ ∀ i (h : i < L.length), wr.cell? ⟨g, i * 2, none⟩ = some (.string L[i].1) ∧ wr.cell? ⟨g, i * 2 + 1, none⟩ = some (.int .i64 (L[i].2 : Int)))) (fun i wr => L.length - (intOf i).toNat)
      case atStart => exact ⟨0, Nat.zero_le _, rfl, hid (by rw [List.take_zero, List.map_nil, List.append_nil]; exact AL _ _ _ (AL _ _ _ hJ.out HBA.out) HB2.out), hid ((hB.out.trans (HBA.out.mono hB.out.size)).trans (HB2.out.mono (Nat.le_trans hB.out.size HBA.out.size))), HRF⟩
      case round =>
        obtain ⟨m, hm, rfl, hJ2, hB3, hRF⟩ := hrel
        by_cases hml : m < L.length
        · have hml' : (m : Int) < (L.length : Int) := by omega
          have hm0 : (0 : Int) ≤ (m : Int) := by omega
          obtain ⟨g, rfl, hcc⟩ := hRF.out.resolve_left (by omega)
          obtain ⟨u0, u1⟩ := hcc m hml
          have HSM : Hid ((L.take (m + 1)).map (·.1) = (L.take m).map (·.1) ++ [L[m].1]) := hid (by rw [List.take_succ_eq_append_getElem hml, List.map_append]; rfl)
          have HPM : Hid (asksN p j ++ ((L.take m).map (·.1) ++ [L[m].1]) <+: askedL p) := hid (by
            refine List.IsPrefix.trans ?_ HPX.out
            rw [HSU.out, ← HL.out, ← HSM.out, List.map_take]
            exact (List.prefix_append_right_inj _).2 (List.take_prefix _ _))
          obtain ⟨fn, tmps, assign, body, hy, hR⟩ := hY (asksN p j ++ (L.take m).map (·.1)) L[m].1 (wr.alloc (.cells #[.string L[m].1, .int .i64 (L[m].2 : Int)] 109)) (AL _ _ _ hJ2.out ((Below.refl _ _).alloc (Nat.le_refl _) _)) (by rw [List.append_assoc]; exact HPM.out)
          clear hcc
          generalize L[m] = z at *
          gi_wp2
          refine hR.mono ?_
          rintro e W3 (⟨rfl, hJ3, hk3⟩ | ⟨rfl, hJx3⟩)
          · gi_wp2
            go_roundw
            case rel => exact ⟨m + 1, by omega, by go_num, hid (by rw [HSM.out, ← List.append_assoc]; exact hJ3), hid ((hB3.out.alloc hB3.out.size _).trans hk3.1), hid (RfAt.kept hRF.out (fun a v e => hk3.2 a v (cells_alloc _ _ a v e)))⟩
            case measure => simp [intOf]; omega
          · gi_wp2
            refine bodyPost_ret (results_none rfl _ _ _) rfl ?_
            exact ⟨⟨_, rfl⟩, .inr ⟨_, by rw [List.append_assoc]; exact HPM.out, hJx3⟩⟩
        · have hml' : ¬ (m : Int) < (L.length : Int) := by omega
          gi_wp2
          go_roundw
          case rel => exact ⟨j + 1, by omega, by go_num, hid (by rw [HSU.out, ← HL.out]; have := hJ2.out; rw [List.take_of_length_le (by omega)] at this; exact this), hB3⟩
          case measure => simp [intOf]; omega
    · have hjl' : ¬ (j : Int) < (p.flows.length : Int) := by omega
      gi_wp2
      go_end0
      refine ⟨⟨_, rfl⟩, .inl ?_⟩
      have := hJ.out
      unfold asksN at this
      rw [List.take_of_length_le (by omega)] at this
      exact this
end Go.Proofs.YtdenddknbmiboaaDoor.Lex
namespace Go.Proofs.YtdenddknbmiboaaDoor.Lex
open Go.ChangeShapes Go.WideShapes Go.ChangeAt Go.RowKit Go.Shelf
attribute [local go_sem] Oper.semAt_some
/-- A name that is a string. -/
abbrev Ts := { s : ByteArray // s.size ≤ 140737488355328 }
theorem gat_small : ∀ (k : Nat) (x : Ex) (ago : Nat) (acc : List Rf), NmOk k x → (∀ r ∈ acc, r.1.size ≤ 65536) → ∀ r ∈ gat k x ago acc, r.1.size ≤ 65536
  | 0, x, ago, acc, _, h => h
  | k + 1, x, ago, acc, hn, h => by
    rw [gat]
    have h1 : ∀ r ∈ ownRefs x ago acc, r.1.size ≤ 65536 := by
      unfold ownRefs addR
      split
      · split
        · exact h
        · intro r hr
          rcases List.mem_append.1 hr with hr | hr
          · exact h r hr
          · simp only [List.mem_singleton] at hr
            subst hr
            exact hn.1
      · exact h
    have h2 : ∀ (l : List Ex) (acc : List Rf), (∀ y ∈ l, NmOk k y) → (∀ r ∈ acc, r.1.size ≤ 65536) → ∀ r ∈ l.foldl (fun acc y => gat k y (nextAgo x ago) acc) acc, r.1.size ≤ 65536 := by
      intro l
      induction l with
      | nil => intro acc _ h; exact h
      | cons y l ih =>
        intro acc hl h
        rw [List.foldl_cons]
        exact ih _ (fun z hz => hl z (List.mem_cons_of_mem _ hz)) (gat_small k y _ acc (hl y (by simp)) h)
    exact h2 x.args _ hn.2 h1
theorem asked_size {p : Pg} (hC : ∀ f ∈ p.flows, chk f.body = true) : ∀ s ∈ askedL p, s.size ≤ 140737488355328 := fun s hs => by
  unfold askedL at hs
  obtain ⟨f, hf, hs⟩ := List.mem_flatMap.1 hs
  obtain ⟨r, hr, rfl⟩ := List.mem_map.1 hs
  have := gat_small 32 f.body 0 [] (chk_nm (hC f hf)).1 (by simp) r hr
  omega
theorem asked (n : Nat) (p : Pg) (a b c : Value) (w : World) :
    CallsIn Fence.wide n Tryd.prog 64 #[pgV p a b c] w fun e w' => e = .returned (.func (.func 85) #[] #[.pointer (some ⟨w.heap.size, 0, none⟩)]) ∧ w' = w.alloc (.cells (pgC p a b c) 46) := by
  refine callsIn_of_wp Tryd.func64 rfl trivial ?_ rfl
  simp only [Tryd.ntmps64, List.size_toArray, List.length_cons, List.length_nil, Nat.reduceAdd, Nat.reduceSub, Array.replicate_succ, Array.replicate_zero, List.push_toArray, List.append_toArray, List.nil_append, List.cons_append]
  gi_wp2
  go_ret
  exact ⟨rfl, rfl⟩
/-- What it hands back goes through the names. -/
theorem asked_stops (n : Nat) (hn : 1 ≤ n) (Bn : Nat) (p : Pg) (a b c : Value) (w0 w : World) (hP : PgAt w0 p a b c) (hC : ∀ f ∈ p.flows, chk f.body = true) (hb : Below w0.heap.size w0 w) (hBx : w.heap[Bn]? = some (.cells (pgC p a b c) 46 (0, 0))) :
    SeqStopsK Fence.wide n Tryd.prog 85 #[.pointer (some ⟨Bn, 0, none⟩)] (fun x : Ts => #[.string x.1]) (KpA w0.heap.size) (fun ys => ys.map (·.1) = askedL p) (fun pre => pre.map (·.1) <+: askedL p) (askedL p).length w := fun l J Jx W hW hA _ hY h0 => by
  have hsz := asked_size hC
  refine (asked1 n hn l Bn w0.heap.size p a b c (fun pre V => ∃ q : List Ts, q.map (·.1) = pre ∧ J q V) (fun pre V => ∃ q : List Ts, q.map (·.1) = pre ∧ Jx q V) w0 W rfl (hb.trans (hW.mono hb.size)) hP hC ?_ ?_ ((hW.block Bn (Array.getElem?_eq_some_iff.1 hBx).1).trans hBx) ⟨[], rfl, h0⟩).mono ?_
  · rintro s V V' row ⟨q, e, hJ⟩ hg hr
    exact ⟨q, e, hA q V V' row hJ hg hr⟩
  · rintro pre x V ⟨q, rfl, hJ⟩ hpre
    have hx : x ∈ askedL p := hpre.subset (by simp)
    have hlen : q.length < (askedL p).length := by have := hpre.length_le; simp at this; omega
    refine (hY q ⟨x, hsz x hx⟩ V hJ hlen).mono ?_
    rintro e V' (⟨rfl, h1, h2⟩ | ⟨rfl, h1⟩)
    · exact .inl ⟨rfl, ⟨q ++ [⟨x, hsz x hx⟩], by simp, h1⟩, h2⟩
    · exact .inr ⟨rfl, ⟨q ++ [⟨x, hsz x hx⟩], by simp, h1⟩⟩
  · rintro e V' ⟨hv, ⟨ys, rfl, q, e1, hJ⟩ | ⟨pre, hp, q, rfl, hJ⟩⟩
    · exact ⟨hv, .inl ⟨q, e1, hJ⟩⟩
    · exact ⟨hv, .inr ⟨q, hp, hJ⟩⟩
end Go.Proofs.YtdenddknbmiboaaDoor.Lex
namespace Go.Proofs.YtdenddknbmiboaaDoor.Lex
open Go.ChangeShapes Go.WideShapes Go.ChangeAt Go.RowKit Go.Joins
/-- A flow asks for something: which flow, for what, its place among the flows, how long it is on its way. -/
structure Wi where
  flow : Nat
  rf : Rf
  of : Int
  way : Nat
abbrev wiV (x : Wi) : Value := .agg #[.int .i64 (x.flow : Int), .string x.rf.1, .int .i64 (x.rf.2 : Int), .int .i64 x.of, .int .i64 (x.way : Int)]
abbrev wiC (x : Wi) : List Value := [.int .i64 (x.flow : Int), .string x.rf.1, .int .i64 (x.rf.2 : Int), .int .i64 x.of, .int .i64 (x.way : Int)]
def stO (o : Option (Int × Hd)) : Int := match o with | some x => x.2.st | none => 0
def tyO (o : Option (Int × Hd)) : Nat := match o with | some x => x.2.ty | none => 0
def plO (o : Option (Int × Hd)) : Int := match o with | some x => x.1 | none => 0
theorem foV_eq (o : Option (Int × Hd)) : foV o = #[.int .i64 (stO o), .int .u8 (tyO o : Int), .int .i64 (plO o), .bool o.isSome] := by cases o <;> rfl
/-- What it asks for, that one. -/
def mkW (p : Pg) (k : Nat) (st : Int) (r : Rf) : Wi := ⟨k, r, plO (findT (thingsL p) r.1), if stO (findT (thingsL p) r.1) = st then 0 else 1⟩
/-- All that a flow asks for. -/
def wishL (p : Pg) (k : Nat) : List Wi := ((p.flows[k]?).map fun f => (gat 32 f.body 0 []).map (mkW p k f.st)).getD []
theorem wishL_at {p : Pg} {k : Nat} (h : k < p.flows.length) : wishL p k = (gat 32 p.flows[k].body 0 []).map (mkW p k p.flows[k].st) := by
  unfold wishL; rw [List.getElem?_eq_getElem h]; rfl
/-- All that the first flows ask for. -/
def allN (p : Pg) (k : Nat) : List Wi := (List.range k).flatMap (wishL p)
def allL (p : Pg) : List Wi := allN p p.flows.length
theorem allN_succ (p : Pg) (k : Nat) : allN p (k + 1) = allN p k ++ wishL p k := by
  unfold allN; rw [List.range_succ, List.flatMap_append]; simp
theorem allN_prefix (p : Pg) (k : Nat) (h : k ≤ p.flows.length) : allN p k <+: allL p := by
  unfold allL
  obtain ⟨d, hd⟩ : ∃ d, p.flows.length = k + d := ⟨p.flows.length - k, by omega⟩
  rw [hd]
  clear hd h
  induction d with
  | zero => exact List.prefix_refl _
  | succ d ih => rw [← Nat.add_assoc, allN_succ]; exact ih.trans (List.prefix_append _ _)
/-- It is shaped as one that a flow of so many may ask for. -/
structure WiOk (n : Nat) (x : Wi) : Prop where
  flow : x.flow < n
  of : x.of < n ∧ -1 ≤ x.of
  ago : x.rf.2 ≤ 32
  way : x.way ≤ 1
  name : x.rf.1.size ≤ 65536
theorem gat_ago : ∀ (k : Nat) (x : Ex) (ago : Nat) (acc : List Rf) (M : Nat), ago + k ≤ M → (∀ r ∈ acc, r.2 ≤ M) → ∀ r ∈ gat k x ago acc, r.2 ≤ M
  | 0, _, _, _, _, _, ha => fun r hr => ha r hr
  | k + 1, x, ago, acc, M, hM, ha => by
    have hn : nextAgo x ago + k ≤ M := by unfold nextAgo; split <;> omega
    have hst : ∀ r ∈ ownRefs x ago acc, r.2 ≤ M := by
      unfold ownRefs
      split
      · intro r hr
        unfold addR at hr
        split at hr
        · exact ha r hr
        · rcases List.mem_append.1 hr with hr | hr
          · exact ha r hr
          · rw [List.mem_singleton.1 hr]; show ago ≤ M; omega
      · exact ha
    have fold : ∀ (l : List Ex) (acc : List Rf), (∀ r ∈ acc, r.2 ≤ M) → ∀ r ∈ l.foldl (fun acc y => gat k y (nextAgo x ago) acc) acc, r.2 ≤ M := by
      intro l
      induction l with
      | nil => intro acc h; simpa using h
      | cons y l ih =>
        intro acc h
        rw [List.foldl_cons]
        exact ih _ (gat_ago k y _ acc M hn h)
    show ∀ r ∈ x.args.foldl (fun acc y => gat k y (nextAgo x ago) acc) (ownRefs x ago acc), r.2 ≤ M
    exact fold _ _ hst
theorem plO_bounds (p : Pg) (name : ByteArray) (h : 0 < p.flows.length) : plO (findT (thingsL p) name) < p.flows.length ∧ -1 ≤ plO (findT (thingsL p) name) := by
  cases e : findT (thingsL p) name with
  | none => show (0 : Int) < _ ∧ (-1 : Int) ≤ 0; omega
  | some x =>
    have hx := List.mem_of_find?_eq_some e
    show x.1 < _ ∧ -1 ≤ x.1
    rcases List.mem_append.1 hx with hx | hx
    · obtain ⟨y, _, rfl⟩ := List.mem_map.1 hx
      show (-1 : Int) < _ ∧ (-1 : Int) ≤ -1
      omega
    · obtain ⟨i, hi, rfl⟩ := List.mem_map.1 hx
      have := List.mem_range.1 hi
      show (i : Int) < _ ∧ (-1 : Int) ≤ i
      omega
theorem wishL_ok {p : Pg} (hC : ∀ f ∈ p.flows, chk f.body = true) {k : Nat} (h : k < p.flows.length) : ∀ x ∈ wishL p k, WiOk p.flows.length x := by
  intro x hx
  rw [wishL_at h] at hx
  obtain ⟨r, hr, rfl⟩ := List.mem_map.1 hx
  refine ⟨h, plO_bounds p _ (by omega), gat_ago 32 _ 0 [] 32 (by omega) (by simp) r hr, ?_, gat_small 32 _ 0 [] (chk_nm (hC _ (List.getElem_mem h))).1 (by simp) r hr⟩
  show (if _ then 0 else 1) ≤ 1
  split <;> omega
theorem allL_ok {p : Pg} (hC : ∀ f ∈ p.flows, chk f.body = true) : ∀ x ∈ allL p, WiOk p.flows.length x := by
  intro x hx
  obtain ⟨k, hk, hx⟩ := List.mem_flatMap.1 hx
  exact wishL_ok hC (List.mem_range.1 hk) x hx
theorem wishL_len {p : Pg} (hC : ∀ f ∈ p.flows, chk f.body = true) {k : Nat} (h : k < p.flows.length) : (wishL p k).length ≤ 200 := by
  rw [wishL_at h, List.length_map]
  have h1 := gat_len 32 p.flows[k].body 0 []
  have h2 := (chk_nm (hC _ (List.getElem_mem h))).2
  simp at h1
  omega
theorem allN_len {p : Pg} (hC : ∀ f ∈ p.flows, chk f.body = true) : ∀ k, k ≤ p.flows.length → (allN p k).length ≤ 200 * k
  | 0, _ => by simp [allN]
  | k + 1, h => by
    rw [allN_succ, List.length_append]
    have := allN_len hC k (by omega)
    have := wishL_len hC (show k < p.flows.length by omega)
    omega
/-- How late it is. -/
def lateAt (l : List Int) (i : Int) : Int := (l[i.toNat]?).getD 0
/-- How old what is asked for is, by that list. -/
def ageV (l : List Int) (x : Wi) : Int := lateAt l x.flow + x.rf.2 - x.way - (if 0 ≤ x.of then lateAt l x.of else 0)
/-- A row of numbers in memory. -/
def IAt (w : World) (l : List Int) (v : Value) : Prop := ∃ (ao : Option Addr) (cap : Nat), v = .slice ao l.length cap ∧ (l.length ≤ cap ∧ l.length ≤ 17592186044416) ∧ (l.length = 0 ∨ ∃ b o, ao = some ⟨b, o, none⟩ ∧ ∀ i (h : i < l.length), w.cell? ⟨b, o + i, none⟩ = some (.int .i64 l[i]))
theorem IAt.keep {w w' : World} {l : List Int} {v : Value} (h : IAt w l v) (hb : Below w.heap.size w w') : IAt w' l v := by
  obtain ⟨ao, cap, rfl, hc, h⟩ := h
  refine ⟨ao, cap, rfl, hc, ?_⟩
  rcases h with h | ⟨b, o, e, h⟩
  · exact .inl h
  · exact .inr ⟨b, o, e, fun i hi => cell_kept (h i hi) hb⟩
end Go.Proofs.YtdenddknbmiboaaDoor.Lex
