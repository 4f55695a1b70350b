/-
  Programs and what is worked out, as the law builds them: rows, names, two, pre.
  A drawn region, operation by operation, where operations without a slot store into one block: what each slot holds when its operation has come up is said once, and each operation is met once, whatever the order.
  The chapter's program, as the law builds it: the contract of Known.
  How old what is asked for is: the contract of late.Age.
  What the chapter's calls answer: closed facts.
  lives: the chapter's calls answer what the chapter says.
  The list that least tells: it is one that may be, none is less, and each is as late as it must be: plain mathematics.
  What is checked is found: in a program whose names mean one thing each.
  How late flows of a program are: what the law asks of it, as plain mathematics.
  Rows of numbers that the law itself makes and turns.
-/
import Derived.Test.YtmlapodhpinhmaaDoorG7
import Derived.Test.YtmlapodhpinhmaaDoorG6
import Derived.Laws.ResultCell
import Derived.BigRegionIn
namespace Go.Proofs.YtmlapodhpinhmaaDoor.Lex
open Go.ChangeShapes Go.WideShapes Go.ChangeAt Go.RowKit Go.Joins
abbrev N0 : Value := .slice none 0 0
theorem st_leaf (W : World) (x : Ex) (ha : x.args = []) (ho : x.op < 256) (hn : -9223372036854775808 ≤ x.n ∧ x.n ≤ 9223372036854775807) (hs : x.name.size ≤ 140737488355328) : St W x N0 := by
  obtain ⟨op, n, nm, args⟩ := x
  subst ha
  exact St.intro ⟨op, n, nm, []⟩ none 0 (fun _ => N0) ho hn hs (by simp) (by simp) (.inl rfl) (fun i hi => absurd hi (Nat.not_lt_zero i))
theorem st1 (W : World) (op : Nat) (x : Ex) (s : Value) (ho : op < 256) (hx : St W x s) : St (W.alloc (.cells #[.int .u8 (x.op : Int), .int .i64 x.n, .string x.name, s] 53)) ⟨op, 0, ⟨#[]⟩, [x]⟩ (.slice (some ⟨W.heap.size, 0, none⟩) 1 1) := by
  have hb := (Below.refl W.heap.size W).alloc (Nat.le_refl _) (.cells #[.int .u8 (x.op : Int), .int .i64 x.n, .string x.name, s] 53)
  have hr := heap_alloc_new W (.cells #[.int .u8 (x.op : Int), .int .i64 x.n, .string x.name, s] 53)
  refine St.intro ⟨op, 0, ⟨#[]⟩, [x]⟩ _ 1 (fun _ => s) ho ⟨by show (-9223372036854775808 : Int) ≤ 0; omega, by show (0 : Int) ≤ _; omega⟩ (by show (0 : Nat) ≤ _; omega) (by simp) (by simp) (.inr ⟨W.heap.size, 0, rfl, fun i hi => ?_⟩) (fun i hi => ?_)
  · have hi1 : i < 1 := hi
    obtain rfl : i = 0 := by omega
    refine ⟨?_, ?_, ?_, ?_⟩ <;> (rw [cell_of_row _ _ _ _ 53 (0, 0) hr]; rfl)
  · have hi1 : i < 1 := hi
    obtain rfl : i = 0 := by omega
    exact hx.keep hb
theorem st2 (W : World) (op : Nat) (x y : Ex) (s t : Value) (ho : op < 256) (hx : St W x s) (hy : St W y t) : St (W.alloc (.cells #[.int .u8 (x.op : Int), .int .i64 x.n, .string x.name, s, .int .u8 (y.op : Int), .int .i64 y.n, .string y.name, t] 53)) ⟨op, 0, ⟨#[]⟩, [x, y]⟩ (.slice (some ⟨W.heap.size, 0, none⟩) 2 2) := by
  have hb := (Below.refl W.heap.size W).alloc (Nat.le_refl _) (.cells #[.int .u8 (x.op : Int), .int .i64 x.n, .string x.name, s, .int .u8 (y.op : Int), .int .i64 y.n, .string y.name, t] 53)
  have hr := heap_alloc_new W (.cells #[.int .u8 (x.op : Int), .int .i64 x.n, .string x.name, s, .int .u8 (y.op : Int), .int .i64 y.n, .string y.name, t] 53)
  refine St.intro ⟨op, 0, ⟨#[]⟩, [x, y]⟩ _ 2 (fun i => if i = 0 then s else t) ho ⟨by show (-9223372036854775808 : Int) ≤ 0; omega, by show (0 : Int) ≤ _; omega⟩ (by show (0 : Nat) ≤ _; omega) (by simp) (by simp) (.inr ⟨W.heap.size, 0, rfl, fun i hi => ?_⟩) (fun i hi => ?_)
  · have hi1 : i < 2 := hi
    rcases (by omega : i = 0 ∨ i = 1) with rfl | rfl <;> refine ⟨?_, ?_, ?_, ?_⟩ <;> (rw [cell_of_row _ _ _ _ 53 (0, 0) hr]; rfl)
  · have hi1 : i < 2 := hi
    rcases (by omega : i = 0 ∨ i = 1) with rfl | rfl
    · exact hx.keep hb
    · exact hy.keep hb
/-- A row of flows that stands in a block. -/
theorem flows_row {W : World} {b : Nat} (l : List (Fl × Value)) (h : W.heap[b]? = some (.cells (l.map fun q => flL q.1 q.2).flatten.toArray 55 (0, 0))) (hok : ∀ q ∈ l, q.1.ok) (hS : ∀ q ∈ l, St W q.1.body q.2) (hl : l.length ≤ 1000000) :
    FlowsAt W (l.map (·.1)) (.slice (some ⟨b, 0, none⟩) l.length l.length) := by
  refine ⟨_, l.length, fun i => ((l[i]?).map (·.2)).getD N0, by rw [List.length_map], by rw [List.length_map]; omega, by rw [List.length_map]; omega, ?_, .inr ⟨b, 0, rfl, fun i hi => ?_⟩, fun i hi => ?_⟩
  · intro x hx
    obtain ⟨q, hq, rfl⟩ := List.mem_map.1 hx
    exact hok q hq
  · have hi' : i < l.length := by simpa using hi
    have q : ∀ j, j < 8 → W.cell? ⟨b, 0 + i * 8 + j, none⟩ = (flL l[i].1 l[i].2)[j]? := fun j hj => by
      rw [cell_of_row _ _ _ _ 55 (0, 0) h]
      have := flat_at (c := 8) (es := l.map fun q => flL q.1 q.2) (i := i) (e := flL l[i].1 l[i].2) (j := j) (rest := []) (fun e he => by obtain ⟨q, _, rfl⟩ := List.mem_map.1 he; rfl) (by simp [hi']) hj
      rw [List.append_nil] at this
      rw [Nat.zero_add, List.getElem?_toArray]
      exact this
    have e : ((l[i]?).map (·.2)).getD N0 = l[i].2 := by simp [hi']
    have e2 : (l.map (·.1))[i] = l[i].1 := by simp
    rw [e2]
    simp only [e]
    exact ⟨q 0 (by omega), q 1 (by omega), q 2 (by omega), q 3 (by omega), q 4 (by omega), q 5 (by omega), q 6 (by omega), q 7 (by omega)⟩
  · have hi' : i < l.length := by simpa using hi
    have e : ((l[i]?).map (·.2)).getD N0 = l[i].2 := by simp [hi']
    have e2 : (l.map (·.1))[i] = l[i].1 := by simp
    rw [e2]
    simp only [e]
    exact hS _ (List.getElem_mem hi')
/-- One thing from without, in a block. -/
theorem ins_one {W : World} {b : Nat} (x : Hd) (h : W.heap[b]? = some (.cells #[.string x.name, .int .u8 (x.ty : Int), .int .i64 x.st] 59 (0, 0))) (hok : x.ok) : InsAt W [x] (.slice (some ⟨b, 0, none⟩) 1 1) := by
  refine ⟨some ⟨b, 0, none⟩, 1, rfl, by simp, by simp, ?_, .inr ⟨b, 0, rfl, fun i hi => ?_⟩⟩
  · intro z hz
    obtain rfl := List.mem_singleton.1 hz
    exact hok
  · have hi2 : i < 1 := hi
    obtain rfl : i = 0 := by omega
    refine ⟨?_, ?_, ?_⟩ <;> (rw [cell_of_row _ _ _ _ 59 (0, 0) h]; rfl)
theorem ins_none (W : World) : InsAt W [] N0 := ⟨none, 0, rfl, by simp, by simp, fun x hx => (by cases hx), .inl rfl⟩
theorem texts_none (W : World) : TextsAt W [] N0 := ⟨none, 0, rfl, by simp, by simp, fun x hx => (by cases hx), .inl rfl⟩
theorem flows_none (W : World) : FlowsAt W [] N0 := ⟨none, 0, fun _ => N0, rfl, by simp, by simp, fun x hx => (by cases hx), .inl rfl, fun i hi => absurd hi (Nat.not_lt_zero i)⟩
theorem texts_one {W : World} {b : Nat} (x : ByteArray) (h : W.heap[b]? = some (.cells #[.string x] 9 (0, 0))) (hok : x.size ≤ 140737488355328) : TextsAt W [x] (.slice (some ⟨b, 0, none⟩) 1 1) := by
  refine ⟨some ⟨b, 0, none⟩, 1, rfl, by simp, by simp, ?_, .inr ⟨b, 0, rfl, fun i hi => ?_⟩⟩
  · intro z hz
    obtain rfl := List.mem_singleton.1 hz
    exact hok
  · have hi2 : i < 1 := hi
    obtain rfl : i = 0 := by omega
    rw [cell_of_row _ _ _ _ 9 (0, 0) h]; rfl
abbrev c53 : Array Value := #[.int .u8 0, .int .i64 0, .string ⟨#[]⟩, .slice none 0 0]
theorem info53 : (Tryd.prog.info? 53).map (·.size) = some 4 := by kernel_rfl
theorem name_at (s : ByteArray) (w : World) : Calls Tryd.prog 20 #[.string s] w fun e w' => e = .returned (exV ⟨3, 0, s, []⟩ (.slice none 0 0)) ∧ Below w.heap.size w w' := by
  have B0 := hid ((Below.refl w.heap.size w).alloc (Nat.le_refl _) (.cells c53 53))
  have X0 := heap_alloc_new w (.cells c53 53)
  go_enter Tryd.func20, Tryd.ntmps20
  go_wp2_with (refine wpList_store_row rfl 53 _ _ rfl w.heap.size #[.int .u8 3, .int .i64 0, .string s, .slice none 0 0] rfl rfl 53 _ X0 info53 rfl (by simp [Value.oneCell']) ?_)
  exact bodyPost_ret (results_cell_row rfl _ _ w.heap.size 53 #[.int .u8 3, .int .i64 0, .string s, .slice none 0 0] (0, 0) _ rfl (setRow_heap _ _ _ _ _ _ X0) Tryd.underlying53 rfl info53) rfl ⟨rfl, below_row B0.out B0.out.size (Nat.le_refl _) _⟩
/-- It holds, whatever becomes of some blocks. -/
def AtOn (B : Bl) (F : World → Prop) (W : World) : Prop := ∀ W', Buts B W W' → F W'
theorem AtOn.now {B : Bl} {F : World → Prop} {W : World} (h : AtOn B F W) : F W := h W (Buts.refl _ _)
theorem AtOn.step {B : Bl} {F : World → Prop} {W V : World} (h : AtOn B F W) (hb : Buts B W V) : AtOn B F V := fun W' hw => h W' (hb.trans hw)
theorem AtOn.grow {B C : Bl} {F : World → Prop} {W V : World} (h : AtOn B F W) (hb : Below W.heap.size W V) (hC : ∀ k, k < W.heap.size → C k → B k) : AtOn C F V := fun W' hw =>
  h W' ⟨hw.os.trans hb.os, hw.tape.trans hb.tape, hw.output.trans hb.output, Nat.le_trans hb.size hw.size, fun k hk hn => (hw.same k (Nat.lt_of_lt_of_le hk hb.size) (fun hc => hn (hC k hk hc))).trans (hb.block k hk)⟩
theorem AtOn.mono {B : Bl} {F G : World → Prop} {W : World} (h : AtOn B F W) (hf : ∀ V, F V → G V) : AtOn B G W := fun W' hw => hf _ (h W' hw)
theorem AtOn.all {B : Bl} {F : World → Prop} {W : World} (h : ∀ V, F V) : AtOn B F W := fun _ _ => h _
/-- What all that lay keeps, blocks that are new do not touch. -/
theorem AtOn.old {B : Bl} {F : World → Prop} {W : World} (hk : ∀ V, Below W.heap.size W V → F V) (hB : ∀ k, B k → W.heap.size ≤ k) : AtOn B F W := fun W' hw =>
  hk _ ⟨hw.os, hw.tape, hw.output, hw.size, fun k hlt => hw.same k hlt (fun hb => by have := hB k hb; omega)⟩
theorem AtOn.row {B : Bl} {W : World} {b : Nat} {o : Obj} (h : W.heap[b]? = some o) (hb : ¬ B b) : AtOn B (fun V => V.heap[b]? = some o) W := fun _ hw => hw.row h hb
abbrev StOn (B : Bl) (W : World) (x : Ex) (s : Value) : Prop := AtOn B (fun V => St V x s) W
theorem st_row1 {W : World} {g : Nat} (op : Nat) (x : Ex) (s : Value) (ho : op < 256) (hr : W.heap[g]? = some (.cells #[.int .u8 (x.op : Int), .int .i64 x.n, .string x.name, s] 53 (0, 0))) (hx : St W x s) : St W ⟨op, 0, ⟨#[]⟩, [x]⟩ (.slice (some ⟨g, 0, none⟩) 1 1) := by
  refine St.intro ⟨op, 0, ⟨#[]⟩, [x]⟩ _ 1 (fun _ => s) ho ⟨by show (-9223372036854775808 : Int) ≤ 0; omega, by show (0 : Int) ≤ _; omega⟩ (by show (0 : Nat) ≤ _; omega) (by simp) (by simp) (.inr ⟨g, 0, rfl, fun i hi => ?_⟩) (fun i hi => ?_)
  · have hi1 : i < 1 := hi
    obtain rfl : i = 0 := by omega
    refine ⟨?_, ?_, ?_, ?_⟩ <;> (rw [cell_of_row _ _ _ _ 53 (0, 0) hr]; rfl)
  · have hi1 : i < 1 := hi
    obtain rfl : i = 0 := by omega
    exact hx
theorem st_row2 {W : World} {g : Nat} (op : Nat) (x y : Ex) (s t : Value) (ho : op < 256) (hr : W.heap[g]? = some (.cells #[.int .u8 (x.op : Int), .int .i64 x.n, .string x.name, s, .int .u8 (y.op : Int), .int .i64 y.n, .string y.name, t] 53 (0, 0))) (hx : St W x s) (hy : St W y t) : St W ⟨op, 0, ⟨#[]⟩, [x, y]⟩ (.slice (some ⟨g, 0, none⟩) 2 2) := by
  refine St.intro ⟨op, 0, ⟨#[]⟩, [x, y]⟩ _ 2 (fun i => if i = 0 then s else t) ho ⟨by show (-9223372036854775808 : Int) ≤ 0; omega, by show (0 : Int) ≤ _; omega⟩ (by show (0 : Nat) ≤ _; omega) (by simp) (by simp) (.inr ⟨g, 0, rfl, fun i hi => ?_⟩) (fun i hi => ?_)
  · have hi1 : i < 2 := hi
    rcases (by omega : i = 0 ∨ i = 1) with rfl | rfl <;> refine ⟨?_, ?_, ?_, ?_⟩ <;> (rw [cell_of_row _ _ _ _ 53 (0, 0) hr]; rfl)
  · have hi1 : i < 2 := hi
    rcases (by omega : i = 0 ∨ i = 1) with rfl | rfl
    · exact hx
    · exact hy
abbrev twE (o : Nat) (x y : Ex) : Ex := ⟨o, 0, ⟨#[]⟩, [x, y]⟩
set_option maxRecDepth 100000 in
set_option maxHeartbeats 1000000 in
theorem two_at (B : Bl) (o : Nat) (ho : o < 256) (x y : Ex) (s t : Value) (w : World) (hx : StOn B w x s) (hy : StOn B w y t) (hB : ∀ k, B k → k < w.heap.size) : Calls Tryd.prog 48 #[.int .u8 (o : Int), exV x s, exV y t] w fun e w' => ∃ u, e = .returned (exV (twE o x y) u) ∧ StOn B w' (twE o x y) u ∧ Below w.heap.size w w' := by
  obtain ⟨ao, cp, _, rfl, _⟩ := hx.now.out
  obtain ⟨bo, dp, _, rfl, _⟩ := hy.now.out
  have HX := hid hx
  have HY := hid hy
  clear hx hy
  obtain ⟨w3, hw3⟩ : ∃ w3, w3 = ((w.alloc (.cells #[.int .u8 (x.op : Int), .int .i64 x.n, .string x.name, .slice ao x.args.length cp] 53)).alloc (.cells #[.int .u8 (y.op : Int), .int .i64 y.n, .string y.name, .slice bo y.args.length dp] 53)).alloc (.cells c53 53) := ⟨_, rfl⟩
  have r0 : w3.heap[w.heap.size]? = some (.cells #[.int .u8 (x.op : Int), .int .i64 x.n, .string x.name, .slice ao x.args.length cp] 53 (0, 0)) := by rw [hw3, Below.heap_alloc _ _ _ (by simp; omega), Below.heap_alloc _ _ _ (by simp)]; exact heap_alloc_new w _
  have r1 : w3.heap[w.heap.size + 1]? = some (.cells #[.int .u8 (y.op : Int), .int .i64 y.n, .string y.name, .slice bo y.args.length dp] 53 (0, 0)) := by
    rw [hw3, Below.heap_alloc _ _ _ (by simp)]
    have := heap_alloc_new (w.alloc (.cells #[.int .u8 (x.op : Int), .int .i64 x.n, .string x.name, .slice ao x.args.length cp] 53)) (.cells #[.int .u8 (y.op : Int), .int .i64 y.n, .string y.name, .slice bo y.args.length dp] 53)
    rwa [World.size_alloc] at this
  have x0 : w3.cell? ⟨w.heap.size, 0, none⟩ = some (.int .u8 (x.op : Int)) := by rw [cell_of_row _ _ _ _ 53 (0, 0) r0]; rfl
  have x1 : w3.cell? ⟨w.heap.size, 1, none⟩ = some (.int .i64 x.n) := by rw [cell_of_row _ _ _ _ 53 (0, 0) r0]; rfl
  have x2 : w3.cell? ⟨w.heap.size, 2, none⟩ = some (.string x.name) := by rw [cell_of_row _ _ _ _ 53 (0, 0) r0]; rfl
  have x3 : w3.cell? ⟨w.heap.size, 3, none⟩ = some (.slice ao x.args.length cp) := by rw [cell_of_row _ _ _ _ 53 (0, 0) r0]; rfl
  have y0 : w3.cell? ⟨w.heap.size + 1, 0, none⟩ = some (.int .u8 (y.op : Int)) := by rw [cell_of_row _ _ _ _ 53 (0, 0) r1]; rfl
  have y1 : w3.cell? ⟨w.heap.size + 1, 1, none⟩ = some (.int .i64 y.n) := by rw [cell_of_row _ _ _ _ 53 (0, 0) r1]; rfl
  have y2 : w3.cell? ⟨w.heap.size + 1, 2, none⟩ = some (.string y.name) := by rw [cell_of_row _ _ _ _ 53 (0, 0) r1]; rfl
  have y3 : w3.cell? ⟨w.heap.size + 1, 3, none⟩ = some (.slice bo y.args.length dp) := by rw [cell_of_row _ _ _ _ 53 (0, 0) r1]; rfl
  rw [hw3] at x0 x1 x2 x3 y0 y1 y2 y3
  clear r0 r1 hw3
  have HBK := hid hB
  clear hB
  go_enter Tryd.func48, Tryd.ntmps48
  go_wp2
  obtain ⟨V, hV⟩ : ∃ V, V = ((w.alloc (.cells #[.int .u8 (x.op : Int), .int .i64 x.n, .string x.name, .slice ao x.args.length cp] 53)).alloc (.cells #[.int .u8 (y.op : Int), .int .i64 y.n, .string y.name, .slice bo y.args.length dp] 53)).alloc (.cells #[.int .u8 (o : Int), .int .i64 0, .string ⟨#[]⟩, .slice (some ⟨w.heap.size + 1 + 1 + 1, 0, none⟩) 2 2] 53) := ⟨_, rfl⟩
  have bb : Below w.heap.size w V := by rw [hV]; exact (((Below.refl w.heap.size w).alloc (Nat.le_refl _) _).alloc (by simp) _).alloc (by simp; omega) _
  have hsz : V.heap.size = w.heap.size + 1 + 1 + 1 := by rw [hV]; simp
  have hrw := heap_alloc_new V (.cells #[.int .u8 (x.op : Int), .int .i64 x.n, .string x.name, .slice ao x.args.length cp, .int .u8 (y.op : Int), .int .i64 y.n, .string y.name, .slice bo y.args.length dp] 53)
  have bb2 := bb.alloc bb.size (.cells #[.int .u8 (x.op : Int), .int .i64 x.n, .string x.name, .slice ao x.args.length cp, .int .u8 (y.op : Int), .int .i64 y.n, .string y.name, .slice bo y.args.length dp] 53)
  rw [← hV]
  refine bodyPost_ret (v := exV (twE o x y) (.slice (some ⟨w.heap.size + 1 + 1 + 1, 0, none⟩) 2 2)) ?_ rfl ⟨_, rfl, ?_, bb2⟩
  · rw [hV]; simp [results, Tryd.f48, go_sem]
  · rw [hsz] at hrw
    intro W' hw'
    exact st_row2 o x y _ _ ho (hw'.row hrw (fun hb => by have := HBK.out _ hb; omega)) ((HX.out.grow bb2 (fun _ _ h => h)) W' hw') ((HY.out.grow bb2 (fun _ _ h => h)) W' hw')
abbrev exZ : Ex := ⟨1, 0, ⟨#[]⟩, []⟩
abbrev preE (x : Ex) : Ex := ⟨19, 0, ⟨#[]⟩, [x]⟩
theorem stZ (B : Bl) (W : World) : StOn B W exZ N0 := AtOn.all (fun V => st_leaf V exZ rfl (by decide) (by decide) (by show (0 : Nat) ≤ _; omega))
theorem stN (B : Bl) (W : World) (s : ByteArray) (hs : s.size ≤ 140737488355328) : StOn B W ⟨3, 0, s, []⟩ N0 := AtOn.all (fun V => st_leaf V ⟨3, 0, s, []⟩ rfl (by show (3 : Nat) < _; omega) ⟨by show (-9223372036854775808 : Int) ≤ 0; omega, by show (0 : Int) ≤ _; omega⟩ hs)
set_option maxRecDepth 100000 in
set_option maxHeartbeats 1000000 in
/-- An instant ago, at the beginning 0. -/
theorem pre_at (B : Bl) (x : Ex) (s : Value) (w : World) (hx : StOn B w x s) (hB : ∀ k, B k → k < w.heap.size) : Calls Tryd.prog 21 #[exV x s] w fun e w' => ∃ u, e = .returned (exV (twE 18 exZ (preE x)) u) ∧ StOn B w' (twE 18 exZ (preE x)) u ∧ Below w.heap.size w w' := by
  obtain ⟨ao, cp, _, rfl, _⟩ := hx.now.out
  obtain ⟨V2, hV2⟩ : ∃ V2, V2 = (w.alloc (.cells #[.int .u8 (x.op : Int), .int .i64 x.n, .string x.name, .slice ao x.args.length cp] 53)).alloc (.cells c53 53) := ⟨_, rfl⟩
  have bb : Below w.heap.size w V2 := by rw [hV2]; exact ((Below.refl w.heap.size w).alloc (Nat.le_refl _) _).alloc (by simp) _
  have hsz : V2.heap.size = w.heap.size + 1 + 1 := by rw [hV2]; simp
  have hr1 : V2.heap[w.heap.size + 1]? = some (.cells c53 53 (0, 0)) := by rw [hV2]; exact push_new _ _ _ (by simp)
  have b3 := bb.alloc bb.size (.cells #[.int .u8 (x.op : Int), .int .i64 x.n, .string x.name, .slice ao x.args.length cp] 53)
  have hb3 := (Below.refl V2.heap.size V2).alloc (Nat.le_refl _) (.cells #[.int .u8 (x.op : Int), .int .i64 x.n, .string x.name, .slice ao x.args.length cp] 53)
  have hrw := heap_alloc_new V2 (.cells #[.int .u8 (x.op : Int), .int .i64 x.n, .string x.name, .slice ao x.args.length cp] 53)
  rw [hsz] at hrw
  have hs1 : StOn (fun k => B k ∨ k = w.heap.size + 1) (V2.alloc (.cells #[.int .u8 (x.op : Int), .int .i64 x.n, .string x.name, .slice ao x.args.length cp] 53)) (preE x) (.slice (some ⟨w.heap.size + 1 + 1, 0, none⟩) 1 1) := fun W' hw' =>
    st_row1 19 x _ (by omega) (hw'.row hrw (fun hk => by rcases hk with hk | hk; have := hB _ hk; omega; omega)) ((hx.grow b3 (fun k hk hc => hc.resolve_right (by omega))) W' hw')
  have c48 := two_at (fun k => B k ∨ k = w.heap.size + 1) 18 (by omega) exZ (preE x) N0 _ _ (stZ _ _) hs1 (fun k hk => by rcases hk with hk | hk; have := hB _ hk; simp; omega; simp; omega)
  have r9 : (V2.alloc (.cells #[.int .u8 (x.op : Int), .int .i64 x.n, .string x.name, .slice ao x.args.length cp] 53)).heap[w.heap.size + 1]? = some (.cells c53 53 (0, 0)) := push_old hr1
  have x0 := box_at w #[.int .u8 (x.op : Int), .int .i64 x.n, .string x.name, .slice ao x.args.length cp] 53 0 _ rfl
  have x1 := box_at w #[.int .u8 (x.op : Int), .int .i64 x.n, .string x.name, .slice ao x.args.length cp] 53 1 _ rfl
  have x2 := box_at w #[.int .u8 (x.op : Int), .int .i64 x.n, .string x.name, .slice ao x.args.length cp] 53 2 _ rfl
  have x3 := box_at w #[.int .u8 (x.op : Int), .int .i64 x.n, .string x.name, .slice ao x.args.length cp] 53 3 _ rfl
  have bk := fun {p : Addr} {v : Value} (h : (w.alloc (.cells #[.int .u8 (x.op : Int), .int .i64 x.n, .string x.name, .slice ao x.args.length cp] 53)).cell? p = some v) => cell_kept h ((Below.refl _ (w.alloc (.cells #[.int .u8 (x.op : Int), .int .i64 x.n, .string x.name, .slice ao x.args.length cp] 53))).alloc (Nat.le_refl _) (.cells c53 53))
  have y0 := bk x0
  have y1 := bk x1
  have y2 := bk x2
  have y3 := bk x3
  have HB := hid b3
  have HR9 := hid r9
  have HBK := hid hB
  rw [hV2] at c48
  clear hx bb hs1 hsz bk r9 b3 hb3 hrw hr1 hB
  go_enter Tryd.func21, Tryd.ntmps21
  go_wp2_with (first
    | (go_at_call 48; refine c48.mono ?_; rintro e w2 ⟨u, rfl, hu, hb⟩; rw [← hV2] at hb; obtain ⟨uo, uc, _, rfl, _⟩ := hu.now.out; have HU := hid hu; have HB2 := hid hb; have hr2 := (hb.block _ (Array.getElem?_eq_some_iff.1 HR9.out).1).trans HR9.out; have HR2 := hid hr2; clear hu hb hr2 c48)
    | (refine wpList_store_row rfl 53 _ _ rfl (w.heap.size + 1) #[.int .u8 18, .int .i64 0, .string ⟨#[]⟩, .slice uo 2 uc] rfl rfl 53 _ HR2.out info53 rfl (by simp [Value.oneCell']) ?_))
  have bf := below_row (b := w.heap.size + 1) (HB.out.trans (HB2.out.mono HB.out.size)) (Nat.le_trans HB.out.size HB2.out.size) (by omega) #[.int .u8 18, .int .i64 0, .string ⟨#[]⟩, .slice uo 2 uc]
  refine bodyPost_ret (results_cell_row rfl _ _ (w.heap.size + 1) 53 #[.int .u8 18, .int .i64 0, .string ⟨#[]⟩, .slice uo 2 uc] (0, 0) _ rfl (setRow_heap _ _ _ _ _ _ HR2.out) Tryd.underlying53 rfl info53) rfl ⟨_, rfl, ?_, bf⟩
  intro W' hw'
  refine HU.out W' (Buts.trans (B := w2.setRow (w.heap.size + 1) #[.int .u8 18, .int .i64 0, .string ⟨#[]⟩, .slice uo 2 uc]) ⟨rfl, rfl, rfl, by simp [World.setRow], fun k _ hn => setRow_other _ _ _ _ (fun e => hn (.inr e))⟩ (hw'.mono (fun k _ hk => .inl hk)))
end Go.Proofs.YtmlapodhpinhmaaDoor.Lex
namespace Go.Proofs.YtmlapodhpinhmaaDoor.Rbs
open Go.ChangeShapes Go.WideShapes Go.ChangeAt Go.RowKit Go.Joins
def slotOf (ops : Array Oper) (j : Nat) : Option Nat := (ops[j]?).bind (·.dst)
def dstIn (ops : Array Oper) (t : Nat) : Bool := (List.range ops.size).any fun j => slotOf ops j == some t
/-- The slots that an operation waits for. -/
def slots (ops : Array Oper) (o : Oper) : List Nat := (o.after.toList.filter (Region.binds .any)).filterMap fun e => slotOf ops e.on
def acyc (ops : Array Oper) : Bool := (List.range ops.size).all fun i => match ops[i]? with | some o => o.after.toList.all (fun e => !Region.binds .any e || decide (e.on < i)) | none => true
def lone (ops : Array Oper) : Bool := (List.range ops.size).all fun i => (List.range ops.size).all fun j => decide (i = j) || (slotOf ops i).isNone || !(slotOf ops i == slotOf ops j)
def inside (ops : Array Oper) (n : Nat) : Bool := (List.range ops.size).all fun i => match slotOf ops i with | some d => decide (d < n) | none => true
/-- One operation, met once. -/
def Step (P : Program) (Q : Exit → Act → World → Prop) (J G : World → Prop) (R : World → World → Prop) (E : Nat → Value → World → Prop) (ops : Array Oper) (a0 : Act) (o : Oper) : Prop :=
  ∀ (a : Act) (w : World) (yl : Nat → Option Bool) (K : Act → World → Prop),
    (∀ t, dstIn ops t = false → a.tmps[t]? = a0.tmps[t]?) →
    (∀ d, (slots ops o).contains d = true → ∃ v, a.tmps[d]? = some v ∧ E d v w) →
    (∀ j d, slotOf ops j = some d → ∀ b, a.tmps[d]? = some (.bool b) → yl j = some b) →
    J w → Hid (∀ v w', (∀ d, o.dst = some d → E d v w') → J w' → (Below w.heap.size w w' ∧ o.dst.isSome = true ∨ R w w' ∧ o.dst = none ∧ G w') → K (a.put o.dst v) w') →
    if Region.wanted o yl = true then Oper.wp P o a w K Q else K (a.put o.dst undef) w
def AllL (p : Oper → Prop) : List Oper → Prop
  | [] => True
  | o :: l => p o ∧ AllL p l
theorem AllL.nil {p : Oper → Prop} : AllL p [] := trivial
theorem AllL.cons {p : Oper → Prop} {o : Oper} {l : List Oper} (h : p o) (h' : AllL p l) : AllL p (o :: l) := ⟨h, h'⟩
theorem AllL.mem {p : Oper → Prop} (l : List Oper) : AllL p l → ∀ o, o ∈ l → p o := by
  induction l with
  | nil => intro _ o hm; exact absurd hm List.not_mem_nil
  | cons x l ih =>
    intro h o hm
    rcases List.mem_cons.1 hm with e | hm
    · rw [e]; exact h.1
    · exact ih h.2 o hm
structure Inv (J G : World → Prop) (E : Nat → Value → World → Prop) (ops : Array Oper) (a0 : Act) (listed : Array Bool) (a : Act) (w : World) : Prop where
  defers : a.defers = a0.defers
  size : a.tmps.size = a0.tmps.size
  fixed : ∀ t, dstIn ops t = false → a.tmps[t]? = a0.tmps[t]?
  held : ∀ j d, slotOf ops j = some d → listed.getD j false = true → ∃ v, a.tmps[d]? = some v ∧ E d v w
  done : ∀ (j : Nat) (o : Oper), ops[j]? = some o → o.dst = none → listed.getD j false = true → G w
  J : J w
theorem dstIn_of {ops : Array Oper} {j t : Nat} (h : slotOf ops j = some t) : dstIn ops t = true := by
  unfold dstIn
  rw [List.any_eq_true]
  refine ⟨j, ?_, by rw [h]; simp⟩
  rw [List.mem_range]
  unfold slotOf at h
  by_cases hj : j < ops.size
  · exact hj
  · rw [Array.getElem?_eq_none (by omega)] at h; simp at h
theorem lt_of_slot {ops : Array Oper} {j t : Nat} (h : slotOf ops j = some t) : j < ops.size := by
  unfold slotOf at h
  by_cases hj : j < ops.size
  · exact hj
  · rw [Array.getElem?_eq_none (by omega)] at h; simp at h
theorem lone_ne {ops : Array Oper} (h : lone ops = true) {i j d : Nat} (hi : slotOf ops i = some d) (hj : slotOf ops j = some d) : i = j := by
  unfold lone at h
  rw [List.all_eq_true] at h
  have h1 := h i (List.mem_range.2 (lt_of_slot hi))
  rw [List.all_eq_true] at h1
  have h2 := h1 j (List.mem_range.2 (lt_of_slot hj))
  rw [hi, hj] at h2
  simpa using h2
/-- How many have not come up. -/
def left (listed : Array Bool) (n : Nat) : Nat := ((List.range n).filter fun i => !listed.getD i true).length
theorem left_set {listed : Array Bool} {n i : Nat} (hi : i < n) (hl : listed.getD i true = false) : left (listed.setIfInBounds i true) n + 1 ≤ left listed n := by
  unfold left
  have hsz : i < listed.size := by
    by_cases h : i < listed.size
    · exact h
    · simp [Array.getElem?_eq_none (Nat.le_of_not_lt h)] at hl
  have key : ∀ l : List Nat, l.Nodup → i ∈ l → (l.filter fun k => !(listed.setIfInBounds i true).getD k true).length + 1 ≤ (l.filter fun k => !listed.getD k true).length := by
    intro l
    induction l with
    | nil => intro _ h; cases h
    | cons x l ih =>
      intro hn hm
      have hx := (List.nodup_cons.1 hn).1
      have hl2 := (List.nodup_cons.1 hn).2
      by_cases hxi : x = i
      · subst hxi
        have e1 : (listed.setIfInBounds x true).getD x true = true := by simp [hsz]
        have e2 : (l.filter fun k => !(listed.setIfInBounds x true).getD k true) = l.filter fun k => !listed.getD k true := by
          apply List.filter_congr
          intro k hk
          rw [getD_set_ne true (fun h => hx (by rw [h]; exact hk))]
        rw [List.filter_cons, List.filter_cons, e1, hl, e2]
        simp
      · have hm2 : i ∈ l := (List.mem_cons.1 hm).resolve_left (fun h => hxi h.symm)
        have := ih hl2 hm2
        rw [List.filter_cons, List.filter_cons, getD_set_ne true (fun h => hxi h.symm)]
        split
        · simp only [List.length_cons]; omega
        · exact this
  exact key _ List.nodup_range (List.mem_range.2 hi)
theorem one_listed {ops : Array Oper} (hac : acyc ops = true) {listed : Array Bool} (hsz : listed.size = ops.size) (hr : Region.ready .any ops listed = []) (i : Nat) (h : ∀ j, j < i → j < ops.size → listed.getD j false = true) (hlt : i < ops.size) : listed.getD i false = true := by
  by_cases hl : listed.getD i false = true
  · exact hl
  · exfalso
    have hm : i ∈ Region.ready .any ops listed := by
      rw [mem_ready]
      refine ⟨?_, ops[i], Array.getElem?_eq_getElem hlt, fun e he hb => ?_⟩
      · have : i < listed.size := by omega
        simp [this] at hl ⊢
        exact hl
      · unfold acyc at hac
        rw [List.all_eq_true] at hac
        have h1 := hac i (List.mem_range.2 hlt)
        rw [Array.getElem?_eq_getElem hlt] at h1
        simp only [List.all_eq_true] at h1
        have h2 := h1 e (by simpa using he)
        rw [hb] at h2
        simp at h2
        exact h e.on h2 (by omega)
    rw [hr] at hm
    cases hm
theorem all_listed {ops : Array Oper} (hac : acyc ops = true) {listed : Array Bool} (hsz : listed.size = ops.size) (hr : Region.ready .any ops listed = []) : ∀ k i, i ≤ k → i < ops.size → listed.getD i false = true := by
  intro k
  induction k with
  | zero => exact fun i hi hlt => one_listed hac hsz hr i (fun j hj _ => absurd hj (by omega)) hlt
  | succ k ih => exact fun i hi hlt => one_listed hac hsz hr i (fun j hj h => ih j (by omega) h) hlt
theorem put_tmps (a : Act) (d : Nat) (v : Value) : (a.put (some d) v).tmps = a.tmps.setIfInBounds d v := rfl
section
variable {P : Program} {Q : Exit → Act → World → Prop} {J G : World → Prop} {R : World → World → Prop} {E : Nat → Value → World → Prop} {ops : Array Oper} {a0 : Act}
theorem Inv.put (hlo : lone ops = true) (hin : inside ops a0.tmps.size = true) (stable : ∀ d v w w', Below w.heap.size w w' ∨ R w w' → E d v w → E d v w') (stableG : ∀ w w', Below w.heap.size w w' → G w → G w') {listed : Array Bool} {a : Act} {w : World} (h : Inv J G E ops a0 listed a w) {i : Nat} {o : Oper} (ho : ops[i]? = some o) {v : Value} {w' : World}
    (hv : ∀ d, o.dst = some d → E d v w') (hJ : J w') (hb : Below w.heap.size w w' ∧ o.dst.isSome = true ∨ R w w' ∧ o.dst = none ∧ G w') : Inv J G E ops a0 (listed.setIfInBounds i true) (a.put o.dst v) w' := by
  have hs : slotOf ops i = o.dst := by unfold slotOf; rw [ho]; rfl
  have hb' : Below w.heap.size w w' ∨ R w w' := hb.imp And.left And.left
  have hdone : ∀ (j : Nat) (o' : Oper), ops[j]? = some o' → o'.dst = none → (listed.setIfInBounds i true).getD j false = true → G w' := fun j o' ho' hd' hl => by
    rcases hb with hb | hb
    · by_cases hij : i = j
      · subst hij
        rw [ho] at ho'
        obtain rfl := Option.some.inj ho'
        have := hb.2
        rw [hd'] at this
        cases this
      · rw [getD_set_ne false hij] at hl
        exact stableG _ _ hb.1 (h.done j o' ho' hd' hl)
    · exact hb.2.2
  cases hd : o.dst with
  | none =>
    refine ⟨h.defers, h.size, h.fixed, fun j d hj hl => ?_, hdone, hJ⟩
    by_cases hij : i = j
    · subst hij; rw [hs, hd] at hj; cases hj
    · rw [getD_set_ne false hij] at hl
      obtain ⟨u, h1, h2⟩ := h.held j d hj hl
      exact ⟨u, h1, stable _ _ _ _ hb' h2⟩
  | some t =>
    rw [hd] at hs hv
    have htlt : t < a.tmps.size := by
      rw [h.size]
      unfold inside at hin
      rw [List.all_eq_true] at hin
      have := hin i (List.mem_range.2 (lt_of_slot hs))
      rw [hs] at this
      simpa using this
    refine ⟨h.defers, ?_, fun u hu => ?_, fun j d hj hl => ?_, hdone, hJ⟩
    · rw [put_tmps, Array.size_setIfInBounds]; exact h.size
    · have hne : t ≠ u := fun e => by
        have := dstIn_of hs
        rw [e, hu] at this
        cases this
      rw [put_tmps, Array.getElem?_setIfInBounds_ne hne]
      exact h.fixed u hu
    · by_cases hij : i = j
      · subst hij
        obtain rfl : t = d := Option.some.inj (hs.symm.trans hj)
        exact ⟨v, by rw [put_tmps]; simp [htlt], hv t rfl⟩
      · rw [getD_set_ne false hij] at hl
        obtain ⟨u, h1, h2⟩ := h.held j d hj hl
        have hne : t ≠ d := fun e => hij (lone_ne hlo hs (e ▸ hj))
        exact ⟨u, by rw [put_tmps, Array.getElem?_setIfInBounds_ne hne]; exact h1, stable _ _ _ _ hb' h2⟩
theorem inv_any (hac : acyc ops = true) (hlo : lone ops = true) (hin : inside ops a0.tmps.size = true) (stable : ∀ d v w w', Below w.heap.size w w' ∨ R w w' → E d v w → E d v w') (stableG : ∀ w w', Below w.heap.size w w' → G w → G w')
    (step : AllL (Step P Q J G R E ops a0) ops.toList) (fin : ∀ a w, a.defers = a0.defers → a.tmps.size = a0.tmps.size → (∀ t, dstIn ops t = false → a.tmps[t]? = a0.tmps[t]?) → (∀ d, dstIn ops d = true → ∃ v, a.tmps[d]? = some v ∧ E d v w) → (∀ (j : Nat) (o : Oper), ops[j]? = some o → o.dst = none → G w) → J w → Q .normal a w) :
    ∀ (fuel : Nat) (listed : Array Bool) (a : Act) (w : World), listed.size = ops.size → left listed ops.size ≤ fuel → Inv J G E ops a0 listed a w → wpAny P .any ops Q fuel listed a w := by
  have done : ∀ (listed : Array Bool) (a : Act) (w : World), listed.size = ops.size → Inv J G E ops a0 listed a w → Region.ready .any ops listed = [] → Q .normal a w := by
    intro listed a w hsz h hr
    refine fin a w h.defers h.size h.fixed (fun d hd => ?_) (fun j o ho hd => h.done j o ho hd (all_listed hac hsz hr j j (Nat.le_refl _) (Array.getElem?_eq_some_iff.1 ho).1)) h.J
    unfold dstIn at hd
    rw [List.any_eq_true] at hd
    obtain ⟨j, hj, he⟩ := hd
    exact h.held j d (by simpa using he) (all_listed hac hsz hr j j (Nat.le_refl _) (List.mem_range.1 hj))
  intro fuel
  induction fuel with
  | zero =>
    intro listed a w hsz hl h
    have hr : Region.ready .any ops listed = [] := by
      rcases he : Region.ready .any ops listed with _ | ⟨i, r⟩
      · rfl
      · have hm : i ∈ Region.ready .any ops listed := by rw [he]; exact List.mem_cons_self
        obtain ⟨h1, o, ho, _⟩ := mem_ready.1 hm
        have := left_set (n := ops.size) (Array.getElem?_eq_some_iff.1 ho).1 h1
        omega
    exact ⟨hr, done listed a w hsz h hr⟩
  | succ fuel ih =>
    intro listed a w hsz hl h
    refine ⟨done listed a w hsz h, fun i hi => ?_⟩
    obtain ⟨h1, o, ho, hall⟩ := mem_ready.1 hi
    have hlt := (Array.getElem?_eq_some_iff.1 ho).1
    have st := AllL.mem _ step o (by have := (Array.getElem?_eq_some_iff.1 ho).2; rw [← this]; simp)
    refine wpOp_step ho fun K' hK' => st a w (yielded ops a.tmps) K' h.fixed (fun d hd => ?_) (fun j d hj b hb => ?_) h.J ?_
    · unfold slots at hd
      rw [List.contains_iff_mem, List.mem_filterMap] at hd
      obtain ⟨e, he, hs⟩ := hd
      rw [List.mem_filter] at he
      exact h.held e.on d hs (hall e (by simpa using he.1) he.2)
    · unfold slotOf at hj
      unfold yielded
      rw [hj, Option.bind_some, hb]
    · exact fun v w' hv hJ hb => hK' _ _ (ih _ _ _ (by rw [Array.size_setIfInBounds]; exact hsz) (by have := left_set (n := ops.size) hlt h1; omega) (h.put hlo hin stable stableG ho hv hJ hb))
/-- A drawn region. -/
theorem region_by {id : Nat} {w : World} (hm : P.follows .mixedOrders = true) (hac : acyc ops = true) (hlo : lone ops = true) (hin : inside ops a0.tmps.size = true) (stable : ∀ d v w w', Below w.heap.size w w' ∨ R w w' → E d v w → E d v w') (stableG : ∀ w w', Below w.heap.size w w' → G w → G w') (hJ : J w.drew)
    (step : AllL (Step P Q J G R E ops a0) ops.toList) (fin : ∀ a w, a.defers = a0.defers → a.tmps.size = a0.tmps.size → (∀ t, dstIn ops t = false → a.tmps[t]? = a0.tmps[t]?) → (∀ d, dstIn ops d = true → ∃ v, a.tmps[d]? = some v ∧ E d v w) → (∀ (j : Nat) (o : Oper), ops[j]? = some o → o.dst = none → G w) → J w → Q .normal a w) : (Code.region id ops true).wp P Q a0 w := by
  refine wp_region_any hm (inv_any hac hlo hin stable stableG step fin ops.size _ a0 _ (by simp) ?_ ⟨rfl, rfl, fun _ _ => rfl, fun j d _ hl => ?_, fun j o _ _ hl => ?_, hJ⟩)
  · unfold left
    exact Nat.le_trans (List.length_filter_le _ _) (by simp)
  · exfalso
    rw [Array.getD_eq_getD_getElem?, Array.getElem?_replicate] at hl
    split at hl <;> simp at hl
  · exfalso
    rw [Array.getD_eq_getD_getElem?, Array.getElem?_replicate] at hl
    split at hl <;> simp at hl
end
end Go.Proofs.YtmlapodhpinhmaaDoor.Rbs
namespace Go.Proofs.YtmlapodhpinhmaaDoor.Lex
open Go.ChangeShapes Go.WideShapes Go.ChangeAt Go.RowKit Go.Joins
theorem row4e {W : World} {k : Nat} {x : Ex} {D : Value} (h : W.heap[k]? = some (.cells #[.int .u8 (x.op : Int), .int .i64 x.n, .string x.name, D] 53 (0, 0))) : W.cell? ⟨k, 0, none⟩ = some (.int .u8 (x.op : Int)) ∧ W.cell? ⟨k, 1, none⟩ = some (.int .i64 x.n) ∧ W.cell? ⟨k, 2, none⟩ = some (.string x.name) ∧ W.cell? ⟨k, 3, none⟩ = some D :=
  ⟨(cell_of_row _ _ _ _ 53 (0, 0) h).trans rfl, (cell_of_row _ _ _ _ 53 (0, 0) h).trans rfl, (cell_of_row _ _ _ _ 53 (0, 0) h).trans rfl, (cell_of_row _ _ _ _ 53 (0, 0) h).trans rfl⟩
abbrev exS : Ex := ⟨3, 0, ⟨#[115]⟩, []⟩
abbrev exX : Ex := ⟨3, 0, ⟨#[120]⟩, []⟩
abbrev exT : Ex := ⟨3, 0, ⟨#[116]⟩, []⟩
abbrev hdX : Hd := ⟨⟨#[120]⟩, 1, 1⟩
abbrev flS : Fl := ⟨⟨#[115]⟩, 1, 1, 0, twE 18 exZ (twE 6 (preE exS) exX)⟩
abbrev flT : Fl := ⟨⟨#[116]⟩, 1, 2, 0, exS⟩
abbrev flU : Fl := ⟨⟨#[117]⟩, 1, 1, 0, twE 6 exT exX⟩
/-- The chapter's program. -/
def kn : Pg := ⟨2, [hdX], [flS, flT, flU], [⟨#[117]⟩]⟩
theorem hdX_ok : hdX.ok := ⟨by show (1 : Nat) ≤ _; omega, by show (1 : Nat) < _; omega, by show (-9223372036854775808 : Int) ≤ 1; omega, by show (1 : Int) ≤ _; omega⟩
theorem fl_ok (nm : ByteArray) (st : Int) (x : Ex) (h : nm.size ≤ 100) (h2 : 0 ≤ st ∧ st ≤ 100) : Fl.ok ⟨nm, 1, st, 0, x⟩ := ⟨by show nm.size ≤ _; omega, by show (1 : Nat) < _; omega, ⟨by show (-9223372036854775808 : Int) ≤ st; omega, by show st ≤ _; omega⟩, by show (-9223372036854775808 : Int) ≤ 0; omega, by show (0 : Int) ≤ _; omega⟩
theorem three_ok (a b c : Value) : ∀ q ∈ ([(flS, a), (flT, b), (flU, c)] : List (Fl × Value)), q.1.ok := by
  intro q hq
  rcases List.mem_cons.1 hq with rfl | hq
  · exact fl_ok _ _ _ (by show (1 : Nat) ≤ _; omega) (by omega)
  rcases List.mem_cons.1 hq with rfl | hq
  · exact fl_ok _ _ _ (by show (1 : Nat) ≤ _; omega) (by omega)
  rw [List.mem_singleton.1 hq]
  exact fl_ok _ _ _ (by show (1 : Nat) ≤ _; omega) (by omega)
theorem three_st {W : World} {a b c : Value} (h1 : St W flS.body a) (h2 : St W flT.body b) (h3 : St W flU.body c) : ∀ q ∈ ([(flS, a), (flT, b), (flU, c)] : List (Fl × Value)), St W q.1.body q.2 := by
  intro q hq
  rcases List.mem_cons.1 hq with rfl | hq
  · exact h1
  rcases List.mem_cons.1 hq with rfl | hq
  · exact h2
  rw [List.mem_singleton.1 hq]
  exact h3
def EE (b0 : Nat) (W : World) (x : Ex) (v : Value) : Prop := ∃ s, v = exV x s ∧ StOn (fun k => k = b0) W x s
def FF (b0 : Nat) (W : World) (x : Fl) (v : Value) : Prop := ∃ s, v = flV x s ∧ StOn (fun k => k = b0) W x.body s
/-- What a slot holds when its operation has come up. -/
def Ek (b0 : Nat) (d : Nat) (v : Value) (W : World) : Prop :=
  match d with
  | 5 => v = .agg #[.string ⟨#[120]⟩, .int .u8 1, .int .i64 1]
  | 6 => AtOn (fun k => k = b0) (fun V => InsAt V [hdX] v) W
  | 7 => EE b0 W (exZ) v
  | 8 => EE b0 W (preE exS) v
  | 9 => EE b0 W (exX) v
  | 10 => EE b0 W (twE 6 (preE exS) exX) v
  | 11 => EE b0 W (twE 18 exZ (twE 6 (preE exS) exX)) v
  | 12 => FF b0 W flS v
  | 13 => EE b0 W (exS) v
  | 14 => FF b0 W flT v
  | 15 => EE b0 W (exT) v
  | 16 => EE b0 W (exX) v
  | 17 => EE b0 W (twE 6 exT exX) v
  | 18 => FF b0 W flU v
  | 19 => AtOn (fun k => k = b0) (fun V => FlowsAt V [flS, flT, flU] v) W
  | 20 => AtOn (fun k => k = b0) (fun V => TextsAt V [⟨#[117]⟩] v) W
  | 21 => ∃ a b c, v = pgV kn a b c ∧ AtOn (fun k => k = b0) (fun V => PgAt V kn a b c) W
  | _ => True
theorem Ek.keep {b0 : Nat} (d : Nat) (v : Value) (w w' : World) (hb : Buts (fun k => k = b0) w w') (h : Ek b0 d v w) : Ek b0 d v w' := by
  revert h
  unfold Ek
  split <;> intro h <;> first | trivial | exact h | (obtain ⟨s, e, g⟩ := h; exact ⟨s, e, g.step hb⟩) | (obtain ⟨a, b, c, e, g⟩ := h; exact ⟨a, b, c, e, g.step hb⟩) | exact AtOn.step h hb
/-- What holds of every world on the way. -/
structure Jk (w : World) (kb : Nat) (sv : Value) (W : World) : Prop where
  box : ∃ cs : Array Value, W.heap[w.heap.size]? = some (.cells cs 26 (0, 0)) ∧ cs.size = 4
  var : W.heap[kb]? = some (.cells #[.int .u8 ((preE exS).op : Int), .int .i64 (preE exS).n, .string (preE exS).name, sv] 53 (0, 0))
  S : StOn (fun k => k = w.heap.size) W (preE exS) sv
  ne : kb ≠ w.heap.size
  below : Below w.heap.size w W
theorem Jk.lt {w W : World} {kb : Nat} {sv : Value} (h : Jk w kb sv W) : w.heap.size < W.heap.size := by
  obtain ⟨cs, hc, _⟩ := h.box
  exact (Array.getElem?_eq_some_iff.1 hc).1
theorem Jk.step {w W V : World} {kb : Nat} {sv : Value} (h : Jk w kb sv W) (hb : Below W.heap.size W V) : Jk w kb sv V := by
  obtain ⟨cs, hc, hs⟩ := h.box
  exact ⟨⟨cs, keep_row hc hb, hs⟩, keep_row h.var hb, h.S.step (Buts.below hb), h.ne, h.below.trans (hb.mono h.below.size)⟩
theorem Jk.alloc {w W : World} {kb : Nat} {sv : Value} (h : Jk w kb sv W) (o : Obj) : Jk w kb sv (W.alloc o) := h.step ((Below.refl _ _).alloc (Nat.le_refl _) o)
abbrev c26 : Array Value := #[.int .i64 0, .slice none 0 0, .slice none 0 0, .slice none 0 0]
theorem info26 : (Tryd.prog.info? 26).map (·.size) = some 4 := by kernel_rfl
set_option maxRecDepth 100000 in
set_option maxHeartbeats 4000000 in
theorem known_at (w : World) : Calls Tryd.prog 23 #[] w fun e w' => ∃ a b c, e = .returned (pgV kn a b c) ∧ PgAt w' kn a b c ∧ Below w.heap.size w w' := by
  have B0 := hid ((Below.refl w.heap.size w).alloc (Nat.le_refl _) (.cells c26 26))
  have X0 := hid (heap_alloc_new w (.cells c26 26))
  go_enter Tryd.func23, Tryd.ntmps23
  go_wp2_with (go_at_call 20; refine (name_at ⟨#[115]⟩ _).mono ?_; rintro e w1 ⟨rfl, hb1⟩; have HB1 := hid hb1; clear hb1)
  have hszc := HB1.out.size
  have hsz0 : (w.alloc (.cells c26 26)).heap.size = w.heap.size + 1 := by simp
  have hsv := st_leaf
  obtain ⟨W3, hW3⟩ : ∃ W3, W3 = (w1.alloc (.cells #[.int .u8 3, .int .i64 0, .string ⟨#[115]⟩, .slice none 0 0] 53)).alloc (.cells #[.int .u8 19, .int .i64 0, .string ⟨#[]⟩, .slice (some ⟨w1.heap.size, 0, none⟩) 1 1] 53) := ⟨_, rfl⟩
  rw [← hW3]
  have hb3 : Below w1.heap.size w1 W3 := by rw [hW3]; exact ((Below.refl _ w1).alloc (Nat.le_refl _) _).alloc (by simp) _
  have hr1 : W3.heap[w1.heap.size]? = some (.cells #[.int .u8 3, .int .i64 0, .string ⟨#[115]⟩, .slice none 0 0] 53 (0, 0)) := by rw [hW3, Below.heap_alloc _ _ _ (by simp)]; exact heap_alloc_new w1 _
  have hr2 : W3.heap[w1.heap.size + 1]? = some (.cells #[.int .u8 19, .int .i64 0, .string ⟨#[]⟩, .slice (some ⟨w1.heap.size, 0, none⟩) 1 1] 53 (0, 0)) := by rw [hW3]; exact push_new _ _ _ (by simp)
  rw [hsz0] at hszc
  have hJ3 : Jk w (w1.heap.size + 1) (.slice (some ⟨w1.heap.size, 0, none⟩) 1 1) W3 :=
    ⟨⟨c26, keep_row (keep_row X0.out HB1.out) hb3, rfl⟩, hr2, fun W' hw' => st_row1 19 exS N0 (by omega) (hw'.row hr1 (fun h => by omega)) (st_leaf W' exS rfl (by decide) (by decide) (by show (1 : Nat) ≤ _; omega)), by omega, (B0.out.trans (HB1.out.mono B0.out.size)).trans (hb3.mono (by omega))⟩
  have hb1s : w.heap.size < w1.heap.size := by omega
  obtain ⟨kb, hkb⟩ : ∃ kb, kb = w1.heap.size + 1 := ⟨_, rfl⟩
  rw [← hkb] at hJ3 ⊢
  clear hsv hW3 hb3 hr1 hr2 hkb hsz0
  rename_i hKK
  refine Rbs.region_by (J := Jk w kb (.slice (some ⟨w1.heap.size, 0, none⟩) 1 1)) (G := fun W => ∃ a b c, W.heap[w.heap.size]? = some (.cells (pgC kn a b c) 26 (0, 0)) ∧ AtOn (fun k => k = w.heap.size) (fun V => PgAt V kn a b c) W) (R := fun a b => Buts (fun k => k = w.heap.size) a b) (E := Ek w.heap.size) (by kernel_rfl) (by kernel_rfl) (by kernel_rfl) (by kernel_rfl) (fun d v w1 w2 hb h => Ek.keep d v w1 w2 (hb.elim (fun h => Buts.below h) id) h) (fun w1 w2 hb h => by obtain ⟨a, b, c, h1, h2⟩ := h; exact ⟨a, b, c, keep_row h1 hb, h2.step (Buts.below hb)⟩) (hJ3.step (Below.refl _ _).drew) ?step ?fin
  case step =>
    refine Rbs.AllL.cons ?_ <| Rbs.AllL.cons ?_ <| Rbs.AllL.cons ?_ <| Rbs.AllL.cons ?_ <| Rbs.AllL.cons ?_ <| Rbs.AllL.cons ?_ <| Rbs.AllL.cons ?_ <| Rbs.AllL.cons ?_ <| Rbs.AllL.cons ?_ <| Rbs.AllL.cons ?_ <| Rbs.AllL.cons ?_ <| Rbs.AllL.cons ?_ <| Rbs.AllL.cons ?_ <| Rbs.AllL.cons ?_ <| Rbs.AllL.cons ?_ <| Rbs.AllL.cons ?_ <| Rbs.AllL.cons ?_ <| Rbs.AllL.cons ?_ <| Rbs.AllL.nil
    · intro ac V yl K hf hs _ hJ hK
      have HJ := hid hJ
      clear hf hs hJ
      go_simp
      exact hK.out _ _ (fun d hd => by cases hd; exact rfl) HJ.out (.inl ⟨Below.refl _ _, rfl⟩)
    · intro ac V yl K hf hs _ hJ hK
      obtain ⟨v5, e5, h5⟩ := hs 5 (by kernel_rfl)
      have h5' : v5 = .agg #[.string ⟨#[120]⟩, .int .u8 1, .int .i64 1] := h5
      subst h5'
      clear h5
      have HJ := hid hJ
      clear hf hs hJ
      go_simp
      have hlt := HJ.out.lt
      exact hK.out _ _ (fun d hd => by cases hd; exact fun W' hw' => ins_one hdX (hw'.row (heap_alloc_new V _) (fun h => by omega)) hdX_ok) (HJ.out.alloc _) (.inl ⟨(Below.refl _ _).alloc (Nat.le_refl _) _, rfl⟩)
    · intro ac V yl K hf hs _ hJ hK
      have HJ := hid hJ
      clear hf hs hJ
      go_simp
      exact hK.out _ _ (fun d hd => by cases hd; exact ⟨_, rfl, stZ _ _⟩) HJ.out (.inl ⟨Below.refl _ _, rfl⟩)
    · intro ac V yl K hf hs _ hJ hK
      have e1 : ac.tmps[1]? = some (.pointer (some ⟨kb, 0, none⟩)) := (hf 1 (by kernel_rfl)).trans rfl
      have HJ := hid hJ
      clear hf hs hJ
      obtain ⟨q0, q1, q2, q3⟩ := row4e HJ.out.var
      go_simp
      exact hK.out _ _ (fun d hd => by cases hd; exact ⟨_, rfl, HJ.out.S⟩) HJ.out (.inl ⟨Below.refl _ _, rfl⟩)
    · intro ac V yl K hf hs _ hJ hK
      have HJ := hid hJ
      clear hf hs hJ
      go_simp
      refine (name_at ⟨#[120]⟩ V).mono ?_
      rintro e V2 ⟨rfl, hb⟩
      have HB := hid hb
      clear hb
      go_wp2_with fail
      exact hK.out _ _ (fun d hd => by cases hd; exact ⟨_, rfl, stN _ _ _ (by show (1 : Nat) ≤ _; omega)⟩) (HJ.out.step HB.out) (.inl ⟨HB.out, rfl⟩)
    · intro ac V yl K hf hs _ hJ hK
      obtain ⟨v8, e8, h8⟩ := hs 8 (by kernel_rfl)
      obtain ⟨s8, rfl, g8⟩ : EE w.heap.size V (preE exS) v8 := h8
      obtain ⟨a8, c8, _, rfl, _⟩ := g8.now.out
      have G8 := hid g8
      clear g8
      obtain ⟨v9, e9, h9⟩ := hs 9 (by kernel_rfl)
      obtain ⟨s9, rfl, g9⟩ : EE w.heap.size V (exX) v9 := h9
      obtain ⟨a9, c9, _, rfl, _⟩ := g9.now.out
      have G9 := hid g9
      clear g9
      have HJ := hid hJ
      clear hf hs hJ
      have hlt := HJ.out.lt
      have c48 := two_at (fun k => k = w.heap.size) 6 (by omega) _ _ _ _ V G8.out G9.out (fun k hk => by omega)
      go_simp
      refine c48.mono ?_
      rintro e V2 ⟨u, rfl, hu, hb⟩
      have HB := hid hb
      have HU := hid hu
      clear hb hu c48
      go_wp2_with fail
      exact hK.out _ _ (fun d hd => by cases hd; exact ⟨_, rfl, HU.out⟩) (HJ.out.step HB.out) (.inl ⟨HB.out, rfl⟩)
    · intro ac V yl K hf hs _ hJ hK
      obtain ⟨v7, e7, h7⟩ := hs 7 (by kernel_rfl)
      obtain ⟨s7, rfl, g7⟩ : EE w.heap.size V (exZ) v7 := h7
      obtain ⟨a7, c7, _, rfl, _⟩ := g7.now.out
      have G7 := hid g7
      clear g7
      obtain ⟨v10, e10, h10⟩ := hs 10 (by kernel_rfl)
      obtain ⟨s10, rfl, g10⟩ : EE w.heap.size V (twE 6 (preE exS) exX) v10 := h10
      obtain ⟨a10, c10, _, rfl, _⟩ := g10.now.out
      have G10 := hid g10
      clear g10
      have HJ := hid hJ
      clear hf hs hJ
      have hlt := HJ.out.lt
      have c48 := two_at (fun k => k = w.heap.size) 18 (by omega) _ _ _ _ V G7.out G10.out (fun k hk => by omega)
      go_simp
      refine c48.mono ?_
      rintro e V2 ⟨u, rfl, hu, hb⟩
      have HB := hid hb
      have HU := hid hu
      clear hb hu c48
      go_wp2_with fail
      exact hK.out _ _ (fun d hd => by cases hd; exact ⟨_, rfl, HU.out⟩) (HJ.out.step HB.out) (.inl ⟨HB.out, rfl⟩)
    · intro ac V yl K hf hs _ hJ hK
      obtain ⟨v11, e11, h11⟩ := hs 11 (by kernel_rfl)
      obtain ⟨s11, rfl, g11⟩ : EE w.heap.size V (twE 18 exZ (twE 6 (preE exS) exX)) v11 := h11
      obtain ⟨a11, c11, _, rfl, _⟩ := g11.now.out
      have G11 := hid g11
      clear g11
      have HJ := hid hJ
      clear hf hs hJ
      go_simp
      exact hK.out _ _ (fun d hd => by cases hd; exact ⟨_, rfl, G11.out⟩) HJ.out (.inl ⟨Below.refl _ _, rfl⟩)
    · intro ac V yl K hf hs _ hJ hK
      have HJ := hid hJ
      clear hf hs hJ
      go_simp
      refine (name_at ⟨#[115]⟩ V).mono ?_
      rintro e V2 ⟨rfl, hb⟩
      have HB := hid hb
      clear hb
      go_wp2_with fail
      exact hK.out _ _ (fun d hd => by cases hd; exact ⟨_, rfl, stN _ _ _ (by show (1 : Nat) ≤ _; omega)⟩) (HJ.out.step HB.out) (.inl ⟨HB.out, rfl⟩)
    · intro ac V yl K hf hs _ hJ hK
      obtain ⟨v13, e13, h13⟩ := hs 13 (by kernel_rfl)
      obtain ⟨s13, rfl, g13⟩ : EE w.heap.size V (exS) v13 := h13
      obtain ⟨a13, c13, _, rfl, _⟩ := g13.now.out
      have G13 := hid g13
      clear g13
      have HJ := hid hJ
      clear hf hs hJ
      go_simp
      exact hK.out _ _ (fun d hd => by cases hd; exact ⟨_, rfl, G13.out⟩) HJ.out (.inl ⟨Below.refl _ _, rfl⟩)
    · intro ac V yl K hf hs _ hJ hK
      have HJ := hid hJ
      clear hf hs hJ
      go_simp
      refine (name_at ⟨#[116]⟩ V).mono ?_
      rintro e V2 ⟨rfl, hb⟩
      have HB := hid hb
      clear hb
      go_wp2_with fail
      exact hK.out _ _ (fun d hd => by cases hd; exact ⟨_, rfl, stN _ _ _ (by show (1 : Nat) ≤ _; omega)⟩) (HJ.out.step HB.out) (.inl ⟨HB.out, rfl⟩)
    · intro ac V yl K hf hs _ hJ hK
      have HJ := hid hJ
      clear hf hs hJ
      go_simp
      refine (name_at ⟨#[120]⟩ V).mono ?_
      rintro e V2 ⟨rfl, hb⟩
      have HB := hid hb
      clear hb
      go_wp2_with fail
      exact hK.out _ _ (fun d hd => by cases hd; exact ⟨_, rfl, stN _ _ _ (by show (1 : Nat) ≤ _; omega)⟩) (HJ.out.step HB.out) (.inl ⟨HB.out, rfl⟩)
    · intro ac V yl K hf hs _ hJ hK
      obtain ⟨v15, e15, h15⟩ := hs 15 (by kernel_rfl)
      obtain ⟨s15, rfl, g15⟩ : EE w.heap.size V (exT) v15 := h15
      obtain ⟨a15, c15, _, rfl, _⟩ := g15.now.out
      have G15 := hid g15
      clear g15
      obtain ⟨v16, e16, h16⟩ := hs 16 (by kernel_rfl)
      obtain ⟨s16, rfl, g16⟩ : EE w.heap.size V (exX) v16 := h16
      obtain ⟨a16, c16, _, rfl, _⟩ := g16.now.out
      have G16 := hid g16
      clear g16
      have HJ := hid hJ
      clear hf hs hJ
      have hlt := HJ.out.lt
      have c48 := two_at (fun k => k = w.heap.size) 6 (by omega) _ _ _ _ V G15.out G16.out (fun k hk => by omega)
      go_simp
      refine c48.mono ?_
      rintro e V2 ⟨u, rfl, hu, hb⟩
      have HB := hid hb
      have HU := hid hu
      clear hb hu c48
      go_wp2_with fail
      exact hK.out _ _ (fun d hd => by cases hd; exact ⟨_, rfl, HU.out⟩) (HJ.out.step HB.out) (.inl ⟨HB.out, rfl⟩)
    · intro ac V yl K hf hs _ hJ hK
      obtain ⟨v17, e17, h17⟩ := hs 17 (by kernel_rfl)
      obtain ⟨s17, rfl, g17⟩ : EE w.heap.size V (twE 6 exT exX) v17 := h17
      obtain ⟨a17, c17, _, rfl, _⟩ := g17.now.out
      have G17 := hid g17
      clear g17
      have HJ := hid hJ
      clear hf hs hJ
      go_simp
      exact hK.out _ _ (fun d hd => by cases hd; exact ⟨_, rfl, G17.out⟩) HJ.out (.inl ⟨Below.refl _ _, rfl⟩)
    · intro ac V yl K hf hs _ hJ hK
      obtain ⟨v12, e12, h12⟩ := hs 12 (by kernel_rfl)
      obtain ⟨s12, rfl, g12⟩ : FF w.heap.size V flS v12 := h12
      obtain ⟨a12, c12, _, rfl, _⟩ := g12.now.out
      have G12 := hid g12
      clear g12
      obtain ⟨v14, e14, h14⟩ := hs 14 (by kernel_rfl)
      obtain ⟨s14, rfl, g14⟩ : FF w.heap.size V flT v14 := h14
      obtain ⟨a14, c14, _, rfl, _⟩ := g14.now.out
      have G14 := hid g14
      clear g14
      obtain ⟨v18, e18, h18⟩ := hs 18 (by kernel_rfl)
      obtain ⟨s18, rfl, g18⟩ : FF w.heap.size V flU v18 := h18
      obtain ⟨a18, c18, _, rfl, _⟩ := g18.now.out
      have G18 := hid g18
      clear g18
      have HJ := hid hJ
      clear hf hs hJ
      go_simp
      have hlt := HJ.out.lt
      have hba := (Below.refl V.heap.size V).alloc (Nat.le_refl _) (.cells (([(flS, Value.slice a12 flS.body.args.length c12), (flT, .slice a14 flT.body.args.length c14), (flU, .slice a18 flU.body.args.length c18)] : List (Fl × Value)).map fun q => flL q.1 q.2).flatten.toArray 55)
      exact hK.out _ _ (fun d hd => by cases hd; exact fun W' hw' => flows_row [(flS, .slice a12 flS.body.args.length c12), (flT, .slice a14 flT.body.args.length c14), (flU, .slice a18 flU.body.args.length c18)] (hw'.row (heap_alloc_new V _) (fun h => by omega)) (three_ok _ _ _) (three_st (G12.out.grow hba (fun _ _ h => h) W' hw') (G14.out.grow hba (fun _ _ h => h) W' hw') (G18.out.grow hba (fun _ _ h => h) W' hw')) (by show (3 : Nat) ≤ _; omega)) (HJ.out.alloc _) (.inl ⟨(Below.refl _ _).alloc (Nat.le_refl _) _, rfl⟩)
    · intro ac V yl K hf hs _ hJ hK
      have HJ := hid hJ
      clear hf hs hJ
      go_simp
      have hlt := HJ.out.lt
      exact hK.out _ _ (fun d hd => by cases hd; exact fun W' hw' => texts_one ⟨#[117]⟩ (hw'.row (heap_alloc_new V _) (fun h => by omega)) (by show (1 : Nat) ≤ _; omega)) (HJ.out.alloc _) (.inl ⟨(Below.refl _ _).alloc (Nat.le_refl _) _, rfl⟩)
    · intro ac V yl K hf hs _ hJ hK
      obtain ⟨v6, e6, h6⟩ := hs 6 (by kernel_rfl)
      have g6 : AtOn (fun k => k = w.heap.size) (fun V => InsAt V [hdX] v6) V := h6
      obtain ⟨a6, c6, rfl, _⟩ := g6.now
      have G6 := hid g6
      clear h6 g6
      obtain ⟨v19, e19, h19⟩ := hs 19 (by kernel_rfl)
      have g19 : AtOn (fun k => k = w.heap.size) (fun V => FlowsAt V [flS, flT, flU] v19) V := h19
      obtain ⟨a19, c19, _, rfl, _⟩ := g19.now
      have G19 := hid g19
      clear h19 g19
      obtain ⟨v20, e20, h20⟩ := hs 20 (by kernel_rfl)
      have g20 : AtOn (fun k => k = w.heap.size) (fun V => TextsAt V [⟨#[117]⟩] v20) V := h20
      obtain ⟨a20, c20, rfl, _⟩ := g20.now
      have G20 := hid g20
      clear h20 g20
      have HJ := hid hJ
      clear hf hs hJ
      go_simp
      exact hK.out _ _ (fun d hd => by cases hd; exact ⟨_, _, _, rfl, fun W' hw' => ⟨⟨by show (-9223372036854775808 : Int) ≤ 2; omega, by show (2 : Int) ≤ _; omega⟩, G6.out W' hw', G19.out W' hw', G20.out W' hw'⟩⟩) HJ.out (.inl ⟨Below.refl _ _, rfl⟩)
    · intro ac V yl K hf hs _ hJ hK
      have e0 : ac.tmps[0]? = some (.pointer (some ⟨w.heap.size, 0, none⟩)) := (hf 0 (by kernel_rfl)).trans rfl
      obtain ⟨v21, e21, h21⟩ := hs 21 (by kernel_rfl)
      obtain ⟨pa, pb, pc, rfl, g21⟩ : ∃ a b c, v21 = pgV kn a b c ∧ AtOn (fun k => k = w.heap.size) (fun V => PgAt V kn a b c) V := h21
      obtain ⟨qa, qb, rfl, _⟩ := g21.now.ins
      obtain ⟨ra, rb, _, rfl, _⟩ := g21.now.flows
      obtain ⟨sa, sb, rfl, _⟩ := g21.now.outs
      have G21 := hid g21
      clear g21
      have HJ := hid hJ
      clear hf hs hJ
      obtain ⟨cs, hcs, hcz⟩ := HJ.out.box
      refine if_take (by rfl) ?_
      refine wp_store_row 26 _ _ rfl w.heap.size (pgC kn (.slice qa kn.ins.length qb) (.slice ra kn.flows.length rb) (.slice sa kn.outs.length sb)) (by simp [Act.eval, e0]) (by simp [Act.eval, e21]) 26 cs hcs info26 (by rw [hcz]; rfl) (by simp [Value.oneCell']) ?_
      have hbu : Buts (fun k => k = w.heap.size) V (V.setRow w.heap.size (pgC kn (.slice qa kn.ins.length qb) (.slice ra kn.flows.length rb) (.slice sa kn.outs.length sb))) := ⟨rfl, rfl, rfl, by simp [World.setRow], fun k _ hn => setRow_other _ _ _ _ hn⟩
      exact hK.out _ _ (fun d hd => by cases hd) ⟨⟨_, setRow_heap _ _ _ _ _ _ hcs, rfl⟩, hbu.row HJ.out.var HJ.out.ne, HJ.out.S.step hbu, HJ.out.ne, below_row HJ.out.below HJ.out.below.size (Nat.le_refl _) _⟩ (.inr ⟨hbu, rfl, _, _, _, setRow_heap _ _ _ _ _ _ hcs, G21.out.step hbu⟩)
  case fin =>
    rintro a W hd hsz hf hs hG hJ
    obtain ⟨pa, pb, pc, hrow, hP⟩ := hG 17 _ (by rfl) (by rfl)
    have ha0 : a.tmps.getD 0 undef = .pointer (some ⟨w.heap.size, 0, none⟩) := by
      have h := hf 0 (by kernel_rfl)
      rw [Array.getD_eq_getD_getElem?, h]; rfl
    exact hKK a W (wp_ret (bodyPost_ret (results_cell_row rfl _ _ w.heap.size 26 (pgC kn pa pb pc) (0, 0) _ ha0 hrow Tryd.underlying26 rfl info26) hd ⟨pa, pb, pc, rfl, hP.now, hJ.below⟩))
end Go.Proofs.YtmlapodhpinhmaaDoor.Lex
namespace Go.Proofs.YtmlapodhpinhmaaDoor.Lex
open Go.ChangeShapes Go.WideShapes Go.ChangeAt Go.RowKit Go.Joins
attribute [local go_sem] Oper.semAt_some
/-- It is that one. -/
def isRf (nm : ByteArray) (ago : Int) (x : Wi) : Bool := (x.rf.1.toList == nm.toList) && ((x.rf.2 : Int) == ago)
/-- What is answered. -/
def ageO (l : List Int) (o : Option Wi) : Int × Int := match o with | some x => (ageV l x, 0) | none => (0, 1)
def ageF (p : Pg) (l : List Int) (flow : Int) (nm : ByteArray) (ago : Int) : Int × Int :=
  if lateOk p l = true ∧ 0 ≤ flow ∧ flow < p.flows.length then ageO l ((wishL p flow.toNat).find? (isRf nm ago)) else (0, 1)
/-- What stands while wishes are looked at. -/
structure AgS (w : World) (l : List Int) (v : Value) (nm : ByteArray) (ago a e : Int) (V : World) : Prop where
  row : V.heap[w.heap.size + 1]? = some (.cells #[v] 27 (0, 0))
  ref : V.heap[w.heap.size + 1 + 1]? = some (.cells #[.string nm, .int .i64 ago] 29 (0, 0))
  val : Boxed V (w.heap.size + 1 + 1 + 1) 3 (.int .i64 a)
  err : Boxed V (w.heap.size + 1 + 1 + 1 + 1) 36 (.int .i64 e)
  below : Below w.heap.size w V
theorem AgS.far {w A C : World} {l : List Int} {v : Value} {nm : ByteArray} {ago a e : Int} {B : Nat} {T : Bl} (h : AgS w l v nm ago a e A) (hf : Far B T A C) (hB : w.heap.size + 5 ≤ B) : AgS w l v nm ago a e C :=
  ⟨(hf.block _ (Array.getElem?_eq_some_iff.1 h.row).1 (.inl (by omega))).trans h.row, (hf.block _ (Array.getElem?_eq_some_iff.1 h.ref).1 (.inl (by omega))).trans h.ref, (hf.block _ h.val.lt (.inl (by omega))).trans h.val, (hf.block _ h.err.lt (.inl (by omega))).trans h.err, h.below.trans ⟨hf.os, hf.tape, hf.output, hf.size, fun b hb => hf.block b (by have := h.below.size; omega) (.inl (by omega))⟩⟩
theorem AgS.step {w A C : World} {l : List Int} {v : Value} {nm : ByteArray} {ago a e : Int} (h : AgS w l v nm ago a e A) (hb : Below A.heap.size A C) : AgS w l v nm ago a e C := h.far (Far.of_below (B := w.heap.size + 5) (T := fun _ => False) hb) (Nat.le_refl _)
theorem AgS.set {w A : World} {l : List Int} {v : Value} {nm : ByteArray} {ago a e : Int} (h : AgS w l v nm ago a e A) (a' e' : Int) : AgS w l v nm ago a' e' ((A.setCell ⟨w.heap.size + 1 + 1 + 1, 0, none⟩ (.int .i64 a')).setCell ⟨w.heap.size + 1 + 1 + 1 + 1, 0, none⟩ (.int .i64 e')) := by
  have k : ∀ (V : World) (b : Nat) (u : Value) (o : Obj) (b' : Nat), V.heap[b]? = some o → b ≠ b' → (V.setCell ⟨b', 0, none⟩ u).heap[b]? = some o := fun V b u o b' h hne => (Below.heap_setCell _ _ _ _ hne).trans h
  refine ⟨k _ _ _ _ _ (k _ _ _ _ _ h.row (by omega)) (by omega), k _ _ _ _ _ (k _ _ _ _ _ h.ref (by omega)) (by omega), (h.val.set _).other (by omega) _, (h.err.other (by omega) _).set _, ?_⟩
  exact (h.below.setCell (p := ⟨w.heap.size + 1 + 1 + 1, 0, none⟩) (by simp; omega) _).setCell (p := ⟨w.heap.size + 1 + 1 + 1 + 1, 0, none⟩) (by simp; omega) _
set_option maxRecDepth 100000 in
set_option maxHeartbeats 2000000 in
theorem age_f (p : Pg) (l : List Int) (v : Value) (flow : Int) (nm : ByteArray) (ago : Int) (w : World) (a b c : Value) (hP : PgAt w p a b c) (hI : IAt w l v) (hR : TabR w) (hJ : TabJ w) :
    CallsIn Fence.wide 22 Tryd.prog 11 #[pgV p a b c, v, .int .i64 flow, .agg #[.string nm, .int .i64 ago]] w fun e W' => e = .returned (.tuple #[.int .i64 (ageF p l flow nm ago).1, .int .i64 (ageF p l flow nm ago).2]) ∧ Below w.heap.size w W' := by
  have h13 : Fence.wide.fn 13 := trivial
  have h27 : Fence.wide.fn 27 := trivial
  have h28 : Fence.wide.fn 28 := trivial
  have hI' := hI
  obtain ⟨a0, a1, rfl, hl1, _⟩ := hP.ins
  obtain ⟨b0, b1, _, rfl, hl2, _⟩ := hP.flows
  obtain ⟨c0, c1, rfl, hl3, _⟩ := hP.outs
  obtain ⟨ao, cap, rfl, ⟨hcap, hlen⟩, _⟩ := hI
  have HP := hid hP
  have HI := hid hI'
  obtain ⟨w3, hw3⟩ : ∃ w3, w3 = ((((w.alloc (.cells (pgC p (.slice a0 p.ins.length a1) (.slice b0 p.flows.length b1) (.slice c0 p.outs.length c1)) 26)).alloc (.cells #[.slice ao l.length cap] 27)).alloc (.cells #[.string nm, .int .i64 ago] 29)).alloc (.cells #[.int .i64 0] 3)).alloc (.cells #[.int .i64 0] 36) := ⟨_, rfl⟩
  have hb3 : Below w.heap.size w w3 := by rw [hw3]; exact (((((Below.refl w.heap.size w).alloc (Nat.le_refl _) _).alloc (by simp) _).alloc (by simp; omega) _).alloc (by simp; omega) _).alloc (by simp; omega) _
  have hs3 : w3.heap.size = w.heap.size + 5 := by rw [hw3]; simp
  have r0 : w3.heap[w.heap.size]? = some (.cells (pgC p (.slice a0 p.ins.length a1) (.slice b0 p.flows.length b1) (.slice c0 p.outs.length c1)) 26 (0, 0)) := by rw [hw3, Below.heap_alloc _ _ _ (by simp <;> omega), Below.heap_alloc _ _ _ (by simp <;> omega), Below.heap_alloc _ _ _ (by simp <;> omega), Below.heap_alloc _ _ _ (by simp)]; exact heap_alloc_new w _
  have hS3 : AgS w l (.slice ao l.length cap) nm ago 0 0 w3 := by
    refine ⟨?_, ?_, ?_, ?_, hb3⟩
    · rw [hw3, Below.heap_alloc _ _ _ (by simp <;> omega), Below.heap_alloc _ _ _ (by simp <;> omega), Below.heap_alloc _ _ _ (by simp)]
      have := heap_alloc_new (w.alloc (.cells (pgC p (.slice a0 p.ins.length a1) (.slice b0 p.flows.length b1) (.slice c0 p.outs.length c1)) 26)) (.cells #[.slice ao l.length cap] 27)
      rwa [World.size_alloc] at this
    · rw [hw3, Below.heap_alloc _ _ _ (by simp <;> omega), Below.heap_alloc _ _ _ (by simp)]
      have := heap_alloc_new ((w.alloc (.cells (pgC p (.slice a0 p.ins.length a1) (.slice b0 p.flows.length b1) (.slice c0 p.outs.length c1)) 26)).alloc (.cells #[.slice ao l.length cap] 27)) (.cells #[.string nm, .int .i64 ago] 29)
      simpa using this
    · rw [hw3]
      have := (Boxed.new (((w.alloc (.cells (pgC p (.slice a0 p.ins.length a1) (.slice b0 p.flows.length b1) (.slice c0 p.outs.length c1)) 26)).alloc (.cells #[.slice ao l.length cap] 27)).alloc (.cells #[.string nm, .int .i64 ago] 29)) 3 (.int .i64 0)).alloc (.cells #[.int .i64 0] 36)
      simpa using this
    · rw [hw3]
      have := Boxed.new ((((w.alloc (.cells (pgC p (.slice a0 p.ins.length a1) (.slice b0 p.flows.length b1) (.slice c0 p.outs.length c1)) 26)).alloc (.cells #[.slice ao l.length cap] 27)).alloc (.cells #[.string nm, .int .i64 ago] 29)).alloc (.cells #[.int .i64 0] 3)) 36 (.int .i64 0)
      simpa using this
  have cN := (callsIn_wide (n := 21)).2 ((callsIn_wide (n := 20)).1 (check_ p l _ w3 _ _ _ (hP.keep hb3) (hI'.keep hb3) (hR.below hb3) (hJ.below hb3)))
  have x0 : w3.cell? ⟨w.heap.size, 0, none⟩ = some (.int .i64 p.st) := by rw [cell_of_row _ _ _ _ 26 (0, 0) r0]; rfl
  have x1 : w3.cell? ⟨w.heap.size, 1, none⟩ = some (.slice a0 p.ins.length a1) := by rw [cell_of_row _ _ _ _ 26 (0, 0) r0]; rfl
  have x2 : w3.cell? ⟨w.heap.size, 2, none⟩ = some (.slice b0 p.flows.length b1) := by rw [cell_of_row _ _ _ _ 26 (0, 0) r0]; rfl
  have x3 : w3.cell? ⟨w.heap.size, 3, none⟩ = some (.slice c0 p.outs.length c1) := by rw [cell_of_row _ _ _ _ 26 (0, 0) r0]; rfl
  have x4 : w3.cell? ⟨w.heap.size + 1, 0, none⟩ = some (.slice ao l.length cap) := by rw [cell_of_row _ _ _ _ 27 (0, 0) hS3.row]; rfl
  have HS3 := hid hS3
  clear hb3 r0 hS3 hP hI' hR hJ
  have y0 := x0
  have y1 := x1
  have y2 := x2
  have y3 := x3
  have y4 := x4
  rw [hw3] at y0 y1 y2 y3 y4
  have HFD : Hid (ageF p l flow nm ago = if lateOk p l = true ∧ 0 ≤ flow ∧ flow < p.flows.length then ageO l ((wishL p flow.toNat).find? (isRf nm ago)) else (0, 1)) := hid rfl
  generalize ageF p l flow nm ago = AF at *
  refine callsIn_of_wp_marks Tryd.func11 rfl trivial ?_ rfl
  simp only [Tryd.ntmps11, List.size_toArray, List.length_cons, List.length_nil, Nat.reduceAdd, Nat.reduceSub, Array.replicate_succ, Array.replicate_zero, List.push_toArray, List.append_toArray, List.nil_append, List.cons_append]
  cases hL : lateOk p l with
  | false =>
    have HF : Hid (AF = (0, 1)) := hid (by rw [HFD.out, if_neg (by rw [hL]; simp)])
    rw [hL] at cN
    clear hL HFD
    gi_wp2_with (first
          | (gi_at_call 13
             rw [← hw3]
             clear hw3 y0 y1 y2 y3
             refine cN.mono ?_
             rintro e w4 ⟨rfl, hb4⟩
             have z0 := cell_kept x0 hb4
             have z1 := cell_kept x1 hb4
             have z2 := cell_kept x2 hb4
             have z3 := cell_kept x3 hb4
             have hS4 := HS3.out.step hb4
             have z4 := hS4.val.cell
             have z5 := hS4.val.frozen
             have z6 := hS4.err.cell
             have z7 := hS4.err.frozen
             have HS4 := hid hS4
             clear hb4 hS4 cN))
    exact ⟨.tuple #[.int .i64 0, .int .i64 1], by
        have q := HS4.out.set 0 1
        have q1 := q.val.cell
        have q2 := q.err.cell
        simp [results, Tryd.f11, go_sem, q1, q2], by rw [HF.out], (HS4.out.set 0 1).below⟩
  | true =>
    have HL := hid hL
    rw [hL] at cN
    clear hL
    by_cases hn : flow < 0
    · have HF : Hid (AF = (0, 1)) := hid (by rw [HFD.out, if_neg (by omega)])
      clear HFD
      gi_wp2_with (first
          | (gi_at_call 13
             rw [← hw3]
             clear hw3 y0 y1 y2 y3
             refine cN.mono ?_
             rintro e w4 ⟨rfl, hb4⟩
             have z0 := cell_kept x0 hb4
             have z1 := cell_kept x1 hb4
             have z2 := cell_kept x2 hb4
             have z3 := cell_kept x3 hb4
             have hS4 := HS3.out.step hb4
             have z4 := hS4.val.cell
             have z5 := hS4.val.frozen
             have z6 := hS4.err.cell
             have z7 := hS4.err.frozen
             have HS4 := hid hS4
             clear hb4 hS4 cN))
      exact ⟨.tuple #[.int .i64 0, .int .i64 1], by
        have q := HS4.out.set 0 1
        have q1 := q.val.cell
        have q2 := q.err.cell
        simp [results, Tryd.f11, go_sem, q1, q2], by rw [HF.out], (HS4.out.set 0 1).below⟩
    · have hnd : decide (flow < 0) = false := by simpa using hn
      by_cases hg : flow < p.flows.length
      · obtain ⟨k, rfl⟩ : ∃ k : Nat, flow = k := ⟨flow.toNat, by omega⟩
        have hk : k < p.flows.length := by omega
        have HF : Hid (AF = ageO l ((wishL p k).find? (isRf nm ago))) := hid (by rw [HFD.out, if_pos ⟨HL.out, by omega, hg⟩]; rfl)
        have hgd : decide ((k : Int) ≥ (p.flows.length : Int)) = false := by simp; omega
        have hlo := HL.out
        unfold lateOk at hlo
        simp only [Bool.and_eq_true, decide_eq_true_eq, Bool.not_eq_true'] at hlo
        have HNM := hid (nm_chk hlo.1)
        have HLL := hid hlo.2.1
        have HMI := hid (mild_of hlo.2.2.1)
        clear HFD hn hg hlo
        gi_wp2_with (first
          | (gi_at_call 13
             rw [← hw3]
             clear hw3 y0 y1 y2 y3
             refine cN.mono ?_
             rintro e w4 ⟨rfl, hb4⟩
             have z0 := cell_kept x0 hb4
             have z1 := cell_kept x1 hb4
             have z2 := cell_kept x2 hb4
             have z3 := cell_kept x3 hb4
             have hS4 := HS3.out.step hb4
             have z4 := hS4.val.cell
             have z5 := hS4.val.frozen
             have z6 := hS4.err.cell
             have z7 := hS4.err.frozen
             have HS4 := hid hS4
             clear hb4 hS4 cN)
          | (gi_at_call 27; refine (wishes_ 21 p _ _ _ k _).mono ?_; rintro e w6 ⟨rfl, hw6⟩))
        rw [← hw6]
        have hb6 : Below w4.heap.size w4 w6 := by rw [hw6]; exact ((Below.refl _ w4).alloc (Nat.le_refl _) _).alloc (by simp) _
        have hs6 : w6.heap.size = w4.heap.size + 2 := by rw [hw6]; simp
        have hr6 : w6.heap[w4.heap.size]? = some (.cells (pgC p (.slice a0 p.ins.length a1) (.slice b0 p.flows.length b1) (.slice c0 p.outs.length c1)) 26 (0, 0)) := by rw [hw6, Below.heap_alloc _ _ _ (by simp)]; exact heap_alloc_new w4 _
        have hf6 : w6.heap[w4.heap.size + 1]? = some (.cells #[.int .i64 (k : Int)] 3 (0, 0)) := by
          rw [hw6]
          have := heap_alloc_new (w4.alloc (.cells (pgC p (.slice a0 p.ins.length a1) (.slice b0 p.flows.length b1) (.slice c0 p.outs.length c1)) 26)) (.cells #[.int .i64 (k : Int)] 3)
          rwa [World.size_alloc] at this
        have hS6 := HS4.out.step hb6
        have hsz4 : w.heap.size + 5 ≤ w4.heap.size := by have := HS4.out.err.lt; omega
        have H6 := hid hr6
        have H7 := hid hf6
        have HS6 := hid hS6
        clear hw6 hb6 hr6 hf6 hS6 x0 x1 x2 x3 x4 z0 z1 z2 z3 z4 z5 z6 z7
        refine range_T rfl (by omega) (gf := 53) (lb := #[.pointer (some ⟨w4.heap.size, 0, none⟩), .pointer (some ⟨w4.heap.size + 1, 0, none⟩)]) rfl trivial (enters_of Tryd.func53 (by kernel_rfl) rfl)
          (own := fun x => x = w.heap.size + 1 + 1 + 1 ∨ x = w.heap.size + 1 + 1 + 1 + 1) (wishes_T 21 (by omega) w4.heap.size (w4.heap.size + 1) p _ _ _ k hk w w6 HS6.out.below HP.out HNM.out H6.out H7.out) (Below.refl _ _) (fun _ => rfl)
          (fun x hx => ⟨by omega, fun hk => by unfold keptW at hk; omega⟩) (fun x hx => by unfold keptW at hx; omega)
          (fun pre _ V => (∀ x ∈ pre, isRf nm ago x = false) ∧ AgS w l (.slice ao l.length cap) nm ago 0 0 V)
          (fun c' pre _ V => c' = .ret ∧ ∃ x, (wishL p k).find? (isRf nm ago) = some x ∧ AgS w l (.slice ao l.length cap) nm ago (ageV l x) 0 V)
          (fun pre T A C h hf => ⟨h.1, h.2.far hf (by omega)⟩)
          (fun c' pre T A C h hf => by obtain ⟨h1, x, h2, h3⟩ := h; exact ⟨h1, x, h2, h3.far hf (by omega)⟩) ⟨fun _ h => (by cases h), HS6.out⟩
          (fun x a' V => ∃ Bx, w6.heap.size + 2 ≤ Bx ∧ V.heap[Bx]? = some (.cells (wiC x).toArray 73 (0, 0)) ∧ a' = { tmps := #[pgV p (.slice a0 p.ins.length a1) (.slice b0 p.flows.length b1) (.slice c0 p.outs.length c1), .slice ao l.length cap, .int .i64 (k : Int), .agg #[.string nm, .int .i64 ago], .pointer (some ⟨w.heap.size, 0, none⟩), .pointer (some ⟨w.heap.size + 1, 0, none⟩), undef, .pointer (some ⟨w.heap.size + 1 + 1, 0, none⟩), .pointer (some ⟨w.heap.size + 1 + 1 + 1, 0, none⟩), .pointer (some ⟨w.heap.size + 1 + 1 + 1 + 1, 0, none⟩), .pointer (some ⟨Bx, 0, none⟩), pgV p (.slice a0 p.ins.length a1) (.slice b0 p.flows.length b1) (.slice c0 p.outs.length c1), .slice ao l.length cap, .bool true, .bool false, .bool false, .int .i64 (k : Int), .bool false, .bool false, .bool false, .int .i64 (k : Int), .pointer (some ⟨w.heap.size, 2, none⟩), .slice b0 p.flows.length b1, .int .i64 (p.flows.length : Int), .bool false, .bool false, pgV p (.slice a0 p.ins.length a1) (.slice b0 p.flows.length b1) (.slice c0 p.outs.length c1), .int .i64 (k : Int), .func (.func 53) #[] #[.pointer (some ⟨w4.heap.size, 0, none⟩), .pointer (some ⟨w4.heap.size + 1, 0, none⟩)], wiV x, undef, undef, undef, undef, undef, undef, undef], defers := [] })
          (fun x a' V o hs hx => by obtain ⟨Bx, h1, h2, h3⟩ := hx; exact ⟨Bx, h1, (World.putObj_heap_other (by omega)).trans h2, h3⟩)
          ?assign ?body ?done ?stop
        case assign =>
          rintro l2 pre x T' V K hsV hI hK
          gi_wp2
          exact hK _ _ ((Below.refl _ V).alloc (Nat.le_refl _) _) ⟨V.heap.size, hsV, heap_alloc_new V _, rfl⟩
        case body =>
          rintro l2 pre x T' a' V hsV hsn ⟨hno, hC⟩ ⟨Bx, hBx, hRow, rfl⟩ hlen hpre
          have hxm : x ∈ wishL p k := hpre.subset (by simp)
          have hok : WiOk l.length x := by rw [HLL.out]; exact wishL_ok HNM.out hk x hxm
          have cA := CallsIn.inRound l2 ((callsIn_wide (n := 22 - 1 - 1 - 1)).2 (age_ x l _ V (HI.out.keep hC.below) hok HMI.out))
          have z0 : V.cell? ⟨Bx, 0, none⟩ = some (.int .i64 (x.flow : Int)) := by rw [cell_of_row _ _ _ _ 73 (0, 0) hRow]; rfl
          have z1 : V.cell? ⟨Bx, 1, none⟩ = some (.string x.rf.1) := by rw [cell_of_row _ _ _ _ 73 (0, 0) hRow]; rfl
          have z2 : V.cell? ⟨Bx, 2, none⟩ = some (.int .i64 (x.rf.2 : Int)) := by rw [cell_of_row _ _ _ _ 73 (0, 0) hRow]; rfl
          have z3 : V.cell? ⟨Bx, 3, none⟩ = some (.int .i64 x.of) := by rw [cell_of_row _ _ _ _ 73 (0, 0) hRow]; rfl
          have z4 : V.cell? ⟨Bx, 4, none⟩ = some (.int .i64 (x.way : Int)) := by rw [cell_of_row _ _ _ _ 73 (0, 0) hRow]; rfl
          have z5 : V.cell? ⟨w.heap.size + 1, 0, none⟩ = some (.slice ao l.length cap) := by rw [cell_of_row _ _ _ _ 27 (0, 0) hC.row]; rfl
          have z6 : V.cell? ⟨w.heap.size + 1 + 1, 0, none⟩ = some (.string nm) := by rw [cell_of_row _ _ _ _ 29 (0, 0) hC.ref]; rfl
          have z7 : V.cell? ⟨w.heap.size + 1 + 1, 1, none⟩ = some (.int .i64 ago) := by rw [cell_of_row _ _ _ _ 29 (0, 0) hC.ref]; rfl
          have hn3 : 1 ≤ 22 - 1 - 1 := by omega
          have HC := hid hC
          have HXM := hid hxm
          have HNO := hid hno
          have HFND : Hid (isRf nm ago x = true → (wishL p k).find? (isRf nm ago) = some x) := hid (fun h => by
            obtain ⟨t, ht⟩ := hpre
            rw [← ht, List.append_assoc, List.find?_append, List.find?_eq_none.2 (fun y hy => by rw [hno y hy]; simp)]
            simp [h])
          clear hC hok hRow hsn hlen hpre hxm hno
          by_cases hq1 : x.rf.1.toList = nm.toList
          · by_cases hq2 : (x.rf.2 : Int) = ago
            · have HX := hid (HFND.out (by unfold isRf; simp [hq1, hq2]))
              clear HFND
              subst hq2
              gi_wp2_with
                (gi_at_call 28
                 refine cA.mono ?_
                 rintro e V2 ⟨rfl, hb2⟩
                 have hC2 := HC.out.step hb2
                 have e5 := hC2.val.cell
                 have e6 := hC2.val.frozen
                 have e7 := hC2.err.cell
                 have e8 := hC2.err.frozen
                 have HC2 := hid hC2
                 have HB2 := hid hb2
                 clear hC2 hb2 cA)
              exact ⟨T', fun b hb => .inl hb, ((Buts.below HB2.out).trans (Buts.set _ _ _ _ (.inr (.inl rfl)))).trans (Buts.set _ _ _ _ (.inr (.inr rfl))), rfl, x, HX.out, HC2.out.set _ _⟩
            · have HN : Hid (isRf nm ago x = false) := hid (by unfold isRf; simp [hq2])
              clear HFND
              gi_wp2
              refine ⟨T', fun b hb => .inl hb, Buts.refl _ _, fun y hy => ?_, HC.out⟩
              rcases List.mem_append.1 hy with hy | hy
              · exact HNO.out y hy
              · rw [List.mem_singleton.1 hy]; exact HN.out
          · have HN : Hid (isRf nm ago x = false) := hid (by unfold isRf; simp [hq1])
            clear HFND
            gi_wp2
            refine ⟨T', fun b hb => .inl hb, Buts.refl _ _, fun y hy => ?_, HC.out⟩
            rcases List.mem_append.1 hy with hy | hy
            · exact HNO.out y hy
            · rw [List.mem_singleton.1 hy]; exact HN.out
        case done =>
          rintro D ys T' V rfl hsV rfl hsn ⟨hno, hC⟩ hD
          have HG : Hid (AF = (0, 1)) := hid (by rw [HF.out, List.find?_eq_none.2 (fun y hy => by rw [hno y hy]; simp)]; rfl)
          have e5 := hC.val.cell
          have e6 := hC.val.frozen
          have e7 := hC.err.cell
          have e8 := hC.err.frozen
          have HC := hid hC
          have HD := hid hD
          clear hC hD hsn hno
          gi_wp2
          have hK' := ((KeepsOthers.setCell V ⟨w.heap.size + 1 + 1 + 1, 0, none⟩ (.int .i64 0)).trans (KeepsOthers.setCell _ ⟨w.heap.size + 1 + 1 + 1 + 1, 0, none⟩ (.int .i64 1))).same _ _ HD.out rfl
          refine ⟨by simp, .inl ⟨_, _, rfl, run_takeDeferred hK', ?_⟩⟩
          have hS := HC.out.set 0 1
          obtain ⟨q1, q2⟩ := leave1 (w := w) hK' (by have := HS6.out.below.size; omega) hS.val hS.below
          obtain ⟨q3, _⟩ := leave1 (w := w) hK' (by have := HS6.out.below.size; omega) hS.err hS.below
          exact ⟨.tuple #[.int .i64 0, .int .i64 1], by simp [results, Tryd.f11, go_sem, q1, q3], by rw [HG.out], q2⟩
        case stop =>
          rintro D c' pre T' V rfl hsV hSp hsn ⟨rfl, x, hx, hS⟩ hD
          have HG : Hid (AF = (ageV l x, 0)) := hid (by rw [HF.out, hx]; rfl)
          have HS := hid hS
          have HD := hid hD
          clear hS hD hsn hSp hx
          gi_wp2
          refine ⟨by simp, .inl ⟨_, _, rfl, run_takeDeferred HD.out, ?_⟩⟩
          obtain ⟨q1, q2⟩ := leave1 (w := w) HD.out (by have := HS6.out.below.size; omega) HS.out.val HS.out.below
          obtain ⟨q3, _⟩ := leave1 (w := w) HD.out (by have := HS6.out.below.size; omega) HS.out.err HS.out.below
          exact ⟨.tuple #[.int .i64 (ageV l x), .int .i64 0], by simp [results, Tryd.f11, go_sem, q1, q3], by rw [HG.out], q2⟩
      · have HF : Hid (AF = (0, 1)) := hid (by rw [HFD.out, if_neg (by omega)])
        have hgd : decide (flow ≥ (p.flows.length : Int)) = true := by simp; omega
        have hge : (p.flows.length : Int) ≤ flow := by omega
        clear HFD hn hg
        gi_wp2_with (first
          | (gi_at_call 13
             rw [← hw3]
             clear hw3 y0 y1 y2 y3
             refine cN.mono ?_
             rintro e w4 ⟨rfl, hb4⟩
             have z0 := cell_kept x0 hb4
             have z1 := cell_kept x1 hb4
             have z2 := cell_kept x2 hb4
             have z3 := cell_kept x3 hb4
             have hS4 := HS3.out.step hb4
             have z4 := hS4.val.cell
             have z5 := hS4.val.frozen
             have z6 := hS4.err.cell
             have z7 := hS4.err.frozen
             have HS4 := hid hS4
             clear hb4 hS4 cN))
        exact ⟨.tuple #[.int .i64 0, .int .i64 1], by
        have q := HS4.out.set 0 1
        have q1 := q.val.cell
        have q2 := q.err.cell
        simp [results, Tryd.f11, go_sem, q1, q2], by rw [HF.out], (HS4.out.set 0 1).below⟩
end Go.Proofs.YtmlapodhpinhmaaDoor.Lex
namespace Go.Proofs.YtmlapodhpinhmaaDoor.Lex
open Go.ChangeShapes Go.WideShapes Go.ChangeAt Go.RowKit Go.Joins
def findD (l : List (Int × Hd)) (name : ByteArray) : Option (Int × Hd) := l.find? fun x => x.2.name.data.toList == name.data.toList
theorem findT_D (l : List (Int × Hd)) (name : ByteArray) : findT l name = findD l name := by
  unfold findT findD
  congr 1
  funext x
  rw [ByteArray.toList_eq, ByteArray.toList_eq]
def mkD (p : Pg) (k : Nat) (st : Int) (r : Rf) : Wi := ⟨k, r, plO (findD (thingsL p) r.1), if stO (findD (thingsL p) r.1) = st then 0 else 1⟩
theorem mkW_D (p : Pg) (k : Nat) (st : Int) : mkW p k st = mkD p k st := by funext r; unfold mkW mkD; rw [findT_D]
def wishD (p : Pg) (k : Nat) : List Wi := ((p.flows[k]?).map fun f => (gat 32 f.body 0 []).map (mkD p k f.st)).getD []
theorem wishL_D (p : Pg) (k : Nat) : wishL p k = wishD p k := by unfold wishL wishD; simp only [mkW_D]
def allD (p : Pg) : List Wi := (List.range p.flows.length).flatMap (wishD p)
theorem allL_D (p : Pg) : allL p = allD p := by unfold allL allN allD; congr 1; funext k; rw [wishL_D]
def ofD (p : Pg) : Option (List Int) := leaF (allD p) (p.flows.length + 1) (List.replicate p.flows.length 0)
theorem ofL_D (p : Pg) : ofL p = ofD p := by unfold ofL ofD; rw [allL_D]
def lateD (p : Pg) (l : List Int) : Bool := decide (nmErr p = 0) && (decide (l.length = p.flows.length) && (!anyOut l && (allD p).all (fun x => decide (0 ≤ ageV l x))))
theorem lateOk_D (p : Pg) (l : List Int) : lateOk p l = lateD p l := by unfold lateOk lateD agesOk; rw [allL_D]
def isRfD (nm : ByteArray) (ago : Int) (x : Wi) : Bool := (x.rf.1.data.toList == nm.data.toList) && ((x.rf.2 : Int) == ago)
theorem isRf_D (nm : ByteArray) (ago : Int) : isRf nm ago = isRfD nm ago := by funext x; unfold isRf isRfD; rw [ByteArray.toList_eq, ByteArray.toList_eq]
def ageD (p : Pg) (l : List Int) (flow : Int) (nm : ByteArray) (ago : Int) : Int × Int :=
  if lateD p l = true ∧ 0 ≤ flow ∧ flow < p.flows.length then ageO l ((wishD p flow.toNat).find? (isRfD nm ago)) else (0, 1)
theorem ageF_D (p : Pg) (l : List Int) (flow : Int) (nm : ByteArray) (ago : Int) : ageF p l flow nm ago = ageD p l flow nm ago := by unfold ageF ageD; rw [lateOk_D, wishL_D, isRf_D]
/-- Two flows, each of which asks for the other one. -/
def tight : Pg := ⟨2, [], [⟨⟨#[115]⟩, 1, 1, 0, exT⟩, ⟨⟨#[116]⟩, 1, 2, 0, twE 18 exZ (preE exS)⟩], []⟩
theorem k0 : nmErr kn = 0 := by decide +kernel
theorem k1 : ofL kn = some [0, 1, 2] := by rw [ofL_D]; decide +kernel
theorem k2 : ageF kn [0, 1, 2] 2 ⟨#[120]⟩ 0 = (2, 0) := by rw [ageF_D]; decide +kernel
theorem k3 : ageF kn [0, 1, 2] 1 ⟨#[115]⟩ 0 = (0, 0) := by rw [ageF_D]; decide +kernel
theorem k4 : ageF kn [0, 1, 2] 0 ⟨#[115]⟩ 1 = (1, 0) := by rw [ageF_D]; decide +kernel
theorem k5 : ageF kn [0, 1, 2] 0 ⟨#[115]⟩ 0 = (0, 1) := by rw [ageF_D]; decide +kernel
theorem k6 : lateOk kn [0, 1, 2] = true := by rw [lateOk_D]; decide +kernel
theorem k7 : lateOk kn [0, 0, 2] = false := by rw [lateOk_D]; decide +kernel
theorem t0 : nmErr tight = 0 := by decide +kernel
theorem t1 : ofL tight = none := by rw [ofL_D]; decide +kernel
end Go.Proofs.YtmlapodhpinhmaaDoor.Lex
namespace Go.Proofs.YtmlapodhpinhmaaDoor.Lex
open Go.ChangeShapes Go.WideShapes Go.ChangeAt Go.RowKit Go.Joins
/-- The chapter's program in its variable, how late its flows are, the tables. -/
structure LV (w : World) (pb b : Nat) (A B C : Value) (W : World) : Prop where
  row : W.heap[pb]? = some (.cells (pgC kn A B C) 26 (0, 0))
  P : PgAt W kn A B C
  l : Rowl W b [0, 1, 2]
  R : TabR W
  J : TabJ W
  below : Below w.heap.size w W
theorem LV.keep {w W W' : World} {pb b : Nat} {A B C : Value} (h : LV w pb b A B C W) (hb : Below W.heap.size W W') : LV w pb b A B C W' := ⟨keep_row h.row hb, h.P.keep hb, keep_row h.l hb, h.R.below hb, h.J.below hb, h.below.trans (hb.mono h.below.size)⟩
theorem LV.cells {w W : World} {pb b : Nat} {A B C : Value} (h : LV w pb b A B C W) : W.cell? ⟨pb, 0, none⟩ = some (.int .i64 2) ∧ W.cell? ⟨pb, 1, none⟩ = some A ∧ W.cell? ⟨pb, 2, none⟩ = some B ∧ W.cell? ⟨pb, 3, none⟩ = some C := row4 h.row
theorem LV.ia {w W : World} {pb b : Nat} {A B C : Value} (h : LV w pb b A B C W) : IAt W [0, 1, 2] (.slice (some ⟨b, 0, none⟩) 3 3) := h.l.at (by show (3 : Nat) ≤ _; omega)
theorem OfP.some {w w' : World} {p : Pg} {e : Ending} {l : List Int} (h : OfP w p e w') (h0 : nmErr p = 0) (h1 : ofL p = some l) : ∃ b, e = .returned (.tuple #[.slice (some ⟨b, 0, none⟩) p.flows.length p.flows.length, .int .i64 0]) ∧ w.heap.size ≤ b ∧ Rowl w' b l := by
  rcases h with ⟨h2, _⟩ | ⟨_, h2, _⟩ | ⟨l', b, _, h2, h3, h4, h5, _⟩
  · exact absurd h0 h2
  · rw [h1] at h2; cases h2
  · rw [h1] at h2; obtain rfl := Option.some.inj h2; exact ⟨b, h3, h4, h5⟩
theorem OfP.none {w w' : World} {p : Pg} {e : Ending} (h : OfP w p e w') (h0 : nmErr p = 0) (h1 : ofL p = none) : e = .returned (.tuple #[.slice none 0 0, .int .i64 10]) := by
  rcases h with ⟨h2, _⟩ | ⟨_, _, h3⟩ | ⟨l', b, _, h2, _⟩
  · exact absurd h0 h2
  · exact h3
  · rw [h1] at h2; cases h2
theorem tight_at {W : World} {g : Nat} {u : Value} (h : W.heap[g]? = some (.cells #[.string ⟨#[115]⟩, .int .u8 1, .int .i64 1, .int .i64 0, .int .u8 3, .int .i64 0, .string ⟨#[116]⟩, .slice none 0 0, .string ⟨#[116]⟩, .int .u8 1, .int .i64 2, .int .i64 0, .int .u8 18, .int .i64 0, .string ⟨#[]⟩, u] 55 (0, 0))) (hS : St W (twE 18 exZ (preE exS)) u) : PgAt W tight N0 (.slice (some ⟨g, 0, none⟩) 2 2) N0 where
  ins := ins_none W
  flows := flows_row [(⟨⟨#[115]⟩, 1, 1, 0, exT⟩, N0), (⟨⟨#[116]⟩, 1, 2, 0, twE 18 exZ (preE exS)⟩, u)] h (fun q hq => by
    rcases List.mem_cons.1 hq with rfl | hq
    · exact fl_ok _ _ _ (by show (1 : Nat) ≤ _; omega) (by omega)
    rw [List.mem_singleton.1 hq]
    exact fl_ok _ _ _ (by show (1 : Nat) ≤ _; omega) (by omega)) (fun q hq => by
    rcases List.mem_cons.1 hq with rfl | hq
    · exact st_leaf W exT rfl (by decide) (by decide) (by show (1 : Nat) ≤ _; omega)
    rw [List.mem_singleton.1 hq]
    exact hS) (by show (2 : Nat) ≤ _; omega)
  outs := texts_none W
  st := ⟨by show (-9223372036854775808 : Int) ≤ 2; omega, by show (2 : Int) ≤ _; omega⟩
set_option maxRecDepth 100000 in
set_option maxHeartbeats 4000000 in
theorem lives (w : World) (hR : TabR w) (hJ : TabJ w) : Calls Tryd.prog 8 #[] w fun e w' => e = .returned (.bool true) ∧ Below w.heap.size w w' := by
  have HT := hid (And.intro hR hJ)
  clear hR hJ
  go_enter Tryd.func8, Tryd.ntmps8
  go_wp2_with (fail)
  refine (known_at _).mono ?_
  rintro e w1 ⟨A, B, C, rfl, hP, hb1⟩
  obtain ⟨A0, A1, rfl, _⟩ := hP.ins
  obtain ⟨B0, B1, _, rfl, _⟩ := hP.flows
  obtain ⟨C0, C1, rfl, _⟩ := hP.outs
  have hal := (Below.refl w1.heap.size w1).alloc (Nat.le_refl _) (.cells (pgC kn (.slice A0 kn.ins.length A1) (.slice B0 kn.flows.length B1) (.slice C0 kn.outs.length C1)) 26)
  have hr := heap_alloc_new w1 (.cells (pgC kn (.slice A0 kn.ins.length A1) (.slice B0 kn.flows.length B1) (.slice C0 kn.outs.length C1)) 26)
  have HX := hid (And.intro hr (And.intro (hP.keep hal) (And.intro (HT.out.1.below (hb1.trans (hal.mono hb1.size))) (And.intro (HT.out.2.below (hb1.trans (hal.mono hb1.size))) (hb1.trans (hal.mono hb1.size))))))
  clear hal hr hP hb1
  go_wp2_with (fail)
  refine (of_l kn _ _ _ _ HX.out.2.1 HX.out.2.2.1 HX.out.2.2.2.1).mono ?_
  rintro e w3 ⟨hO, hb3⟩
  obtain ⟨b, rfl, hbw, hrw⟩ := hO.some k0 k1
  have L3 := hid (LV.mk (keep_row HX.out.1 hb3) (HX.out.2.1.keep hb3) hrw (HX.out.2.2.1.below hb3) (HX.out.2.2.2.1.below hb3) (HX.out.2.2.2.2.trans (hb3.mono HX.out.2.2.2.2.size)) : LV w w1.heap.size b _ _ _ w3)
  obtain ⟨pb, hpb⟩ : ∃ pb, pb = w1.heap.size := ⟨_, rfl⟩
  rw [← hpb] at L3
  have HPB := hid hpb
  have l0 := L3.out.l.cell 0 (by show (0 : Nat) < 3; omega)
  have l1 := L3.out.l.cell 1 (by show (1 : Nat) < 3; omega)
  have l2 := L3.out.l.cell 2 (by show (2 : Nat) < 3; omega)
  dsimp only [List.getElem_cons_zero, List.getElem_cons_succ] at l0 l1 l2
  obtain ⟨p3a, p3b, p3c, p3d⟩ := L3.out.cells
  rw [hpb] at p3a p3b p3c p3d
  clear hb3 hO hrw HX hpb hbw
  go_wp2_with (fail)
  rw [← HPB.out]
  clear l0 l1 l2 p3a p3b p3c p3d HPB
  refine ((callsIn_wide (n := 22)).1 (age_f kn [0, 1, 2] _ 2 ⟨#[120]⟩ 0 _ _ _ _ L3.out.P L3.out.ia L3.out.R L3.out.J)).mono ?_
  rintro e w4 ⟨rfl, hb4⟩
  rw [k2]
  have L4 := hid (L3.out.keep hb4)
  clear hb4
  obtain ⟨p4a, p4b, p4c, p4d⟩ := L4.out.cells
  go_wp2_with (fail)
  refine ((callsIn_wide (n := 22)).1 (age_f kn [0, 1, 2] _ 1 ⟨#[115]⟩ 0 _ _ _ _ L4.out.P L4.out.ia L4.out.R L4.out.J)).mono ?_
  rintro e w5 ⟨rfl, hb5⟩
  rw [k3]
  have L5 := hid (L4.out.keep hb5)
  clear hb5
  obtain ⟨p5a, p5b, p5c, p5d⟩ := L5.out.cells
  go_wp2_with (fail)
  refine ((callsIn_wide (n := 22)).1 (age_f kn [0, 1, 2] _ 0 ⟨#[115]⟩ 1 _ _ _ _ L5.out.P L5.out.ia L5.out.R L5.out.J)).mono ?_
  rintro e w6 ⟨rfl, hb6⟩
  rw [k4]
  have L6 := hid (L5.out.keep hb6)
  clear hb6
  obtain ⟨p6a, p6b, p6c, p6d⟩ := L6.out.cells
  go_wp2_with (fail)
  refine ((callsIn_wide (n := 22)).1 (age_f kn [0, 1, 2] _ 0 ⟨#[115]⟩ 0 _ _ _ _ L6.out.P L6.out.ia L6.out.R L6.out.J)).mono ?_
  rintro e w7 ⟨rfl, hb7⟩
  rw [k5]
  have L7 := hid (L6.out.keep hb7)
  clear hb7
  obtain ⟨p7a, p7b, p7c, p7d⟩ := L7.out.cells
  go_wp2_with (fail)
  clear p4a p4b p4c p4d p5a p5b p5c p5d p6a p6b p6c p6d p7a p7b p7c p7d
  refine (name_at ⟨#[116]⟩ _).mono ?_
  rintro e w8 ⟨rfl, hb8⟩
  have L8 := hid (L7.out.keep hb8)
  clear hb8 L7
  go_wp2_with (fail)
  refine (name_at ⟨#[115]⟩ _).mono ?_
  rintro e w9 ⟨rfl, hb9⟩
  have L9 := hid (L8.out.keep hb9)
  clear hb9 L8
  go_wp2_with (fail)
  refine (pre_at (fun _ => False) exS N0 w9 (stN _ _ _ (by show (1 : Nat) ≤ _; omega)) (fun k h => h.elim)).mono ?_
  rintro e w10 ⟨u, rfl, hu, hb10⟩
  obtain ⟨ua, uc, _, rfl, _⟩ := hu.now.out
  have L10 := hid (L9.out.keep hb10)
  have HU := hid hu
  clear hb10 L9 hu
  go_wp2_with (fail)
  obtain ⟨V, hV⟩ : ∃ V, V = (w10.alloc (.cells #[.string ⟨#[115]⟩, .int .u8 1, .int .i64 1, .int .i64 0, .int .u8 3, .int .i64 0, .string ⟨#[116]⟩, .slice none 0 0, .string ⟨#[116]⟩, .int .u8 1, .int .i64 2, .int .i64 0, .int .u8 18, .int .i64 0, .string ⟨#[]⟩, .slice ua 2 uc] 55)).alloc (.cells #[.int .i64 2, .slice none 0 0, .slice (some ⟨w10.heap.size, 0, none⟩) 2 2, .slice none 0 0] 26) := ⟨_, rfl⟩
  rw [← hV]
  have hbV : Below w10.heap.size w10 V := by rw [hV]; exact ((Below.refl _ w10).alloc (Nat.le_refl _) _).alloc (by simp) _
  have hrV : V.heap[w10.heap.size]? = some (.cells #[.string ⟨#[115]⟩, .int .u8 1, .int .i64 1, .int .i64 0, .int .u8 3, .int .i64 0, .string ⟨#[116]⟩, .slice none 0 0, .string ⟨#[116]⟩, .int .u8 1, .int .i64 2, .int .i64 0, .int .u8 18, .int .i64 0, .string ⟨#[]⟩, .slice ua 2 uc] 55 (0, 0)) := by rw [hV]; exact push_old (heap_alloc_new w10 _)
  have LV' := hid (L10.out.keep hbV)
  have hPT := tight_at hrV (HU.out.now.keep hbV)
  clear hV hbV hrV HU L10
  refine (of_l tight _ _ _ _ hPT LV'.out.R LV'.out.J).mono ?_
  rintro e w11 ⟨hO, hb11⟩
  obtain rfl := hO.none t0 t1
  have L11 := hid (LV'.out.keep hb11)
  obtain ⟨q0, q1, q2, q3⟩ := L11.out.cells
  clear hO hb11 hPT LV'
  go_wp2_with (fail)
  refine ((callsIn_wide (n := 20)).1 (check_ kn [0, 1, 2] _ _ _ _ _ L11.out.P L11.out.ia L11.out.R L11.out.J)).mono ?_
  rintro e w12 ⟨rfl, hb12⟩
  rw [k6]
  have L12 := hid (L11.out.keep hb12)
  clear hb12 L11 q0 q1 q2 q3
  obtain ⟨q0, q1, q2, q3⟩ := L12.out.cells
  go_wp2_with (fail)
  have hal := (Below.refl w12.heap.size w12).alloc (Nat.le_refl _) (.cells #[.int .i64 0, .int .i64 0, .int .i64 2] 3)
  have hrl : Rowl (w12.alloc (.cells #[.int .i64 0, .int .i64 0, .int .i64 2] 3)) w12.heap.size [0, 0, 2] := heap_alloc_new w12 _
  have L13 := hid (L12.out.keep hal)
  refine ((callsIn_wide (n := 20)).1 (check_ kn [0, 0, 2] _ _ _ _ _ L13.out.P (hrl.at (by show (3 : Nat) ≤ _; omega)) L13.out.R L13.out.J)).mono ?_
  rintro e w14 ⟨rfl, hb14⟩
  rw [k7]
  have L14 := hid (L13.out.keep hb14)
  clear hb14 L13 L12 q0 q1 q2 q3 hal hrl
  go_wp2_with (fail)
  go_ret
  exact ⟨rfl, L14.out.below⟩
end Go.Proofs.YtmlapodhpinhmaaDoor.Lex
namespace Go.Proofs.YtmlapodhpinhmaaDoor.Lex
theorem lateAt_set (l : List Int) (i : Nat) (z : Int) (j : Int) (hi : i < l.length) : lateAt (l.set i z) j = if j.toNat = i then z else lateAt l j := by
  unfold lateAt
  by_cases e : j.toNat = i
  · rw [if_pos e, e]; simp [hi]
  · rw [if_neg e, List.getElem?_set_ne (fun h => e h.symm)]
/-- Each is 0, or as late as one that it asks for wants. -/
def Tight (L : List Wi) (l : List Int) : Prop := ∀ i : Nat, i < l.length → lateAt l i = 0 ∨ ∃ x ∈ L, x.flow = i ∧ x.of ≠ i ∧ ageV l x ≤ 0
/-- None is less than in any other one. -/
def Leq (l m : List Int) : Prop := ∀ i : Nat, lateAt l i ≤ lateAt m i
/-- Wishes of so many flows, none of which is far from itself. -/
structure Sane (n : Nat) (L : List Wi) : Prop where
  ok : ∀ x ∈ L, WiOk n x
  self : ∀ x ∈ L, x.of = x.flow → x.way = 0
theorem age_set {n : Nat} {l : List Int} {x y : Wi} (hl : l.length = n) (hx : WiOk n x) (_hy : WiOk n y) (z : Int) (hz : lateAt l x.flow ≤ z) (hyf : y.flow ≠ x.flow) : ageV (l.set x.flow z) y ≤ ageV l y := by
  have hxl : x.flow < l.length := by rw [hl]; exact hx.flow
  unfold ageV
  rw [lateAt_set l _ z _ hxl, lateAt_set l _ z _ hxl, if_neg (by simpa using hyf)]
  split
  · split
    · rename_i h1 h2
      have : lateAt l y.of = lateAt l x.flow := by unfold lateAt; rw [h2]; simp
      omega
    · omega
  · omega
theorem age_own {n : Nat} {l : List Int} {x : Wi} (hl : l.length = n) (hx : WiOk n x) (hs : x.of = x.flow → x.way = 0) (ha : ageV l x < 0) : x.of ≠ x.flow ∧ ageV (l.set x.flow (lateAt l x.flow - ageV l x)) x = 0 := by
  have hxl : x.flow < l.length := by rw [hl]; exact hx.flow
  have hne : x.of ≠ x.flow := fun e => by
    have hw := hs e
    unfold ageV at ha
    rw [e, if_pos (by omega), hw] at ha
    omega
  refine ⟨hne, ?_⟩
  generalize hA : ageV l x = A at *
  unfold ageV at hA ⊢
  rw [lateAt_set l _ _ _ hxl, lateAt_set l _ _ _ hxl, if_pos (by simp)]
  split
  · rename_i h
    rw [if_pos h] at hA
    rw [if_neg (by have := hx.of; omega)]
    omega
  · rename_i h
    rw [if_neg h] at hA
    omega
theorem Tight.put {n : Nat} {L : List Wi} {l : List Int} {x : Wi} (hS : Sane n L) (hl : l.length = n) (hx : x ∈ L) (ha : ageV l x < 0) (h : Tight L l) : Tight L (l.set x.flow (lateAt l x.flow - ageV l x)) := by
  intro i hi
  rw [List.length_set] at hi
  have hxo := hS.ok x hx
  have hxl : x.flow < l.length := by rw [hl]; exact hxo.flow
  obtain ⟨hne, h0⟩ := age_own hl hxo (hS.self x hx) ha
  by_cases e : i = x.flow
  · refine .inr ⟨x, hx, e.symm, by rw [e]; exact hne, by omega⟩
  · rcases h i hi with h1 | ⟨y, hy, h1, h2, h3⟩
    · left; rw [lateAt_set l _ _ _ hxl, if_neg (by simpa using e)]; exact h1
    · refine .inr ⟨y, hy, h1, h2, ?_⟩
      have := age_set hl hxo (hS.ok y hy) (lateAt l x.flow - ageV l x) (by omega) (by omega)
      omega
/-- Flows may be so late, by these wishes. -/
def Sol (L : List Wi) (m : List Int) : Prop := (∀ a ∈ m, 0 ≤ a) ∧ ∀ x ∈ L, 0 ≤ ageV m x
theorem Leq.put {n : Nat} {L : List Wi} {l m : List Int} {x : Wi} (hS : Sane n L) (hl : l.length = n) (hx : x ∈ L) (_ha : ageV l x < 0) (hm : Sol L m) (h : Leq l m) : Leq (l.set x.flow (lateAt l x.flow - ageV l x)) m := by
  have hxo := hS.ok x hx
  have hxl : x.flow < l.length := by rw [hl]; exact hxo.flow
  intro i
  rw [lateAt_set l _ _ _ hxl]
  split
  · rename_i e
    have e : i = x.flow := by simpa using e
    have hmx := hm.2 x hx
    have h1 : ∀ j : Int, 0 ≤ j → lateAt l j ≤ lateAt m j := fun j hj => by have := h j.toNat; rwa [Int.toNat_of_nonneg hj] at this
    rw [e]
    unfold ageV at hmx ⊢
    split at hmx
    · rename_i h2
      have := h1 x.of h2
      rw [if_pos h2]
      omega
    · rename_i h2
      rw [if_neg h2]
      omega
  · exact h i
theorem turn_inv {n : Nat} {L0 : List Wi} (hS : Sane n L0) : ∀ (L : List Wi) (l l' : List Int) (s s' : Bool), (∀ x ∈ L, x ∈ L0) → turn L l s = some (l', s') → l.length = n → Tight L0 l →
    Tight L0 l' ∧ l'.length = n ∧ (s' = true → s = true ∧ l' = l ∧ ∀ x ∈ L, 0 ≤ ageV l x) ∧ ∀ m, Sol L0 m → Leq l m → Leq l' m
  | [], l, l', s, s', _, h, hl, ht => by
    simp only [turn, Option.some.injEq, Prod.mk.injEq] at h
    obtain ⟨rfl, rfl⟩ := h
    exact ⟨ht, hl, fun h => ⟨h, rfl, fun x hx => by cases hx⟩, fun m _ h => h⟩
  | x :: L, l, l', s, s', hin, h, hl, ht => by
    have hin' : ∀ y ∈ L, y ∈ L0 := fun y hy => hin y (List.mem_cons_of_mem _ hy)
    have hx := hin x (List.mem_cons_self ..)
    unfold turn at h
    split at h
    · rename_i ha
      obtain ⟨h1, h2, h3, h4⟩ := turn_inv hS L l l' s s' hin' h hl ht
      refine ⟨h1, h2, fun hs => ?_, h4⟩
      obtain ⟨q1, q2, q3⟩ := h3 hs
      refine ⟨q1, q2, fun y hy => ?_⟩
      rcases List.mem_cons.1 hy with rfl | hy
      · exact ha
      · exact q3 y hy
    · rename_i ha
      split at h
      · cases h
      · obtain ⟨h1, h2, h3, h4⟩ := turn_inv hS L _ l' false s' hin' h (by rw [List.length_set]; exact hl) (ht.put hS hl hx (by omega))
        exact ⟨h1, h2, fun hs => absurd (h3 hs).1 (by simp), fun m hm hle => h4 m hm (hle.put hS hl hx (by omega) hm)⟩
/-- What so many turns tell. -/
theorem leaF_inv {n : Nat} {L : List Wi} (hS : Sane n L) : ∀ (k : Nat) (l r : List Int), leaF L k l = some r → l.length = n → Tight L l → Tight L r ∧ r.length = n ∧ (∀ x ∈ L, 0 ≤ ageV r x) ∧ ∀ m, Sol L m → Leq l m → Leq r m
  | 0, l, r, h, _, _ => by cases h
  | k + 1, l, r, h, hl, ht => by
    unfold leaF at h
    split at h
    · cases h
    · rename_i l' s' e
      obtain ⟨h1, h2, h3, h4⟩ := turn_inv hS L l l' true s' (fun _ h => h) e hl ht
      split at h
      · rename_i hs
        obtain rfl := Option.some.inj h
        obtain ⟨_, rfl, q⟩ := h3 hs
        exact ⟨h1, h2, q, h4⟩
      · obtain ⟨q1, q2, q3, q4⟩ := leaF_inv hS k l' r h h2 h1
        exact ⟨q1, q2, q3, fun m hm hle => q4 m hm (h4 m hm hle)⟩
theorem lateAt_zeros (n : Nat) (i : Int) : lateAt (List.replicate n 0) i = 0 := by
  unfold lateAt
  rw [List.getElem?_replicate]
  split <;> rfl
theorem Tight.zeros (L : List Wi) (n : Nat) : Tight L (List.replicate n 0) := fun _ _ => .inl (lateAt_zeros n _)
theorem lateAt_nonneg {m : List Int} (h : ∀ a ∈ m, 0 ≤ a) (i : Int) : 0 ≤ lateAt m i := by
  unfold lateAt
  cases e : m[i.toNat]? with
  | none => exact Int.le_refl _
  | some a => exact h a (List.mem_of_getElem? e)
theorem Leq.zeros {m : List Int} (h : ∀ a ∈ m, 0 ≤ a) (n : Nat) : Leq (List.replicate n 0) m := fun i => by rw [lateAt_zeros]; exact lateAt_nonneg h _
end Go.Proofs.YtmlapodhpinhmaaDoor.Lex
namespace Go.Proofs.YtmlapodhpinhmaaDoor.Lex
theorem name_eq (a b : ByteArray) : (a.toList == b.toList) = decide (b.data.toList = a.data.toList) := by
  rw [ByteArray.toList_eq, ByteArray.toList_eq]
  by_cases e : b.data.toList = a.data.toList
  · rw [decide_eq_true e, e]; simp
  · rw [decide_eq_false e]; simp; intro h; exact e (by rw [h])
theorem cntT_app (a b : List (Int × Hd)) (u : List UInt8) : cntT (a ++ b) u = cntT a u + cntT b u := by
  unfold cntT; rw [List.filter_append, List.length_append]
theorem free_of_none {l : List (Int × Hd)} {name : ByteArray} (h : cntT l name.data.toList = 0) : Free l name := fun x hx => by
  rw [name_eq]
  unfold cntT at h
  have h' := List.eq_nil_of_length_eq_zero h
  rw [List.filter_eq_nil_iff] at h'
  have := h' x hx
  simpa using this
theorem none_of_free {l : List (Int × Hd)} {name : ByteArray} (h : Free l name) : cntT l name.data.toList = 0 := by
  unfold cntT
  rw [List.length_eq_zero_iff, List.filter_eq_nil_iff]
  intro x hx
  have := h x hx
  rw [name_eq] at this
  simpa using this
/-- What is there once is found. -/
theorem find_once {l pre post : List (Int × Hd)} {x : Int × Hd} (hl : l = pre ++ x :: post) (h : ¬ 1 < cntT l x.2.name.data.toList) : findT l x.2.name = some x := by
  subst hl
  have h1 : cntT [x] x.2.name.data.toList = 1 := by simp [cntT]
  have h2 : x :: post = [x] ++ post := rfl
  rw [h2, cntT_app, cntT_app, h1] at h
  refine findT_some (pre := pre) ⟨post, by simp⟩ (free_of_none (by omega)) ?_
  simp
/-- What is there is found. -/
theorem find_some {l : List (Int × Hd)} {name : ByteArray} (h : cntT l name.data.toList ≠ 0) : ∃ x, findT l name = some x := by
  cases e : findT l name with
  | some x => exact ⟨x, rfl⟩
  | none =>
    refine (h (none_of_free fun x hx => ?_)).elim
    unfold findT at e
    rw [List.find?_eq_none] at e
    simpa using e x hx
theorem nmErr_zero {p : Pg} (h : nmErr p = 0) : pgOk p = true ∧ nmOk p = true := by
  unfold nmErr at h
  split at h
  · next h1 =>
    split at h
    · next h2 => exact ⟨h1, h2⟩
    · omega
  · omega
theorem once {p : Pg} (h : nmOk p = true) {x : Int × Hd} (hx : x ∈ thingsL p) : ¬ 1 < cntT (thingsL p) x.2.name.data.toList := by
  unfold nmOk at h
  simp only [Bool.and_eq_true, List.all_eq_true] at h
  have := h.1 x hx
  simpa [twice] using this
theorem find_in_ok {p : Pg} (h : nmOk p = true) (i : Nat) (hi : i < p.ins.length) : findT (thingsL p) p.ins[i].name = some (-1, p.ins[i]) := by
  have hl : thingsL p = (insL p).take i ++ (-1, p.ins[i]) :: ((insL p).drop (i + 1) ++ flowsL p) := by
    have := insL_succ p i hi
    unfold thingsL
    conv => lhs; rw [← List.take_append_drop (i + 1) (insL p), this]
    simp
  exact find_once (x := (-1, p.ins[i])) hl (once h (by rw [hl]; simp))
theorem find_flow_ok {p : Pg} (h : nmOk p = true) (i : Nat) (hi : i < p.flows.length) : findT (thingsL p) p.flows[i].name = some ((i : Int), p.flows[i].hd) := by
  have hl : thingsL p = (insL p ++ (flowsL p).take i) ++ ((i : Int), p.flows[i].hd) :: (flowsL p).drop (i + 1) := by
    have := flowsL_succ p i hi
    unfold thingsL
    conv => lhs; rw [← List.take_append_drop (i + 1) (flowsL p), this]
    simp
  exact find_once (x := ((i : Int), p.flows[i].hd)) hl (once h (by rw [hl]; simp))
theorem find_asked_ok {p : Pg} (h : nmOk p = true) {s : ByteArray} (hs : s ∈ askedL p) : ∃ x, findT (thingsL p) s = some x := by
  unfold nmOk at h
  simp only [Bool.and_eq_true, List.all_eq_true] at h
  have := h.2.1 s hs
  exact find_some (by simpa [none_] using this)
theorem find_out_ok {p : Pg} (h : nmOk p = true) {s : ByteArray} (hs : s ∈ p.outs) : ∃ x, findT (thingsL p) s = some x := by
  unfold nmOk at h
  simp only [Bool.and_eq_true, List.all_eq_true] at h
  have := h.2.2 s hs
  refine find_some ?_
  simp [none_] at this
  exact this.1
theorem asked_mem {p : Pg} {i : Nat} (hi : i < p.flows.length) {k : Nat} (hk : k < (gat 32 p.flows[i].body 0 []).length) : (gat 32 p.flows[i].body 0 [])[k].1 ∈ askedL p :=
  List.mem_flatMap.2 ⟨p.flows[i], List.getElem_mem hi, List.mem_map.2 ⟨_, List.getElem_mem hk, rfl⟩⟩
end Go.Proofs.YtmlapodhpinhmaaDoor.Lex
namespace Go.Proofs.YtmlapodhpinhmaaDoor.Lex
theorem find_of_asked {p : Pg} (h : nmOk p = true) {s : ByteArray} (hs : s ∈ askedL p) : ∃ x, findT (thingsL p) s = some x := by
  unfold nmOk at h
  simp only [Bool.and_eq_true, List.all_eq_true] at h
  have h1 := h.2.1 s hs
  unfold none_ at h1
  exact find_some (by simpa using h1)
theorem sane {p : Pg} (hE : nmErr p = 0) : Sane p.flows.length (allL p) := by
  obtain ⟨_, hn⟩ := nmErr_zero hE
  refine ⟨allL_ok (nm_chk hE), fun x hx hof => ?_⟩
  obtain ⟨k, hk, hx⟩ := List.mem_flatMap.1 hx
  have hkl := List.mem_range.1 hk
  rw [wishL_at hkl] at hx
  obtain ⟨r, hr, rfl⟩ := List.mem_map.1 hx
  have hask : r.1 ∈ askedL p := List.mem_flatMap.2 ⟨p.flows[k], List.getElem_mem hkl, List.mem_map.2 ⟨r, hr, rfl⟩⟩
  obtain ⟨y, hy⟩ := find_of_asked hn hask
  have hof : plO (findT (thingsL p) r.1) = k := hof
  show (if stO (findT (thingsL p) r.1) = p.flows[k].st then 0 else 1) = 0
  rw [hy] at hof ⊢
  have h1 : y.1 = (k : Int) := hof
  have hm := List.mem_of_find?_eq_some hy
  have h2 : y.2 = p.flows[k].hd := by
    rcases List.mem_append.1 hm with hm | hm
    · obtain ⟨z, _, rfl⟩ := List.mem_map.1 hm
      have : (-1 : Int) = (k : Int) := h1
      omega
    · obtain ⟨i, hi, rfl⟩ := List.mem_map.1 hm
      have : i = k := by have : (i : Int) = (k : Int) := h1; omega
      subst this
      show (p.flows[i]?.map Fl.hd).getD _ = _
      rw [List.getElem?_eq_getElem hkl]; rfl
  rw [if_pos (show stO (some y) = p.flows[k].st by show y.2.st = _; rw [h2])]
/-- What is told may be. -/
theorem of_late {p : Pg} {l : List Int} (hE : nmErr p = 0) (h : ofL p = some l) (hf : Fine l) : lateOk p l = true ∧ l.length = p.flows.length ∧ Tight (allL p) l ∧ (∀ m, m.length = p.flows.length → Sol (allL p) m → Leq l m) := by
  obtain ⟨h1, h2, h3, h4⟩ := leaF_inv (sane hE) _ _ _ h List.length_replicate (Tight.zeros _ _)
  refine ⟨?_, h2, h1, fun m _ hm => h4 m hm (Leq.zeros hm.1 _)⟩
  unfold lateOk agesOk
  rw [hE, h2, hf.out]
  simp only [decide_true, Bool.true_and, Bool.not_false, List.all_eq_true, decide_eq_true_eq]
  exact h3
/-- Each Age of what is asked for is there, and at least 0. -/
theorem age_there {p : Pg} {l : List Int} (hl : lateOk p l = true) {i : Nat} (hi : i < p.flows.length) {r : Rf} (hr : r ∈ gat 32 p.flows[i].body 0 []) : ∃ a : Int, ageF p l i r.1 r.2 = (a, 0) ∧ 0 ≤ a := by
  have hx : mkW p i p.flows[i].st r ∈ wishL p i := by rw [wishL_at hi]; exact List.mem_map.2 ⟨r, hr, rfl⟩
  have hlo := hl
  unfold lateOk agesOk at hlo
  simp only [Bool.and_eq_true, List.all_eq_true, decide_eq_true_eq] at hlo
  unfold ageF
  rw [if_pos ⟨hl, by omega, by omega⟩]
  show ∃ a : Int, ageO l ((wishL p (i : Int).toNat).find? _) = (a, 0) ∧ 0 ≤ a
  rw [Int.toNat_natCast]
  cases e : (wishL p i).find? (isRf r.1 r.2) with
  | none =>
    have := (List.find?_eq_none.1 e) _ hx
    exact (this (by unfold isRf mkW; simp)).elim
  | some x => exact ⟨ageV l x, rfl, hlo.2.2.2 x (List.mem_flatMap.2 ⟨i, List.mem_range.2 hi, List.mem_of_find?_eq_some e⟩)⟩
/-- With one less late, and others as they are, or later, flows may not be. -/
theorem less_not {p : Pg} {l o : List Int} (hE : nmErr p = 0) (ht : Tight (allL p) l) (hlen : l.length = p.flows.length) {i : Nat} (hi : i < l.length) (hlo : o.length = l.length) (h1 : lateAt o i = lateAt l i - 1) (h2 : ∀ j : Nat, j ≠ i → lateAt l j ≤ lateAt o j) : lateOk p o = false := by
  rcases ht i hi with h0 | ⟨x, hx, hxf, hxo, ha⟩
  · have ho : anyOut o = true := by
      unfold anyOut
      rw [List.any_eq_true]
      refine ⟨o[i], List.getElem_mem _, ?_⟩
      have := lateAt_nat o i (by omega)
      unfold outB
      rw [← this, h1, h0]
      rfl
    unfold lateOk
    rw [ho]
    simp
  · have hs := (sane hE).ok x hx
    have hag : agesOk p o = false := by
      unfold agesOk
      rw [List.all_eq_false]
      refine ⟨x, hx, ?_⟩
      have : ageV o x < 0 := by
        unfold ageV at ha ⊢
        rw [hxf] at ha ⊢
        rw [h1]
        split at ha
        · rename_i h3
          rw [if_pos h3]
          have h4 := h2 x.of.toNat (fun e => hxo (by omega))
          rw [Int.toNat_of_nonneg h3] at h4
          omega
        · rename_i h3
          rw [if_neg h3]
          omega
      simp
      omega
    unfold lateOk
    rw [hag]
    simp
end Go.Proofs.YtmlapodhpinhmaaDoor.Lex
namespace Go.Proofs.YtmlapodhpinhmaaDoor.Lex
open Go.ChangeShapes Go.WideShapes Go.ChangeAt Go.RowKit Go.Joins
def ints (l : List Int) : List Value := l.map (Value.int .i64)
theorem ints_len (l : List Int) : (ints l).length = l.length := by simp [ints]
theorem ints_set (l : List Int) (i : Nat) (x : Int) : ints (l.set i x) = (ints l).set i (.int .i64 x) := by simp [ints, List.map_set]
theorem ints_at (l : List Int) (i : Nat) (h : i < l.length) : (ints l)[i]? = some (.int .i64 (lateAt l i)) := by rw [lateAt_nat l i h]; simp [ints, h]
theorem own_set {e : TypeId} {w : World} {lo n : Nat} {v : Value} {xs : List Value} (h : w.ownsRow lo e 1 v n xs) {b c i : Nat} (hv : v = .slice (some ⟨b, 0, none⟩) n c) (x : Value) : (w.setCell ⟨b, i, none⟩ x).ownsRow lo e 1 v n (xs.set i x) := by
  obtain ⟨h1, ⟨h2, _⟩ | ⟨g, cap, cur, e2, hg, hr, hc, hm, hs, ht⟩⟩ := h
  · rw [h2] at hv; cases hv
  · rw [hv] at e2
    injection e2 with e3 _ e4
    injection e3 with e3
    injection e3 with e3
    subst e3 e4
    refine ⟨by rw [List.length_set]; exact h1, .inr ⟨b, c, cur.setIfInBounds i x, hv, hg, set_same' hr i x, hc, hm, by simpa using hs, ?_⟩⟩
    rw [← ht]
    simp [List.take_set]
/-- A row of numbers in a block of its own, from some block on. -/
def OwI (w : World) (lo : Nat) (v : Value) (l : List Int) : Prop := w.ownsRow lo 3 1 v l.length (ints l)
theorem OwI.put {w : World} {lo b c : Nat} {l : List Int} (h : OwI w lo (.slice (some ⟨b, 0, none⟩) l.length c) l) (i : Nat) (z : Int) : OwI (w.setCell ⟨b, i, none⟩ (.int .i64 z)) lo (.slice (some ⟨b, 0, none⟩) l.length c) (l.set i z) := by
  have := own_set (i := i) h rfl (.int .i64 z)
  unfold OwI
  rw [ints_set, List.length_set]
  exact this
theorem OwI.step {w w' : World} {lo : Nat} {v : Value} {l : List Int} (h : OwI w lo v l) (hb : Below w.heap.size w w') : OwI w' lo v l := own_same h (fun b e => hb.block b (World.ownsRow.lt h b e).2)
theorem OwI.cell {w : World} {lo b c : Nat} {l : List Int} (h : OwI w lo (.slice (some ⟨b, 0, none⟩) l.length c) l) (i : Nat) (hi : i < l.length) : w.cell? ⟨b, i, none⟩ = some (.int .i64 (lateAt l i)) ∧ w.frozen? ⟨b, i, none⟩ = false := by
  obtain ⟨h1, ⟨h2, _⟩ | ⟨g, cap, cur, e2, hg, hr, hc, hm, hs, ht⟩⟩ := h
  · cases h2
  · injection e2 with e3 _ e4
    injection e3 with e3
    injection e3 with e3
    subst e3 e4
    refine ⟨?_, by unfold World.frozen?; rw [hr]; rfl⟩
    rw [cell_of_row _ _ _ _ 3 (0, 0) hr]
    have := congrArg (·[i]?) ht
    simp only [List.getElem?_take, ints_at l i hi] at this
    rw [if_pos (by omega)] at this
    simpa using this
theorem OwI.at {w : World} {lo : Nat} {v : Value} {l : List Int} (h : OwI w lo v l) (hl : l.length ≤ 1000000) : IAt w l v := by
  obtain ⟨h1, ⟨h2, h3⟩ | ⟨g, cap, cur, e2, hg, hr, hc, hm, hs, ht⟩⟩ := h
  · exact ⟨none, 0, by rw [h2, h3], ⟨by omega, by omega⟩, .inl h3⟩
  · subst e2
    refine ⟨_, cap, rfl, ⟨hc, by omega⟩, .inr ⟨g, 0, rfl, fun i hi => ?_⟩⟩
    rw [Nat.zero_add, cell_of_row _ _ _ _ 3 (0, 0) hr]
    have := congrArg (·[i]?) ht
    simp only [List.getElem?_take, ints_at l i hi] at this
    rw [if_pos (by omega), lateAt_nat l i hi] at this
    simpa using this
end Go.Proofs.YtmlapodhpinhmaaDoor.Lex
