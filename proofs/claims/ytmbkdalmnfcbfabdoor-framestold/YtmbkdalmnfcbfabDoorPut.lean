/-
  (*Writer).Put: the numbers that it takes, those that it refuses, and a writer that is not there.
-/
import Derived.Test.YtmbkdalmnfcbfabDoorNum
namespace Go.Proofs.YtmbkdalmnfcbfabDoor.Bits
open Go.ChangeShapes Go.WideShapes Go.ChangeAt Go.RowKit Go.Shelf
attribute [local go_sem] Oper.semAt_some
/-- A writer: the pointer a, its row r, the slice v of its bytes, its bits L. -/
structure Wr (w : World) (a r : Nat) (v : Value) (L : List Bool) : Prop where
  ptr : w.heap[a]? = some (.cells #[.pointer (some ⟨r, 0, none⟩)] 79 (0, 0))
  row : Row w r v L
theorem there_yes (a r : Nat) (w : World) (hp : w.heap[a]? = some (.cells #[.pointer (some ⟨r, 0, none⟩)] 79 (0, 0))) :
    Calls Tryd.prog 34 #[.pointer (some ⟨a, 0, none⟩)] w fun e w' => e = .returned (.bool true) ∧ w' = w := by
  have hc : w.cell? ⟨a, 0, none⟩ = some (.pointer (some ⟨r, 0, none⟩)) := by simp [World.cell?, hp]
  go_enter Tryd.func34, Tryd.ntmps34
  go_wp2
  go_ret
  exact ⟨rfl, rfl⟩
theorem there_nil (w : World) :
    Calls Tryd.prog 34 #[.pointer none] w fun e w' => e = .returned (.bool false) ∧ w' = w := by
  go_enter Tryd.func34, Tryd.ntmps34
  go_wp2
  go_ret
  exact ⟨rfl, rfl⟩
theorem there_zero (a : Nat) (w : World) (hp : w.heap[a]? = some (.cells #[.pointer none] 79 (0, 0))) :
    Calls Tryd.prog 34 #[.pointer (some ⟨a, 0, none⟩)] w fun e w' => e = .returned (.bool false) ∧ w' = w := by
  have hc : w.cell? ⟨a, 0, none⟩ = some (.pointer none) := by simp [World.cell?, hp]
  go_enter Tryd.func34, Tryd.ntmps34
  go_wp2
  go_ret
  exact ⟨rfl, rfl⟩
theorem isWidth (k : Int) (w : World) :
    Calls Tryd.prog 25 #[.int .i64 k] w fun e w' => e = .returned (.bool (decide (0 ≤ k ∧ k ≤ 64))) ∧ w' = w := by
  by_cases h0 : 0 ≤ k
  · by_cases h1 : k ≤ 64
    · go_enter Tryd.func25, Tryd.ntmps25
      go_wp2
      go_ret
      simp; omega
    · go_enter Tryd.func25, Tryd.ntmps25
      go_wp2
      go_ret
      simp [h1]
  · go_enter Tryd.func25, Tryd.ntmps25
    go_wp2
    go_ret
    simp; omega
theorem ofNumber (N k : Int) (w : World) :
    Calls Tryd.prog 35 #[.int .u64 N, .int .i64 k] w fun e w' => e = .returned (.func (.func 40) #[] #[.pointer (some ⟨w.heap.size + 1, 0, none⟩), .pointer (some ⟨w.heap.size, 0, none⟩)]) ∧
      w' = (w.alloc (.cells #[.int .u64 N] 33)).alloc (.cells #[.int .i64 k] 3) := by
  have hmf : ∀ (fn : Fn) (first cap : Array Value) (w : World), (Instr.makeFunc fn first cap).run Tryd.prog w = .ok (.func fn first cap) w := fun _ _ _ _ => rfl
  go_enter Tryd.func35, Tryd.ntmps35
  go_wp2
  go_ret
  simp
theorem Put.alloc {r : Nat} {v v' : Value} {w w' : World} (h : Put r v v' w w') (o : Obj) : Put r v v' w (w'.alloc o) :=
  ⟨h.os, h.tape, h.output, by have := h.size; rw [World.size_alloc]; omega, fun k hk hkr hkv => by rw [Below.heap_alloc _ _ _ (Nat.lt_of_lt_of_le hk h.size), h.block k hk hkr hkv], h.where_⟩
theorem Row.grown {w w' : World} {r : Nat} {v : Value} {L : List Bool} {x : Option Nat} (h : Row w r v L) (hg : w.grownBy w' x) (hr : some r ≠ x) (hv : v.ownBlock = none ∨ v.ownBlock ≠ x) : Row w' r v L :=
  ⟨(hg.block r (Array.getElem?_eq_some_iff.1 h.row).1 hr).trans h.row, h.own.kept hg hv⟩
theorem Wr.alloc {w : World} {a r : Nat} {v : Value} {L : List Bool} (h : Wr w a r v L) (o : Obj) : Wr (w.alloc o) a r v L :=
  ⟨(Below.heap_alloc _ _ _ (Array.getElem?_eq_some_iff.1 h.ptr).1).trans h.ptr, h.row.grown (World.grownBy_alloc w o none) (by simp) (by cases v.ownBlock <;> simp)⟩
theorem cells_ne {X : World} {B b : Nat} {row : Option Nat} {c : Array Value} {t : TypeId} {f : Nat × Nat} (h : X.heap[b]? = some (.cells c t f)) (hr : ∀ r, row = some r → B ≤ r ∧ ∃ o : Obj, X.heap[r]? = some o ∧ o.isCells = false) : some b ≠ row := by
  intro e
  obtain ⟨_, o, ho, hc⟩ := hr b e.symm
  rw [h] at ho
  cases ho
  cases hc
theorem Row.own_ne {X : World} {B r : Nat} {row : Option Nat} {v : Value} {L : List Bool} (h : Row X r v L) (hr : ∀ r, row = some r → B ≤ r ∧ ∃ o : Obj, X.heap[r]? = some o ∧ o.isCells = false) : v.ownBlock = none ∨ v.ownBlock ≠ row := by
  rcases h.own.2 with ⟨rfl, _⟩ | ⟨g, cap, cur, rfl, _, hgb, _⟩
  · exact .inl rfl
  · exact .inr (cells_ne hgb hr)
theorem Wr.turned {X Y : World} {B a r : Nat} {v : Value} {L : List Bool} {row : Option Nat} (h : Wr X a r v L) (hg : X.grownBy Y row) (hr : ∀ r, row = some r → B ≤ r ∧ ∃ o : Obj, X.heap[r]? = some o ∧ o.isCells = false) : Wr Y a r v L :=
  ⟨(hg.block a (Array.getElem?_eq_some_iff.1 h.ptr).1 (cells_ne h.ptr hr)).trans h.ptr, h.row.grown hg (cells_ne h.row.row hr) (h.row.own_ne hr)⟩
theorem Put.grown {r : Nat} {v v' : Value} {w X Y : World} {row : Option Nat} (h : Put r v v' w X) (hg : X.grownBy Y row) (hr : ∀ k, row = some k → w.heap.size ≤ k) : Put r v v' w Y :=
  ⟨hg.os.trans h.os, hg.tape.trans h.tape, hg.output.trans h.output, Nat.le_trans h.size hg.size, fun k hk hkr hkv => by
    rw [hg.block k (Nat.lt_of_lt_of_le hk h.size) (fun e => by have := hr k e.symm; omega), h.block k hk hkr hkv], h.where_⟩
/-- What a Put leaves of blocks that are neither the row nor its bytes. -/
theorem Put.keeps {r a : Nat} {v v' : Value} {L : List Bool} {w w' : World} (h : Put r v v' w w') (hW : Wr w a r v L) : KeepsOthers w w' :=
  ⟨h.size, fun k o hk ho => (h.block k (Array.getElem?_eq_some_iff.1 hk).1 (fun e => by subst e; rw [hW.row.row] at hk; cases hk; cases ho) (fun e => by
    rcases hW.row.own.2 with ⟨rfl, _⟩ | ⟨g, cap, cur, rfl, _, hgb, _⟩
    · simp [Value.ownBlock] at e
    · simp only [Value.ownBlock, Option.some.injEq] at e
      subst e
      rw [hgb] at hk; cases hk; cases ho)).trans hk⟩
theorem Wr.step {w w' : World} {a r : Nat} {v v' : Value} {L L' : List Bool} (h : Wr w a r v L) (hR : Row w' r v' L') (hP : Put r v v' w w') : Wr w' a r v' L' := by
  refine ⟨(hP.block a (Array.getElem?_eq_some_iff.1 h.ptr).1 ?_ ?_).trans h.ptr, hR⟩
  · rintro rfl
    have := h.ptr.symm.trans h.row.row
    simp at this
  · intro e
    rcases h.row.own.2 with ⟨rfl, _⟩ | ⟨g, cap, cur, rfl, _, hgb, _⟩
    · simp [Value.ownBlock] at e
    · simp only [Value.ownBlock, Option.some.injEq] at e
      subst e
      have := h.ptr.symm.trans hgb
      simp at this
theorem Row.own_lt {w : World} {r : Nat} {v : Value} {L : List Bool} (h : Row w r v L) {g : Nat} (e : v.ownBlock = some g) : g < w.heap.size := (h.own.lt g e).2
theorem put_ok (a r : Nat) (v : Value) (L : List Bool) (N k : Nat) (w : World) (hW : Wr w a r v L) (hk : k ≤ 64) (hN : N < 2 ^ k) (hL : L.length + k < 1099511627776) :
    Calls Tryd.prog 23 #[.pointer (some ⟨a, 0, none⟩), .int .u64 (N : Int), .int .i64 (k : Int)] w fun e w' => e = .returned (.int .i64 0) ∧ ∃ v', Wr w' a r v' (L ++ bitsOf N k) ∧ Put r v v' w w' := by
  have hN64 : N < 2 ^ 64 := Nat.lt_of_lt_of_le hN (Nat.pow_le_pow_right (by decide) hk)
  have hwid : decide ((0 : Int) ≤ (k : Int) ∧ (k : Int) ≤ 64) = true := by simp; omega
  have hdiv : (N : Int) / 2 ^ k = 0 := by
    have e : (N : Int) / 2 ^ k = ((N / 2 ^ k : Nat) : Int) := by simp
    rw [e, Nat.div_eq_of_lt hN]; rfl
  have hp := hW.ptr
  have h20 : Fence.wide.fn 25 := trivial
  have h22 : Fence.wide.fn 34 := trivial
  have h23 : Fence.wide.fn 35 := trivial
  have h24 : Fence.wide.fn 36 := trivial
  refine (callsIn_wide (n := 3)).1 ?_
  refine callsIn_of_wp_marks Tryd.func23 rfl trivial ?_ rfl
  simp only [Tryd.ntmps23, List.size_toArray, List.length_cons, List.length_nil, Nat.reduceAdd, Nat.reduceSub, Array.replicate_succ, Array.replicate_zero, List.push_toArray, List.append_toArray, List.nil_append, List.cons_append]
  gi_wp2_with (first | (gi_at_call 34; refine (callsIn_wide.2 (there_yes a r _ (hW.alloc _).ptr)).mono ?_; rintro e w' ⟨rfl, rfl⟩) | (gi_at_call 25; refine (callsIn_wide.2 (isWidth _ _)).mono ?_; rintro e w' ⟨rfl, rfl⟩; rw [hwid]) | (gi_at_call 35; refine (callsIn_wide.2 (ofNumber _ _ _)).mono ?_; rintro e w' ⟨rfl, rfl⟩))
  have hW0 : Wr (((w.alloc (Obj.cells #[Value.pointer (some ⟨a, 0, none⟩)] 59)).alloc (Obj.cells #[Value.int .u64 N] 33)).alloc (Obj.cells #[Value.int .i64 k] 3)) a r v L := ((hW.alloc _).alloc _).alloc _
  have hP0 : Put r v v w (((w.alloc (Obj.cells #[Value.pointer (some ⟨a, 0, none⟩)] 59)).alloc (Obj.cells #[Value.int .u64 N] 33)).alloc (Obj.cells #[Value.int .i64 k] 3)) := (((Put.refl r v w).alloc _).alloc _).alloc _
  have b0 : Boxed (((w.alloc (Obj.cells #[Value.pointer (some ⟨a, 0, none⟩)] 59)).alloc (Obj.cells #[Value.int .u64 N] 33)).alloc (Obj.cells #[Value.int .i64 k] 3)) w.heap.size 59 (.pointer (some ⟨a, 0, none⟩)) := ((Boxed.new w 59 _).alloc _).alloc _
  have b1 : Boxed (((w.alloc (Obj.cells #[Value.pointer (some ⟨a, 0, none⟩)] 59)).alloc (Obj.cells #[Value.int .u64 N] 33)).alloc (Obj.cells #[Value.int .i64 k] 3)) (w.heap.size + 1) 33 (.int .u64 N) := by
    have := Boxed.new (w.alloc (Obj.cells #[Value.pointer (some ⟨a, 0, none⟩)] 59)) 33 (.int .u64 N)
    rw [World.size_alloc] at this
    exact this.alloc _
  have b2 : Boxed (((w.alloc (Obj.cells #[Value.pointer (some ⟨a, 0, none⟩)] 59)).alloc (Obj.cells #[Value.int .u64 N] 33)).alloc (Obj.cells #[Value.int .i64 k] 3)) (w.heap.size + 1 + 1) 3 (.int .i64 k) := by
    have := Boxed.new ((w.alloc (Obj.cells #[Value.pointer (some ⟨a, 0, none⟩)] 59)).alloc (Obj.cells #[Value.int .u64 N] 33)) 3 (.int .i64 k)
    rw [World.size_alloc, World.size_alloc] at this
    exact this
  have hs0 : (((w.alloc (Obj.cells #[Value.pointer (some ⟨a, 0, none⟩)] 59)).alloc (Obj.cells #[Value.int .u64 N] 33)).alloc (Obj.cells #[Value.int .i64 k] 3)).heap.size = w.heap.size + 3 := by simp
  obtain ⟨W0, hW0e⟩ : ∃ W0, (((w.alloc (Obj.cells #[Value.pointer (some ⟨a, 0, none⟩)] 59)).alloc (Obj.cells #[Value.int .u64 N] 33)).alloc (Obj.cells #[Value.int .i64 k] 3)) = W0 := ⟨_, rfl⟩
  rw [hW0e] at hW0 hP0 b0 b1 b2 hs0 ⊢
  clear hW0e
  have hrl : r < w.heap.size := (Array.getElem?_eq_some_iff.1 hW.row.row).1
  refine wpIn_rangeFunc_ownG rfl (by decide) (gf := 40) (lb := #[.pointer (some ⟨w.heap.size + 1 + 1, 0, none⟩), .pointer (some ⟨w.heap.size + 1, 0, none⟩)]) rfl trivial (enters_of Tryd.func40 (by kernel_rfl) rfl)
    (encs := fun x : Bool => #[Value.int .u8 (x.toNat : Int)]) (Kp := Kept (fun b => b = w.heap.size + 1 + 1 ∨ b = w.heap.size + 1)) (S := fun ys => ys = bitsOf N k) (Sp := fun _ => True) (N := k) (w0 := W0)
    (fun l J Jx W hBW _ _ hY h0 => ofNum1 _ _ trivial rfl (by decide) l _ _ N k hk hN64 J Jx hY W ((hBW.cell (p := ⟨w.heap.size + 1 + 1, 0, none⟩) b2.lt).trans b2.cell) ((hBW.cell (p := ⟨w.heap.size + 1, 0, none⟩) b1.lt).trans b1.cell) h0)
    (fun h k b hb => (k b hb).trans (h b hb)) ?hKb (Below.refl _ _) (fun _ => rfl)
    (fun pre W => ∃ v', Wr W a r v' (L ++ pre) ∧ Put r v v' W0 W ∧ Boxed W w.heap.size 59 (.pointer (some ⟨a, 0, none⟩)))
    (fun _ _ _ => False) ?hI (fun _ _ _ _ _ hs _ _ => hs) ⟨v, by rw [List.append_nil]; exact hW0, Put.refl _ _ _, b0⟩
    (fun x => { tmps := #[Value.pointer (some ⟨a, 0, none⟩), Value.int .u64 N, Value.int .i64 k, Value.pointer (some ⟨w.heap.size, 0, none⟩), undef, undef, Value.int .i64 0, Value.int .u8 (x.toNat : Int),
      Value.pointer (some ⟨a, 0, none⟩), Value.bool true, Value.bool false, Value.int .i64 k, Value.bool true, Value.bool false, Value.bool false, Value.int .u64 N, Value.int .i64 k,
      Value.int .u64 0, Value.bool false, Value.bool false, Value.int .u64 N, Value.int .i64 k,
      Value.func (Fn.func 40) #[] #[Value.pointer (some ⟨w.heap.size + 1 + 1, 0, none⟩), Value.pointer (some ⟨w.heap.size + 1, 0, none⟩)],
      Value.int .u8 (x.toNat : Int), undef, undef, undef, undef, undef, undef], defers := [] }) ?assign ?body ?done ?stop
  case hKb =>
    intro W l o o' hl _ _ _ b hb
    exact World.putObj_heap_other (by omega)
  case hI =>
    rintro pre X Y row ⟨v', hw, hp', hb⟩ hg hrow
    exact ⟨v', hw.turned hg hrow, hp'.grown hg (fun k e => (hrow k e).1), hb.kept hg (cells_ne hb hrow)⟩
  case assign =>
    intro l x W K hK
    gi_wp2
    exact hK
  case body =>
    rintro l pre x W ⟨v', hw, hp', hb⟩ hlt
    have hc := hb.cell
    have hp := hw.ptr
    have hca : W.cell? ⟨a, 0, none⟩ = some (.pointer (some ⟨r, 0, none⟩)) := by simp [World.cell?, hp]
    gi_wp2_with (gi_at_call 36; refine (CallsIn.inRound l (callsIn_wide.2 (add r v' x (L ++ pre) _ hw.row (by simp; omega)))).mono ?_; rintro e W' ⟨⟨u, rfl⟩, v2, hR2, hP2⟩)
    have hkeep : ∀ b, w.heap.size ≤ b → b < w.heap.size + 3 → W'.heap[b]? = W.heap[b]? := fun b h1 h2 => by
      refine hP2.block b (by have := hp'.size; omega) (by omega) (fun e => ?_)
      rcases hp'.where_ with e' | ⟨g, e', hg⟩
      · have := hW.row.own_lt (e'.symm.trans e.symm); omega
      · rw [e'] at e; cases e; omega
    exact ⟨(hP2.keeps hw).from _, fun b hb' => hkeep b (by omega) (by omega), v2, by rw [← List.append_assoc]; exact hw.step hR2 hP2, hp'.trans hP2, (hkeep _ (Nat.le_refl _) (by omega)).trans hb⟩
  case done =>
    rintro D ys W hD rfl ⟨v', hw, hp', hb⟩ hK
    gi_wp2
    refine ⟨by simp, .inl ⟨_, _, rfl, run_takeDeferred hK, ?_⟩⟩
    have hrow : ∀ k, some D = some k → W0.heap.size ≤ k ∧ ∃ o : Obj, W.heap[k]? = some o ∧ o.isCells = false := fun k e => by cases e; exact ⟨hD, _, hK, rfl⟩
    refine ⟨_, results_tmp rfl _ _ _, rfl, v', hw.turned (grownBy_putObj' W D _) hrow, (hP0.trans hp').grown (grownBy_putObj' W D _) (fun k e => by cases e; have := hP0.size; omega)⟩
  case stop =>
    rintro D c pre W _ _ h _
    exact h.elim
/-- A number that it refuses. -/
theorem put_bad (a r : Nat) (v : Value) (L : List Bool) (N : Nat) (k : Int) (w : World) (hW : Wr w a r v L) (hb : ¬ (0 ≤ k ∧ k ≤ 64) ∨ ∃ q : Nat, k = q ∧ q ≤ 64 ∧ 2 ^ q ≤ N) :
    Calls Tryd.prog 23 #[.pointer (some ⟨a, 0, none⟩), .int .u64 (N : Int), .int .i64 k] w fun e w' => e = .returned (.int .i64 1) ∧ ∃ o, w' = w.alloc o := by
  rcases hb with hb | ⟨q, rfl, hq, hN⟩
  · have hwid : decide (0 ≤ k ∧ k ≤ 64) = false := by simp only [decide_eq_false_iff_not]; exact hb
    clear hb
    go_enter Tryd.func23, Tryd.ntmps23
    go_wp2_with (first | (go_at_call 34; refine (there_yes a r _ (hW.alloc _).ptr).mono ?_; rintro e w' ⟨rfl, rfl⟩) | (go_at_call 25; refine (isWidth _ _).mono ?_; rintro e w' ⟨rfl, rfl⟩; rw [hwid]))
    go_ret
    exact ⟨rfl, _, rfl⟩
  · have hwid : decide ((0 : Int) ≤ (q : Int) ∧ (q : Int) ≤ 64) = true := by simp; omega
    have hdiv : ((N : Int) / 2 ^ q != 0) = true := by
      have e : (N : Int) / 2 ^ q = ((N / 2 ^ q : Nat) : Int) := by simp
      have := Nat.div_pos hN (Nat.two_pow_pos q)
      rw [e]
      simp only [bne_iff_ne, ne_eq]
      omega
    have hqi : (q : Int) < 64 ∨ q = 64 := by omega
    clear hN
    go_enter Tryd.func23, Tryd.ntmps23
    go_wp2_with (first | (go_at_call 34; refine (there_yes a r _ (hW.alloc _).ptr).mono ?_; rintro e w' ⟨rfl, rfl⟩) | (go_at_call 25; refine (isWidth _ _).mono ?_; rintro e w' ⟨rfl, rfl⟩; rw [hwid]))
    go_ret
    exact ⟨rfl, _, rfl⟩
/-- A writer that is not there. -/
theorem put_nil (n k : Int) (w : World) :
    Calls Tryd.prog 23 #[.pointer none, .int .u64 n, .int .i64 k] w fun e w' => e = .returned (.int .i64 2) ∧ ∃ o, w' = w.alloc o := by
  go_enter Tryd.func23, Tryd.ntmps23
  go_wp2_with (go_at_call 34; refine (there_nil _).mono ?_; rintro e w' ⟨rfl, rfl⟩)
  go_ret
  exact ⟨rfl, _, rfl⟩
/-- A writer that no call made. -/
theorem put_zero (a : Nat) (n k : Int) (w : World) (hp : w.heap[a]? = some (.cells #[.pointer none] 79 (0, 0))) :
    Calls Tryd.prog 23 #[.pointer (some ⟨a, 0, none⟩), .int .u64 n, .int .i64 k] w fun e w' => e = .returned (.int .i64 2) ∧ ∃ o, w' = w.alloc o := by
  go_enter Tryd.func23, Tryd.ntmps23
  go_wp2_with (go_at_call 34; refine (there_zero a _ ((Below.heap_alloc _ _ _ (Array.getElem?_eq_some_iff.1 hp).1).trans hp)).mono ?_; rintro e w' ⟨rfl, rfl⟩)
  go_ret
  exact ⟨rfl, _, rfl⟩
end Go.Proofs.YtmbkdalmnfcbfabDoor.Bits
