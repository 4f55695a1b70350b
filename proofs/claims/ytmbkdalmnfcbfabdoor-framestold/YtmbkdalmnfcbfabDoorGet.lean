/-
  bits.Get: the number that bits of bytes tell, and what it refuses.
-/
import Derived.Test.YtmbkdalmnfcbfabDoorTake
namespace Go.Proofs.YtmbkdalmnfcbfabDoor.Bits
open Go.ChangeShapes Go.WideShapes Go.ChangeAt Go.RowKit Go.Shelf
attribute [local go_sem] Oper.semAt_some
theorem ofBytes (s : Option Addr) (len cap : Nat) (at_ k : Int) (w : World) :
    Calls Tryd.prog 26 #[.slice s len cap, .int .i64 at_, .int .i64 k] w fun e w' => e = .returned (.func (.func 37) #[] #[.pointer (some ⟨w.heap.size + 1, 0, none⟩), .pointer (some ⟨w.heap.size + 1 + 1, 0, none⟩), .pointer (some ⟨w.heap.size, 0, none⟩)]) ∧
      w' = ((w.alloc (.cells #[.slice s len cap] 22)).alloc (.cells #[.int .i64 at_] 3)).alloc (.cells #[.int .i64 k] 3) := by
  have hmf : ∀ (fn : Fn) (first cap : Array Value) (w : World), (Instr.makeFunc fn first cap).run Tryd.prog w = .ok (.func fn first cap) w := fun _ _ _ _ => rfl
  go_enter Tryd.func26, Tryd.ntmps26
  go_wp2
  go_ret
  simp
theorem or64 (x y : Nat) (hx : x < 2 ^ 64) (hy : y < 2 ^ 64) : bits .or .u64 (x : Int) (y : Int) = ((x ||| y : Nat) : Int) := by
  show IntKind.u64.wrap ((BitVec.ofInt 64 (x : Int) ||| BitVec.ofInt 64 (y : Int)).toNat : Int) = _
  rw [BitVec.toNat_or, BitVec.toNat_ofInt, BitVec.toNat_ofInt, IntKind.wrap_u64]
  have e1 : ((x : Int) % ((2 ^ 64 : Nat) : Int)).toNat = x := by omega
  have e2 : ((y : Int) % ((2 ^ 64 : Nat) : Int)).toNat = y := by omega
  rw [e1, e2]
  have := Nat.or_lt_two_pow (x := x) (y := y) (n := 64) hx hy
  omega
theorem get_ok (s : Option Addr) (len cap : Nat) (B : List Int) (at_ k : Nat) (w : World) (hE : Elems w s len B) (hk : k ≤ 64) (hr : at_ + k ≤ 8 * len) :
    Calls Tryd.prog 10 #[.slice s len cap, .int .i64 (at_ : Int), .int .i64 (k : Int)] w fun e w' => e = .returned (.tuple #[.int .u64 (val (part B at_ k) : Int), .int .i64 0]) ∧ Below w.heap.size w w' := by
  have hwid : decide ((0 : Int) ≤ (k : Int) ∧ (k : Int) ≤ 64) = true := by simp; omega
  have hlm := hE.2.1
  have h20 : Fence.wide.fn 25 := trivial
  have h21 : Fence.wide.fn 26 := trivial
  have hsum : ¬ ((8 : Int) * (len : Int) < (at_ : Int) + (k : Int)) := by omega
  refine (callsIn_wide (n := 3)).1 ?_
  refine callsIn_of_wp_marks Tryd.func10 rfl trivial ?_ rfl
  simp only [Tryd.ntmps10, List.size_toArray, List.length_cons, List.length_nil, Nat.reduceAdd, Nat.reduceSub, Array.replicate_succ, Array.replicate_zero, List.push_toArray, List.append_toArray, List.nil_append, List.cons_append]
  gi_wp2_with (first | (gi_at_call 25; refine (callsIn_wide.2 (isWidth _ _)).mono ?_; rintro e w2 ⟨rfl, h2⟩; rw [hwid, h2]; clear h2 w2) | (gi_at_call 26; refine (callsIn_wide.2 (ofBytes _ _ _ _ _ _)).mono ?_; rintro e w' ⟨rfl, rfl⟩))
  have hB0 : Below w.heap.size w ((((w.alloc (Obj.cells #[Value.int .u64 0] 33)).alloc (Obj.cells #[Value.slice s len cap] 22)).alloc (Obj.cells #[Value.int .i64 at_] 3)).alloc (Obj.cells #[Value.int .i64 k] 3)) := ((((Below.refl _ w).alloc (Nat.le_refl _) _).alloc (by simp) _).alloc (by simp; omega) _).alloc (by simp; omega) _
  have b0 : Boxed ((((w.alloc (Obj.cells #[Value.int .u64 0] 33)).alloc (Obj.cells #[Value.slice s len cap] 22)).alloc (Obj.cells #[Value.int .i64 at_] 3)).alloc (Obj.cells #[Value.int .i64 k] 3)) w.heap.size 33 (.int .u64 0) := (((Boxed.new w 33 _).alloc _).alloc _).alloc _
  have b1 : Boxed ((((w.alloc (Obj.cells #[Value.int .u64 0] 33)).alloc (Obj.cells #[Value.slice s len cap] 22)).alloc (Obj.cells #[Value.int .i64 at_] 3)).alloc (Obj.cells #[Value.int .i64 k] 3)) (w.heap.size + 1) 22 (.slice s len cap) := by
    have := Boxed.new (w.alloc (Obj.cells #[Value.int .u64 0] 33)) 22 (.slice s len cap)
    rw [World.size_alloc] at this
    exact (this.alloc _).alloc _
  have b2 : Boxed ((((w.alloc (Obj.cells #[Value.int .u64 0] 33)).alloc (Obj.cells #[Value.slice s len cap] 22)).alloc (Obj.cells #[Value.int .i64 at_] 3)).alloc (Obj.cells #[Value.int .i64 k] 3)) (w.heap.size + 1 + 1) 3 (.int .i64 at_) := by
    have := Boxed.new ((w.alloc (Obj.cells #[Value.int .u64 0] 33)).alloc (Obj.cells #[Value.slice s len cap] 22)) 3 (.int .i64 at_)
    rw [World.size_alloc, World.size_alloc] at this
    exact this.alloc _
  have b3 : Boxed ((((w.alloc (Obj.cells #[Value.int .u64 0] 33)).alloc (Obj.cells #[Value.slice s len cap] 22)).alloc (Obj.cells #[Value.int .i64 at_] 3)).alloc (Obj.cells #[Value.int .i64 k] 3)) (w.heap.size + 1 + 1 + 1) 3 (.int .i64 k) := by
    have := Boxed.new (((w.alloc (Obj.cells #[Value.int .u64 0] 33)).alloc (Obj.cells #[Value.slice s len cap] 22)).alloc (Obj.cells #[Value.int .i64 at_] 3)) 3 (.int .i64 k)
    rw [World.size_alloc, World.size_alloc, World.size_alloc] at this
    exact this
  have hs0 : (((((w.alloc (Obj.cells #[Value.int .u64 0] 33)).alloc (Obj.cells #[Value.slice s len cap] 22)).alloc (Obj.cells #[Value.int .i64 at_] 3)).alloc (Obj.cells #[Value.int .i64 k] 3))).heap.size = w.heap.size + 4 := by simp
  obtain ⟨W0, hW0e⟩ : ∃ W0, ((((w.alloc (Obj.cells #[Value.int .u64 0] 33)).alloc (Obj.cells #[Value.slice s len cap] 22)).alloc (Obj.cells #[Value.int .i64 at_] 3)).alloc (Obj.cells #[Value.int .i64 k] 3)) = W0 := ⟨_, rfl⟩
  rw [hW0e] at hB0 b0 b1 b2 b3 hs0 ⊢
  clear hW0e
  have hE0 := hE.below hB0
  have hsb : ∀ b o, s = some ⟨b, o, none⟩ → len = 0 ∨ b < w.heap.size := fun b o e => by
    rcases hE.2.2.2 with h | ⟨b', o', e', hc⟩
    · exact .inl h
    · by_cases h0 : len = 0
      · exact .inl h0
      · rw [e] at e'
        cases e'
        exact .inr (World.block_lt_of_cell? w ⟨b, o + 0, none⟩ (hc 0 (by omega)))
  refine wpIn_rangeFunc_ownG rfl (by decide) (gf := 37) (lb := #[.pointer (some ⟨w.heap.size + 1 + 1, 0, none⟩), .pointer (some ⟨w.heap.size + 1 + 1 + 1, 0, none⟩), .pointer (some ⟨w.heap.size + 1, 0, none⟩)]) rfl trivial (enters_of Tryd.func37 (by kernel_rfl) rfl)
    (encs := fun x : Bool => #[Value.int .u8 (x.toNat : Int)]) (Kp := Kept (fun b => b < w.heap.size + 4 ∧ b ≠ w.heap.size)) (S := fun ys => ys = part B at_ k) (Sp := fun _ => True) (N := k) (w0 := W0)
    (fun l J Jx W hBW _ _ hY h0 => ofBytes1 _ _ trivial rfl (by decide) l _ _ _ (fun b => b < w.heap.size + 4 ∧ b ≠ w.heap.size) ⟨by omega, by omega⟩ ⟨by omega, by omega⟩ ⟨by omega, by omega⟩ s len cap B at_ k hk hr J Jx hY W (hE0.below hBW) (fun b o e => (hsb b o e).imp id fun h => ⟨by omega, by omega⟩)
      ((hBW.cell (p := ⟨w.heap.size + 1 + 1, 0, none⟩) b2.lt).trans b2.cell) ((hBW.cell (p := ⟨w.heap.size + 1 + 1 + 1, 0, none⟩) b3.lt).trans b3.cell) ((hBW.cell (p := ⟨w.heap.size + 1, 0, none⟩) b1.lt).trans b1.cell) h0)
    (fun h k b hb => (k b hb).trans (h b hb)) ?hKb (Below.refl _ _) (fun _ => rfl)
    (fun pre W => Boxed W w.heap.size 33 (.int .u64 (val pre : Int)) ∧ Below w.heap.size w W)
    (fun _ _ _ => False) ?hI (fun _ _ _ _ _ hs _ _ => hs) ⟨b0, hB0⟩
    (fun x => { tmps := #[Value.slice s len cap, Value.int .i64 at_, Value.int .i64 k, undef, undef, undef,
          Value.int .u64 0, Value.int .i64 0, Value.pointer (some ⟨w.heap.size, 0, none⟩),
          Value.int .u8 (x.toNat : Int), Value.int .i64 at_, Value.bool (decide ((at_ : Int) < 0)), Value.bool (decide ((at_ : Int) < 0)),
          Value.int .i64 k, Value.bool true, Value.bool false, Value.bool (decide ((at_ : Int) < 0)),
          Value.int .i64 at_, Value.int .u64 at_, Value.int .i64 k, Value.int .u64 k,
          Value.int .u64 (at_ + k), Value.slice s len cap, Value.int .i64 len,
          Value.int .u64 len, Value.int .u64 (8 * len), Value.bool (decide (8 * (len : Int) < (at_ : Int) + k)),
          Value.slice s len cap, Value.int .i64 at_, Value.int .i64 k,
          Value.func (Fn.func 37) #[] #[.pointer (some ⟨w.heap.size + 1 + 1, 0, none⟩), .pointer (some ⟨w.heap.size + 1 + 1 + 1, 0, none⟩), .pointer (some ⟨w.heap.size + 1, 0, none⟩)],
          Value.int .u8 (x.toNat : Int), undef, undef, undef, undef, undef, undef], defers := [] }) ?assign ?body ?done ?stop
  case hKb =>
    intro W l o o' hl _ _ _ b hb
    exact World.putObj_heap_other (by omega)
  case hI =>
    rintro pre X Y row ⟨hb, hB⟩ hg hrow
    exact ⟨hb.kept hg (cells_ne hb hrow), hB.grown hg hB.size (fun k e => by have := (hrow k e).1; omega)⟩
  case assign =>
    intro l x W K hK
    gi_wp2
    exact hK
  case body =>
    rintro l pre x W ⟨hb, hB⟩ hlt
    have hc := hb.cell
    have hf := hb.frozen
    have hv : 2 * val pre + x.toNat < 2 ^ 64 := by
      have h1 := val_lt (pre ++ [x])
      rw [val_snoc] at h1
      exact Nat.lt_of_lt_of_le h1 (Nat.pow_le_pow_right (by decide) (by simp; omega))
    gi_wp2
    have e : bits BinOp.or IntKind.u64 ((val pre : Int) * 2) (x.toNat : Int) = (val (pre ++ [x]) : Int) := by
      have e1 : (val pre : Int) * 2 = ((2 ^ 1 * val pre : Nat) : Int) := by rw [Int.natCast_mul]; simp; omega
      rw [val_snoc, e1, or64 _ _ (by omega) (by cases x <;> simp), ← Nat.two_pow_add_eq_or_of_lt (by cases x <;> simp)]
    rw [e]
    exact ⟨(KeepsOthers.setCell _ _ _).from _, fun b hb' => heap_set_other _ hb'.2 _ _, hb.set _, hB.setCell (p := ⟨w.heap.size, 0, none⟩) (Nat.le_refl _) _⟩
  case done =>
    rintro D ys W hD rfl ⟨hb, hB⟩ hK
    have hc := hb.cell
    gi_wp2
    refine ⟨by simp, .inl ⟨_, _, rfl, run_takeDeferred hK, ?_⟩⟩
    refine ⟨_, results_tmp2 rfl _ _ _, rfl, hB.trans (belowK_b (w := w) (Nat.le_refl _) W D _ _ (by omega) hK rfl rfl)⟩
  case stop =>
    rintro D c pre W _ _ h _
    exact h.elim
end Go.Proofs.YtmbkdalmnfcbfabDoor.Bits
