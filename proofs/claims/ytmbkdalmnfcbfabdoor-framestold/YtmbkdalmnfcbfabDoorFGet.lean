/-
  frames.Get: the frame that bytes tell, or none.
-/
import Derived.Test.YtmbkdalmnfcbfabDoorFPut
import Derived.Laws.CopyOwn
import Derived.Deep.OwnRows
namespace Go.Proofs.YtmbkdalmnfcbfabDoor.Bits
open Go.ChangeShapes Go.WideShapes Go.ChangeAt Go.RowKit Go.Shelf
def fr0 : Value := .agg #[.int .i64 0, .int .u32 0, .int .u8 0, .int .u16 0, .slice none 0 0]
theorem H5_lt (B : List Int) (i : Nat) : H5 B i < 2 ^ K5 i := by
  have := val_lt (part B (off5 i) (K5 i))
  rwa [part_length] at this
theorem Elems.take {w : World} {s : Option Addr} {len : Nat} {B : List Int} (h : Elems w s len B) (m : Nat) (hm : m ≤ len) : Elems w s m (B.take m) := by
  obtain ⟨h1, h2, h3, h4⟩ := h
  refine ⟨by rw [List.length_take]; omega, by omega, fun i hi => by rw [take_getD _ _ _ hi]; exact h3 i (by omega), ?_⟩
  rcases h4 with h4 | ⟨b, o, ha, hc⟩
  · exact .inl (by omega)
  · exact .inr ⟨b, o, ha, fun i hi => by rw [take_getD _ _ _ hi]; exact hc i (by omega)⟩
theorem row5 {w : World} {b : Nat} {x0 x1 x2 x3 x4 : Value} (h : w.heap[b]? = some (.cells #[x0, x1, x2, x3, x4] 27 (0, 0))) :
    (w.cell? ⟨b, 0, none⟩ = some x0 ∧ w.cell? ⟨b, 1, none⟩ = some x1 ∧ w.cell? ⟨b, 2, none⟩ = some x2 ∧ w.cell? ⟨b, 3, none⟩ = some x3 ∧ w.cell? ⟨b, 4, none⟩ = some x4) ∧
    (w.frozen? ⟨b, 0, none⟩ = false ∧ w.frozen? ⟨b, 1, none⟩ = false ∧ w.frozen? ⟨b, 2, none⟩ = false ∧ w.frozen? ⟨b, 3, none⟩ = false ∧ w.frozen? ⟨b, 4, none⟩ = false) := by
  refine ⟨⟨?_, ?_, ?_, ?_, ?_⟩, ⟨?_, ?_, ?_, ?_, ?_⟩⟩
  all_goals first | exact frozen_of_row _ _ _ _ _ h | (rw [cell_of_row w b _ _ 27 (0, 0) h]; rfl)
theorem set5 {w : World} {b : Nat} {y0 y1 y2 y3 y4 : Value} (h : w.heap[b]? = some (.cells #[y0, y1, y2, y3, y4] 27 (0, 0))) (x0 x1 x2 x3 x4 : Value) :
    (((((w.setCell ⟨b, 0, none⟩ x0).setCell ⟨b, 1, none⟩ x1).setCell ⟨b, 2, none⟩ x2).setCell ⟨b, 3, none⟩ x3).setCell ⟨b, 4, none⟩ x4).heap[b]? = some (.cells #[x0, x1, x2, x3, x4] 27 (0, 0)) := by
  rw [heap_set_same (heap_set_same (heap_set_same (heap_set_same (heap_set_same h 0 x0) 1 x1) 2 x2) 3 x3) 4 x4]
  rfl
theorem below_set5 {B b : Nat} {a w : World} (h : Below B a w) (hb : B ≤ b) (x0 x1 x2 x3 x4 : Value) :
    Below B a (((((w.setCell ⟨b, 0, none⟩ x0).setCell ⟨b, 1, none⟩ x1).setCell ⟨b, 2, none⟩ x2).setCell ⟨b, 3, none⟩ x3).setCell ⟨b, 4, none⟩ x4) :=
  below_set (below_set (below_set (below_set (below_set h hb 0 x0) hb 1 x1) hb 2 x2) hb 3 x3) hb 4 x4
/-- What Get hands back: the frame in its cell, and the number. -/
theorem res5 {tmps : Array Value} {w : World} {b : Nat} {x0 x1 x2 x3 x4 : Value} {z : Int} (hp : tmps.getD 2 undef = .pointer (some ⟨b, 0, none⟩)) (hz : tmps.getD 3 undef = .int .i64 z) (h : w.heap[b]? = some (.cells #[x0, x1, x2, x3, x4] 27 (0, 0))) :
    (results Tryd.f8 tmps).run Tryd.prog w = .ok (.tuple #[.agg #[x0, x1, x2, x3, x4], .int .i64 z]) w := by
  rw [results_cell_tmp (fn := Tryd.f8) (p := 2) (u := 3) (ty := 27) rfl, hp, hz]
  simp only [asAddr, Sem.run_pure, Result.andThen_ok]
  rw [run_loadVar_row w b 27 27 #[x0, x1, x2, x3, x4] (0, 0) _ h Tryd.underlying27 rfl (by kernel_rfl)]
  rfl
theorem row_lt {w : World} {b : Nat} {o : Obj} (h : w.heap[b]? = some o) : b < w.heap.size := (Array.getElem?_eq_some_iff.1 h).1
theorem wrap16 (n : Nat) (h : n < 65536) : IntKind.u16.wrap (n : Int) = (n : Int) := by
  simp [IntKind.wrap, IntKind.signed, IntKind.bits]
  omega
theorem made_eq (n : Nat) : madeCells #[Value.int .u8 0] n = (List.replicate n (Value.int .u8 0)).toArray := by
  apply Array.ext
  · simp [madeCells]
  · intro i h1 h2
    simp [madeCells, Nat.mod_one]
/-- copy, over a whole row that was made for it, as a step of a region that draws. -/
theorem step_copy_whole {P : Program} {ops : Array Oper} {o : Oper} {a : Act} {w : World} {K : Act → World → Prop} {Q : Exit → Act → World → Prop} {E : Prop} (hgd : o.guard = none) (d s : Operand) (T : TypeId)
    (ho : o.op = .call { callee := .builtin .copy, args := #[d, s], argTypes := #[T, T] }) (e : TypeId) (hu : P.underlying T = some (.slice e)) (hsz : (P.info? e).map (·.size) = some 1)
    (g n cap sl sc : Nat) (ad : Addr) (hd : a.eval d = .slice (some ⟨g, 0, none⟩) n cap) (hs : a.eval s = .slice (some ad) sl sc) (hle : n ≤ sl)
    (cur cs : List Value) (hg : w.heap[g]? = some (.cells cur.toArray e (0, 0))) (hcur : cur.length = n) (hcs : cs.length = n)
    (hsrc : ∀ j v, cs[j]? = some v → w.cell? (ad.add j) = some v) (h1 : ∀ v ∈ cs, v.oneCell' = true)
    (h : ∀ w', Hid (w'.heap[g]? = some (.cells cs.toArray e (0, 0))) → w.grownBy w' (some g) → K (a.put o.dst (goInt cs.length)) w') :
    if Region.wanted o (yielded ops a.tmps) = true then Oper.wp P o a w K Q else E := by
  rw [if_pos (by simp [Region.wanted, hgd])]
  have hrun := run_copy_row (P := P) w T T o.type e g 0 n cap ad sl sc cur.toArray e cs hu hsz hg (by rw [hcs]; exact (Nat.min_eq_right hle).symm) hsrc (by simp; omega) h1
  unfold Oper.wp
  simp [execOp, ho, resolve, invoke, builtin, hd, hs, hrun, Result.andThen]
  refine h _ ?_ ⟨rfl, rfl, rfl, by simp [World.setRow], fun k _ hk => setRow_other w g k _ (fun e => hk (by rw [e]))⟩
  show _ = _
  rw [setRow_heap w g _ _ e _ hg, List.drop_eq_nil_of_le (by omega), List.append_nil]
theorem add_none (b o j : Nat) : (⟨b, o, none⟩ : Addr).add j = ⟨b, o + j, none⟩ := by
  unfold Addr.add
  split <;> first | rfl | simp_all
theorem fget_few (s : Option Addr) (len cap : Nat) (w : World) (hl : len < 13) :
    Calls Tryd.prog 8 #[.slice s len cap] w fun e w' => e = .returned (.tuple #[fr0, .int .i64 4]) ∧ Below w.heap.size w w' := by
  have hl' : (len : Int) < 13 := by omega
  go_enter Tryd.func8, Tryd.ntmps8
  go_wp2
  refine bodyPost_ret (v := .tuple #[fr0, .int .i64 4]) (res5 rfl rfl (heap_alloc_new _ _)) rfl ⟨rfl, (Below.refl _ _).alloc (Nat.le_refl _) _⟩
theorem fget_short (s : Option Addr) (len cap : Nat) (B : List Int) (w : World) (hE : Elems w s len B) (hW : Wid w) (hl : 13 ≤ len) (hs : len < 13 + H5 B 4) :
    Calls Tryd.prog 8 #[.slice s len cap] w fun e w' => e = .returned (.tuple #[fr0, .int .i64 4]) ∧ Below w.heap.size w w' := by
  have hl' : (13 : Int) ≤ (len : Int) := by omega
  have hH' : H5 B 4 < 4096 := by have h := H5_lt B 4; rw [show K5 4 = 12 from rfl] at h; omega
  have hb0 : Below w.heap.size w (w.alloc (.cells #[.int .i64 0, .int .u32 0, .int .u8 0, .int .u16 0, .slice none 0 0] 27)) := (Below.refl _ _).alloc (Nat.le_refl _) _
  have hE0 := hE.below hb0
  have hW0 := hW.below hb0
  have hlt : (len : Int) < 9 + (H5 B 4 : Int) + 4 := by omega
  have hR0 := heap_alloc_new w (.cells #[.int .i64 0, .int .u32 0, .int .u8 0, .int .u16 0, .slice none 0 0] 27)
  have HR0 : Hid ((w.alloc (.cells #[.int .i64 0, .int .u32 0, .int .u8 0, .int .u16 0, .slice none 0 0] 27)).heap[w.heap.size]? = some (.cells #[.int .i64 0, .int .u32 0, .int .u8 0, .int .u16 0, .slice none 0 0] 27)) := hR0
  clear hR0
  go_enter Tryd.func8, Tryd.ntmps8
  go_wp2_with (go_at_call 20; refine (head s len cap B _ hE0 hW0 (by omega)).mono ?_; rintro e w1 ⟨rfl, hk1⟩; have hR1 : Hid (w1.heap[w.heap.size]? = some (.cells #[.int .i64 0, .int .u32 0, .int .u8 0, .int .u16 0, .slice none 0 0] 27 (0, 0))) := row_kept HR0.out hk1; obtain ⟨⟨c0, c1, c2, c3, c4⟩, f0, f1, f2, f3, f4⟩ := row5 hR1.out; have hb1 := bstep hb0 hk1; have hlw : w.heap.size < w1.heap.size := World.block_lt_of_cell? w1 _ c0)
  refine bodyPost_ret (v := .tuple #[fr0, .int .i64 4]) (res5 rfl rfl ((Below.heap_alloc _ _ _ (by simpa [World.setCell] using hlw)).trans (set5 hR1.out _ _ _ _ _))) rfl ⟨rfl, (below_set5 hb1 (Nat.le_refl _) _ _ _ _ _).alloc (by simpa [World.setCell] using hb1.size) _⟩
/-- Are bytes, of which there are enough, those of a frame that may be? -/
def good (B : List Int) (len : Nat) : Prop := len = 13 + H5 B 4 ∧ val (part B (8 * (9 + H5 B 4)) 32) = sumOf (B.take (9 + H5 B 4)) ∧ 1 ≤ H5 B 0 ∧ H5 B 0 ≤ 8
set_option maxRecDepth 100000 in
set_option maxHeartbeats 4000000 in
/-- Get, where there are enough bytes. -/
theorem fget_enough (b o len cap : Nat) (B : List Int) (w : World) (hE : Elems w (some ⟨b, o, none⟩) len B) (hW : Wid w) (hcap : len ≤ cap) (hl : 13 + H5 B 4 ≤ len) (hgl : good B len ∨ len ≠ 13 + H5 B 4) :
    Calls Tryd.prog 8 #[.slice (some ⟨b, o, none⟩) len cap] w fun e w' => Below w.heap.size w w' ∧ ((¬ good B len ∧ e = .returned (.tuple #[fr0, .int .i64 5])) ∨
      (good B len ∧ ∃ g, e = .returned (.tuple #[fr (H5 B 0) (H5 B 1) (H5 B 2) (H5 B 3) (some ⟨g, 0, none⟩) (H5 B 4) (H5 B 4), .int .i64 0]) ∧ Blk w' g ((B.drop 9).take (H5 B 4)) ∧ w.heap.size ≤ g)) := by
  have hl' : (13 : Int) ≤ (len : Int) := by omega
  have hH' : H5 B 4 < 4096 := by have h := H5_lt B 4; rw [show K5 4 = 12 from rfl] at h; omega
  have hb0 : Below w.heap.size w (w.alloc (.cells #[.int .i64 0, .int .u32 0, .int .u8 0, .int .u16 0, .slice none 0 0] 27)) := (Below.refl _ _).alloc (Nat.le_refl _) _
  have hE0 := hE.below hb0
  have hW0 := hW.below hb0
  have hlt : 9 + (H5 B 4 : Int) + 4 ≤ (len : Int) := by omega
  have HR0 : Hid ((w.alloc (.cells #[.int .i64 0, .int .u32 0, .int .u8 0, .int .u16 0, .slice none 0 0] 27)).heap[w.heap.size]? = some (.cells #[.int .i64 0, .int .u32 0, .int .u8 0, .int .u16 0, .slice none 0 0] 27)) := heap_alloc_new w _
  have Hgood : Hid (good B len ↔ len = 13 + H5 B 4 ∧ val (part B (8 * (9 + H5 B 4)) 32) = sumOf (B.take (9 + H5 B 4)) ∧ 1 ≤ H5 B 0 ∧ H5 B 0 ≤ 8) := Iff.rfl
  have hpb := val_lt (part B (8 * (9 + H5 B 4)) 32)
  rw [part_length] at hpb
  have hh0 : H5 B 0 < 16 := by have h := H5_lt B 0; rw [show K5 0 = 4 from rfl] at h; omega
  have hh1 : H5 B 1 < 4294967296 := by have h := H5_lt B 1; rw [show K5 1 = 32 from rfl] at h; omega
  have hh2 : H5 B 2 < 256 := by have h := H5_lt B 2; rw [show K5 2 = 8 from rfl] at h; omega
  have hh3 : H5 B 3 < 65536 := by have h := H5_lt B 3; rw [show K5 3 = 16 from rfl] at h; omega
  obtain ⟨n, hn⟩ : ∃ n, H5 B 4 = n := ⟨_, rfl⟩
  obtain ⟨n0, hn0⟩ : ∃ n, H5 B 0 = n := ⟨_, rfl⟩
  obtain ⟨n1, hn1⟩ : ∃ n, H5 B 1 = n := ⟨_, rfl⟩
  obtain ⟨n2, hn2⟩ : ∃ n, H5 B 2 = n := ⟨_, rfl⟩
  obtain ⟨n3, hn3⟩ : ∃ n, H5 B 3 = n := ⟨_, rfl⟩
  rw [hn] at hH' hlt hl Hgood hpb hgl ⊢
  have Hgl : Hid (good B len ∨ len ≠ 13 + n) := hgl
  clear hgl
  rw [hn0] at Hgood hh0 ⊢
  rw [hn1] at hh1 ⊢
  rw [hn2] at hh2 ⊢
  rw [hn3] at hh3 ⊢
  obtain ⟨sm, hsm⟩ : ∃ q, val (part B (8 * (9 + n)) 32) = q := ⟨_, rfl⟩
  rw [hsm] at hpb Hgood
  obtain ⟨cs, hcs⟩ : ∃ c, sumOf (B.take (9 + n)) = c := ⟨_, rfl⟩
  rw [hcs] at Hgood
  have hcsl : cs < 4294967296 := by rw [← hcs]; have h := sumOf_lt (B.take (9 + n)); omega
  have Hn : Hid (H5 B 4 = n) := hn
  have Hn0 : Hid (H5 B 0 = n0) := hn0
  have Hn1 : Hid (H5 B 1 = n1) := hn1
  have Hn2 : Hid (H5 B 2 = n2) := hn2
  have Hn3 : Hid (H5 B 3 = n3) := hn3
  have Hsm : Hid (val (part B (8 * (9 + n)) 32) = sm) := hsm
  have Hcs : Hid (sumOf (B.take (9 + n)) = cs) := hcs
  clear hn hn0 hn1 hn2 hn3 hsm hcs
  unfold fr
  go_enter Tryd.func8, Tryd.ntmps8
  go_wp2_with (first
    | (go_at_call 20; refine (head _ len cap B _ hE0 hW0 (by omega)).mono ?_; rintro e w1 ⟨rfl, hk1⟩; rw [Hn.out, Hn0.out, Hn1.out, Hn2.out, Hn3.out]; have hR1 : Hid (w1.heap[w.heap.size]? = some (.cells #[.int .i64 0, .int .u32 0, .int .u8 0, .int .u16 0, .slice none 0 0] 27 (0, 0))) := row_kept HR0.out hk1; have hE1 := hE0.below hk1; have hb1 := bstep hb0 hk1; have hw1 : w1.cell? ⟨0, 5, none⟩ = some (.int .i64 32) := hW.below hb1 5 (by decide); have hne1 : 0 < w1.heap.size := World.block_lt_of_cell? w1 _ hw1; have hne2 : ¬ (0 = w1.heap.size) := (by omega); have hlw : w.heap.size < w1.heap.size := row_lt hR1.out)
    | (go_at_call 10; refine (get_ok_c _ len cap B (8 * (9 + n)) 32 _ (hE1.below (below_alloc _ _)) (by decide) (by omega) _ _ (by omega) (by rfl)).mono ?_; rintro e w2 ⟨rfl, hk2⟩; rw [Hsm.out]; have hN2 : Hid (w2.heap[w1.heap.size]? = some (.cells #[.int .u64 (n0 : Int), .int .u64 (n1 : Int), .int .u64 (n2 : Int), .int .u64 (n3 : Int), .int .u64 (n : Int), .int .u64 0] 55 (0, 0))) := row_kept (heap_alloc_new _ _) hk2; obtain ⟨old, hold, hfr⟩ := row_at (i := 5) hN2.out (by simp); have hk2' := bstep (below_alloc w1 _) hk2))
  have hb3 : Below w.heap.size w (w2.setCell ⟨w1.heap.size, 5, none⟩ (.int .u64 (sm : Int))) := below_set (bstep hb1 hk2') (by omega) _ _
  have hk3 : Below w1.heap.size w1 (w2.setCell ⟨w1.heap.size, 5, none⟩ (.int .u64 (sm : Int))) := below_set hk2' (Nat.le_refl _) _ _
  have hR3 := row_kept hR1.out hk3
  have hE3 := hE1.below hk3
  have hN3 := heap_set_same hN2.out 5 (.int .u64 (sm : Int))
  generalize w2.setCell ⟨w1.heap.size, 5, none⟩ (.int .u64 (sm : Int)) = W3 at hb3 hR3 hE3 hN3 ⊢
  have HR3 : Hid (W3.heap[w.heap.size]? = some (.cells #[.int .i64 0, .int .u32 0, .int .u8 0, .int .u16 0, .slice none 0 0] 27 (0, 0))) := hR3
  obtain ⟨x0, x1, x2, x3, x4, x5⟩ := row6 (x0 := .int .u64 (n0 : Int)) (x1 := .int .u64 (n1 : Int)) (x2 := .int .u64 (n2 : Int)) (x3 := .int .u64 (n3 : Int)) (x4 := .int .u64 (n : Int)) (x5 := .int .u64 (sm : Int)) hN3
  clear hN3 hR3 hN2 hold hfr hk2 hk2' hk1 hE1 hE0 hW0 HR0 hb0 hR1 hw1 hb1 hk3 hE
  generalize w1.heap.size = nb at x0 x1 x2 x3 x4 x5 hlw hne1 hne2 ⊢
  obtain ⟨⟨c0, c1, c2, c3, c4⟩, f0, f1, f2, f3, f4⟩ := row5 HR3.out
  by_cases hc : len = 13 + n
  · have hlt2 : (len : Int) ≤ 9 + (n : Int) + 4 := by omega
    have hET := hE3.take (9 + n) (by omega)
    have hi0 : (0 : Int) ≤ 9 + (n : Int) := by omega
    have hi1 : 9 + (n : Int) ≤ (cap : Int) := by omega
    have hwr : IntKind.i64.wrap (9 + (n : Int) + 4) = 9 + (n : Int) + 4 := by rw [IntKind.wrap_i64]; omega
    have hdec : decide (9 + (n : Int) + 4 < (len : Int)) = false := decide_eq_false (by omega)
    have hwc : IntKind.u64.wrap (cs : Int) = (cs : Int) := by rw [IntKind.wrap_u64]; omega
    have hwn0 : IntKind.i64.wrap (n0 : Int) = (n0 : Int) := by rw [IntKind.wrap_i64]; omega
    have Hc : Hid (len = 13 + n) := hc
    clear hc
    by_cases hsum : sm = cs
    · have hne3 : ((sm : Int) != (cs : Int)) = false := by simp [hsum]
      have Hsum : Hid (sm = cs) := hsum
      clear hsum
      by_cases hst : 1 ≤ n0 ∧ n0 ≤ 8
      · have hde : decide (1 ≤ (n0 : Int) ∧ (n0 : Int) ≤ 8) = true := decide_eq_true (by omega)
        have hwn1 : IntKind.u32.wrap (n1 : Int) = (n1 : Int) := by rw [IntKind.wrap_u32']; omega
        have hwn2 : IntKind.u8.wrap (n2 : Int) = (n2 : Int) := by rw [IntKind.wrap_u8']; omega
        have hwn3 : IntKind.u16.wrap (n3 : Int) = (n3 : Int) := wrap16 n3 hh3
        have hsub : IntKind.i64.wrap (9 + (n : Int) - 9) = (n : Int) := by rw [IntKind.wrap_i64]; omega
        have hmk : ∀ w : World, (Instr.makeSlice 22 (.int .i64 (n : Int)) (.int .i64 (n : Int))).run Tryd.prog w = .ok (.slice (some ⟨w.heap.size, 0, none⟩) n n) (w.alloc (.cells (madeCells #[.int .u8 0] n) 5)) := fun w => run_make_row' 22 5 (.int .u8 0) 1 Tryd.underlying22 info5 rfl .i64 .i64 n (by omega) (by omega) w
        go_region_held3 (fun w' => w'.cell? ⟨nb, 5, none⟩ = some (.int .u64 (sm : Int)) ∧ w'.cell? ⟨nb, 0, none⟩ = some (.int .u64 (n0 : Int))) (first | go_keep | assumption) (first | (go_at_call 12; refine (crcOf _ (9 + n) _ (B.take (9 + n)) _ (by first | exact hET | exact hET.below (below_drew (Below.refl _ _)))).mono ?_; rintro e w7 ⟨rfl, hk7⟩; rw [Hcs.out]; have hk8 : Below W3.heap.size W3 w7 := (by first | exact hk7 | exact bstep (below_drew (Below.refl _ _)) hk7); have hS7 : w7.cell? ⟨nb, 5, none⟩ = some (.int .u64 (sm : Int)) ∧ w7.cell? ⟨nb, 0, none⟩ = some (.int .u64 (n0 : Int)) := ⟨(hk7.cell (World.block_lt_of_cell? W3 _ x5)).trans x5, (hk7.cell (World.block_lt_of_cell? W3 _ x0)).trans x0⟩) | (go_at_call 21; refine (isStation _ _).mono ?_; rintro e w8 ⟨rfl, h8⟩; rw [hde, h8]; clear h8 w8))
        have y1 := (hk8.cell (World.block_lt_of_cell? W3 _ x1)).trans x1
        have y2 := (hk8.cell (World.block_lt_of_cell? W3 _ x2)).trans x2
        have y3 := (hk8.cell (World.block_lt_of_cell? W3 _ x3)).trans x3
        obtain ⟨y5, y0⟩ := hS7
        have hR7 : Hid (w7.heap[w.heap.size]? = some (.cells #[.int .i64 0, .int .u32 0, .int .u8 0, .int .u16 0, .slice none 0 0] 27 (0, 0))) := row_kept HR3.out hk8
        have hE7 := hE3.below hk8
        have hb7 := bstep hb3 hk8
        have hnb : nb < w7.heap.size := World.block_lt_of_cell? w7 _ y0
        have hnb' : ¬ nb = w7.heap.size := by omega
        have hnb'' : ¬ nb = w7.heap.size + 1 := by omega
        clear x0 x1 x2 x3 x4 x5 c0 c1 c2 c3 c4 f0 f1 f2 f3 f4
        go_wp2
        go_region_held3 (fun w' => w'.cell? ⟨nb, 0, none⟩ = some (.int .u64 (n0 : Int)) ∧ w'.cell? ⟨nb, 1, none⟩ = some (.int .u64 (n1 : Int)) ∧ w'.cell? ⟨nb, 2, none⟩ = some (.int .u64 (n2 : Int)) ∧ w'.cell? ⟨nb, 3, none⟩ = some (.int .u64 (n3 : Int))) (first | go_keep | assumption) (fail)
        · generalize hW8 : World.drew _ = W8
          have hm8 : Hid (W8.heap[w7.heap.size]? = some (.cells (List.replicate n (Value.int .u8 0)).toArray 5 (0, 0))) := by rw [← made_eq, ← hW8]; exact heap_alloc2_old _ _ _
          have hf8 : Hid (W8.heap[(w7.heap.size + 1)]? = some (.cells #[.int .i64 (n0 : Int), .int .u32 (n1 : Int), .int .u8 (n2 : Int), .int .u16 (n3 : Int), .slice (some ⟨w7.heap.size, 0, none⟩) n n] 27 (0, 0))) := by rw [← hW8]; exact heap_alloc2_new _ _ _
          have hb8 : Below w7.heap.size w7 W8 := by rw [← hW8]; exact below_drew (((Below.refl _ _).alloc (Nat.le_refl _) _).alloc (by simp) _)
          have hgm : w7.heap.size ≤ w7.heap.size := by omega
          have hgf : w7.heap.size ≤ (w7.heap.size + 1) := by omega
          have hgne : (w7.heap.size + 1) ≠ w7.heap.size := by omega
          clear hW8
          have hR8 : Hid (W8.heap[w.heap.size]? = some (.cells #[.int .i64 0, .int .u32 0, .int .u8 0, .int .u16 0, .slice none 0 0] 27 (0, 0))) := row_kept hR7.out hb8
          have hE8 := hE7.below hb8
          generalize w7.heap.size + 1 = gf at hf8 hgf hgne ⊢
          obtain ⟨gm, hgmE⟩ : ∃ gm, w7.heap.size = gm := ⟨_, rfl⟩
          rw [hgmE] at hm8 hf8 hgne ⊢
          have hgm : w7.heap.size ≤ gm := by omega
          go_wp2
          obtain ⟨z0, z1, z2, z3, z4⟩ := (row5 hf8.out).1
          have hi9 : (9 : Int) ≤ (len : Int) := by omega
          have hi9c : (9 : Int) ≤ (cap : Int) := by omega
          have hi9n : ¬ ((9 : Int) = (cap : Int)) := by omega
          have hi9l : (9 : Int) < (cap : Int) := by omega
          have hc9 : ¬ (cap = 9) := by omega
          obtain ⟨xs, hxs⟩ : ∃ xs, xs = ((B.drop 9).take n).map (Value.int .u8) := ⟨_, rfl⟩
          have hdl : ((B.drop 9).take n).length = n := by have := hE8.1; have := Hc.out; rw [List.length_take, List.length_drop]; omega
          have hxl : xs.length = n := by rw [hxs, List.length_map, hdl]
          have hx1 : ∀ v ∈ xs, v.oneCell' = true := fun u hu => by
            rw [hxs] at hu
            obtain ⟨z, _, rfl⟩ := List.mem_map.1 hu
            rfl
          have hxc : ∀ j v, xs[j]? = some v → W8.cell? ((⟨b, o + 9, none⟩ : Addr).add j) = some v := fun j v hv => by
            rw [add_none]
            obtain ⟨b', o', e', hc'⟩ := hE8.2.2.2.resolve_left (by omega)
            cases e'
            have hj : j < n := by rw [← hxl]; exact (List.getElem?_eq_some_iff.1 hv).1
            have h := hc' (9 + j) (by have := Hc.out; omega)
            rw [← Nat.add_assoc] at h
            rw [h, ← hv, hxs, List.getElem?_map]
            have e2 : ((B.drop 9).take n).getD j 0 = B.getD (9 + j) 0 := by rw [take_getD _ _ _ hj, drop_getD]
            rw [← e2, List.getD_eq_getElem?_getD, List.getElem?_eq_getElem (by rw [hdl]; exact hj)]
            rfl
          have Hxs : Hid (xs = ((B.drop 9).take n).map (Value.int .u8)) := hxs
          have Hxc : Hid (∀ j v, xs[j]? = some v → W8.drew.cell? ((⟨b, o + 9, none⟩ : Addr).add j) = some v) := hxc
          have Hx1 : Hid (∀ v ∈ xs, v.oneCell' = true) := hx1
          have Hxl : Hid (xs.length = n) := hxl
          clear hxs hxc hx1 hxl hdl
          go_region_law ((refine step_copy_whole rfl (.tmp 73) (.tmp 75) 22 rfl 5 Tryd.underlying22 (by kernel_rfl) gm n n _ _ ⟨b, o + 9, none⟩ rfl rfl (by have := Hc.out; omega) (List.replicate n (.int .u8 0)) xs hm8.out (by simp) Hxl.out Hxc.out Hx1.out ?_; intro w9 hg9 hgr9))
          have hb9 : Below w7.heap.size w7 w9 := (below_drew hb8).grown hgr9 hb8.size (fun k e => by cases e; exact hgm)
          have hf9 : Hid (w9.heap[gf]? = some (.cells #[.int .i64 (n0 : Int), .int .u32 (n1 : Int), .int .u8 (n2 : Int), .int .u16 (n3 : Int), .slice (some ⟨gm, 0, none⟩) n n] 27 (0, 0))) := (hgr9.block gf (row_lt hf8.out) (fun e => hgne (Option.some.inj e))).trans hf8.out
          have hR9 : Hid (w9.heap[w.heap.size]? = some (.cells #[.int .i64 0, .int .u32 0, .int .u8 0, .int .u16 0, .slice none 0 0] 27 (0, 0))) := row_kept hR7.out hb9
          obtain ⟨⟨u0, u1, u2, u3, u4⟩, _⟩ := row5 hf9.out
          obtain ⟨⟨d0, d1, d2, d3, d4⟩, e0, e1, e2, e3, e4⟩ := row5 hR9.out
          have hgmw : w.heap.size ≤ gm := Nat.le_trans hb7.size hgm
          have hgne2 : gm ≠ w.heap.size := by have := row_lt hR7.out; omega
          clear hb8 hm8 hf8 hR8 hE8 hE7 hgr9 z0 z1 z2 z3 z4
          go_wp2
          refine bodyPost_ret (v := .tuple #[.agg #[.int .i64 (n0 : Int), .int .u32 (n1 : Int), .int .u8 (n2 : Int), .int .u16 (n3 : Int), .slice (some ⟨gm, 0, none⟩) n n], .int .i64 0]) (res5 rfl rfl (set5 (w := w9) hR9.out _ _ _ _ _)) rfl ⟨?_, .inr ⟨Hgood.out.2 ⟨Hc.out, Hsum.out, hst⟩, gm, rfl, ?_, hgmw⟩⟩
          · exact below_set5 (bstep hb7 hb9) (Nat.le_refl _) _ _ _ _ _
          · show _ = _
            rw [heap_set_other _ hgne2, heap_set_other _ hgne2, heap_set_other _ hgne2, heap_set_other _ hgne2, heap_set_other _ hgne2, hg9.out, Hxs.out]
        · generalize hW8 : World.drew _ = W8
          have hm8 : Hid (W8.heap[(w7.heap.size + 1)]? = some (.cells (List.replicate n (Value.int .u8 0)).toArray 5 (0, 0))) := by rw [← made_eq, ← hW8]; exact heap_alloc2_new _ _ _
          have hf8 : Hid (W8.heap[w7.heap.size]? = some (.cells #[.int .i64 (n0 : Int), .int .u32 (n1 : Int), .int .u8 (n2 : Int), .int .u16 (n3 : Int), .slice (some ⟨(w7.heap.size + 1), 0, none⟩) n n] 27 (0, 0))) := by rw [← hW8]; exact heap_alloc2_old _ _ _
          have hb8 : Below w7.heap.size w7 W8 := by rw [← hW8]; exact below_drew (((Below.refl _ _).alloc (Nat.le_refl _) _).alloc (by simp) _)
          have hgm : w7.heap.size ≤ (w7.heap.size + 1) := by omega
          have hgf : w7.heap.size ≤ w7.heap.size := by omega
          have hgne : w7.heap.size ≠ (w7.heap.size + 1) := by omega
          clear hW8
          have hR8 : Hid (W8.heap[w.heap.size]? = some (.cells #[.int .i64 0, .int .u32 0, .int .u8 0, .int .u16 0, .slice none 0 0] 27 (0, 0))) := row_kept hR7.out hb8
          have hE8 := hE7.below hb8
          generalize w7.heap.size + 1 = gm at hf8 hm8 hgm hgne ⊢
          obtain ⟨gf, hgmE⟩ : ∃ gf, w7.heap.size = gf := ⟨_, rfl⟩
          rw [hgmE] at hf8 hgne ⊢
          go_wp2
          obtain ⟨z0, z1, z2, z3, z4⟩ := (row5 hf8.out).1
          have hi9 : (9 : Int) ≤ (len : Int) := by omega
          have hi9c : (9 : Int) ≤ (cap : Int) := by omega
          have hi9n : ¬ ((9 : Int) = (cap : Int)) := by omega
          have hi9l : (9 : Int) < (cap : Int) := by omega
          have hc9 : ¬ (cap = 9) := by omega
          obtain ⟨xs, hxs⟩ : ∃ xs, xs = ((B.drop 9).take n).map (Value.int .u8) := ⟨_, rfl⟩
          have hdl : ((B.drop 9).take n).length = n := by have := hE8.1; have := Hc.out; rw [List.length_take, List.length_drop]; omega
          have hxl : xs.length = n := by rw [hxs, List.length_map, hdl]
          have hx1 : ∀ v ∈ xs, v.oneCell' = true := fun u hu => by
            rw [hxs] at hu
            obtain ⟨z, _, rfl⟩ := List.mem_map.1 hu
            rfl
          have hxc : ∀ j v, xs[j]? = some v → W8.cell? ((⟨b, o + 9, none⟩ : Addr).add j) = some v := fun j v hv => by
            rw [add_none]
            obtain ⟨b', o', e', hc'⟩ := hE8.2.2.2.resolve_left (by omega)
            cases e'
            have hj : j < n := by rw [← hxl]; exact (List.getElem?_eq_some_iff.1 hv).1
            have h := hc' (9 + j) (by have := Hc.out; omega)
            rw [← Nat.add_assoc] at h
            rw [h, ← hv, hxs, List.getElem?_map]
            have e2 : ((B.drop 9).take n).getD j 0 = B.getD (9 + j) 0 := by rw [take_getD _ _ _ hj, drop_getD]
            rw [← e2, List.getD_eq_getElem?_getD, List.getElem?_eq_getElem (by rw [hdl]; exact hj)]
            rfl
          have Hxs : Hid (xs = ((B.drop 9).take n).map (Value.int .u8)) := hxs
          have Hxc : Hid (∀ j v, xs[j]? = some v → W8.drew.cell? ((⟨b, o + 9, none⟩ : Addr).add j) = some v) := hxc
          have Hx1 : Hid (∀ v ∈ xs, v.oneCell' = true) := hx1
          have Hxl : Hid (xs.length = n) := hxl
          clear hxs hxc hx1 hxl hdl
          go_region_law ((refine step_copy_whole rfl (.tmp 73) (.tmp 75) 22 rfl 5 Tryd.underlying22 (by kernel_rfl) gm n n _ _ ⟨b, o + 9, none⟩ rfl rfl (by have := Hc.out; omega) (List.replicate n (.int .u8 0)) xs hm8.out (by simp) Hxl.out Hxc.out Hx1.out ?_; intro w9 hg9 hgr9))
          have hb9 : Below w7.heap.size w7 w9 := (below_drew hb8).grown hgr9 hb8.size (fun k e => by cases e; exact hgm)
          have hf9 : Hid (w9.heap[gf]? = some (.cells #[.int .i64 (n0 : Int), .int .u32 (n1 : Int), .int .u8 (n2 : Int), .int .u16 (n3 : Int), .slice (some ⟨gm, 0, none⟩) n n] 27 (0, 0))) := (hgr9.block gf (row_lt hf8.out) (fun e => hgne (Option.some.inj e))).trans hf8.out
          have hR9 : Hid (w9.heap[w.heap.size]? = some (.cells #[.int .i64 0, .int .u32 0, .int .u8 0, .int .u16 0, .slice none 0 0] 27 (0, 0))) := row_kept hR7.out hb9
          obtain ⟨⟨u0, u1, u2, u3, u4⟩, _⟩ := row5 hf9.out
          obtain ⟨⟨d0, d1, d2, d3, d4⟩, e0, e1, e2, e3, e4⟩ := row5 hR9.out
          have hgmw : w.heap.size ≤ gm := Nat.le_trans hb7.size hgm
          have hgne2 : gm ≠ w.heap.size := by have := row_lt hR7.out; omega
          clear hb8 hm8 hf8 hR8 hE8 hE7 hgr9 z0 z1 z2 z3 z4
          go_wp2
          refine bodyPost_ret (v := .tuple #[.agg #[.int .i64 (n0 : Int), .int .u32 (n1 : Int), .int .u8 (n2 : Int), .int .u16 (n3 : Int), .slice (some ⟨gm, 0, none⟩) n n], .int .i64 0]) (res5 rfl rfl (set5 (w := w9) hR9.out _ _ _ _ _)) rfl ⟨?_, .inr ⟨Hgood.out.2 ⟨Hc.out, Hsum.out, hst⟩, gm, rfl, ?_, hgmw⟩⟩
          · exact below_set5 (bstep hb7 hb9) (Nat.le_refl _) _ _ _ _ _
          · show _ = _
            rw [heap_set_other _ hgne2, heap_set_other _ hgne2, heap_set_other _ hgne2, heap_set_other _ hgne2, heap_set_other _ hgne2, hg9.out, Hxs.out]
      · exact (hst (Hgood.out.1 (Hgl.out.resolve_right fun h => h Hc.out)).2.2).elim
    · exact (hsum (Hgood.out.1 (Hgl.out.resolve_right fun h => h Hc.out)).2.1).elim
  · have hlt2 : 9 + (n : Int) + 4 < (len : Int) := by omega
    go_quiet (fail)
    go_wp2
    refine bodyPost_ret (v := .tuple #[fr0, .int .i64 5]) (res5 rfl rfl (set5 (w := W3) HR3.out _ _ _ _ _)) rfl ⟨?_, .inl ⟨fun h => hc (Hgood.out.1 h).1, rfl⟩⟩
    exact below_set5 (below_drewN hb3 nq) (Nat.le_refl _) _ _ _ _ _
end Go.Proofs.YtmbkdalmnfcbfabDoor.Bits
