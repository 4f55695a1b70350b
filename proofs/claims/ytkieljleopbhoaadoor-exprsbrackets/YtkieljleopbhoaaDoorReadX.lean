/-
  A text, all of it, as what is worked out: the contract of read.
-/
import Derived.Test.YtkieljleopbhoaaDoorParsed
import Derived.Test.YtkieljleopbhoaaDoorTkBack
import Derived.Test.YtkieljleopbhoaaDoorReads
namespace Go.Proofs.YtkieljleopbhoaaDoor.Lex
open Go.ChangeShapes Go.WideShapes Go.ChangeAt Go.RowKit Go.Joins
theorem toksV_at (ts : List Tok) (i : Nat) (hi : i < ts.length) :
    (toksV ts)[3 * i]? = some (.int .u8 (ts[i].kind : Int)) ∧ (toksV ts)[3 * i + 1]? = some (.string ⟨ts[i].text.toArray⟩) ∧ (toksV ts)[3 * i + 2]? = some (.int .i64 (ts[i].at_ : Int)) := by
  induction ts generalizing i with
  | nil => simp at hi
  | cons t ts ih =>
    have e : toksV (t :: ts) = tokV t ++ toksV ts := by simp [toksV]
    rw [e]
    cases i with
    | zero => exact ⟨rfl, rfl, rfl⟩
    | succ i =>
      have := ih i (by simpa using hi)
      have hl : (tokV t).length = 3 := rfl
      refine ⟨?_, ?_, ?_⟩
      · rw [List.getElem?_append_right (by omega), hl, show 3 * (i + 1) - 3 = 3 * i by omega]; simpa using this.1
      · rw [List.getElem?_append_right (by omega), hl, show 3 * (i + 1) + 1 - 3 = 3 * i + 1 by omega]; simpa using this.2.1
      · rw [List.getElem?_append_right (by omega), hl, show 3 * (i + 1) + 2 - 3 = 3 * i + 2 by omega]; simpa using this.2.2
theorem marks_own {w : World} {B : Nat} {v : Value} {ts : List Tok} (h : w.ownsRow B 45 3 v ts.length (toksV ts)) : MarksAt w v (ts.map tokM) ∧ ∀ a n c, v = .slice (some a) n c → a.block < w.heap.size := by
  rcases h.2 with ⟨rfl, h0⟩ | ⟨g, cap, cur, rfl, hg0, hg, rest⟩
  · exact ⟨⟨none, 0, by rw [List.length_map, h0], .inl (by rw [List.length_map]; exact h0)⟩, fun a n c e => by cases e⟩
  · refine ⟨⟨_, cap, by rw [List.length_map], .inr ⟨g, 0, rfl, fun i hi => ?_⟩⟩, fun a n c e => ?_⟩
    · have hi' : i < ts.length := by simpa using hi
      obtain ⟨a, b, c⟩ := toksV_at ts i hi'
      refine ⟨?_, ?_, ts[i].at_, ?_⟩
      · rw [Nat.zero_add, h.cellAt _ (by omega), Nat.mul_comm]; simpa [tokM] using a
      · rw [Nat.zero_add, h.cellAt _ (by omega), Nat.mul_comm]; simpa [tokM] using b
      · rw [Nat.zero_add, h.cellAt _ (by omega), Nat.mul_comm]; exact c
    · injection e with e1 _ _
      injection e1 with e1
      rw [← e1]
      exact (Array.getElem?_eq_some_iff.1 hg).1
theorem toks_in : ∀ (m : Nat) (l : List UInt8) (a : Nat) (ts : List Tok), l.length ≤ m → toks a l = .ok ts → (∀ t ∈ ts, t.kind ≤ 3 ∧ t.text.length ≤ l.length) ∧ ts.length ≤ l.length
  | m, [], a, ts, _, h => by rw [toks_nil] at h; cases h; exact ⟨fun t ht => (by cases ht), Nat.le_refl _⟩
  | 0, c :: l, a, ts, hm, h => by simp at hm
  | m + 1, c :: l, a, ts, hm, h => by
    cases e : step (c :: l) with
    | none => rw [toks_none (by simp) e] at h; cases h
    | some kn =>
      obtain ⟨k, n⟩ := kn
      have hs := step_le e
      rw [toks_some (by simp) e] at h
      cases e2 : toks (a + n) ((c :: l).drop n) with
      | error x => rw [e2] at h; cases h
      | ok us =>
        rw [e2] at h
        have hd : ((c :: l).drop n).length = (c :: l).length - n := List.length_drop ..
        obtain ⟨i1, i2⟩ := toks_in m _ _ us (by omega) e2
        simp only [ahead] at h
        injection h with h
        subst h
        constructor
        · intro t ht
          rcases List.mem_append.1 ht with ht | ht
          · split at ht
            · cases ht
            · simp only [List.mem_singleton] at ht
              subst ht
              exact ⟨hs.2.2, by simp only [List.length_take]; omega⟩
          · obtain ⟨j1, j2⟩ := i1 t ht
            exact ⟨j1, by omega⟩
        · rw [List.length_append]
          have : (if k = 0 then ([] : List Tok) else [⟨k, (c :: l).take n, a⟩]).length ≤ 1 := by split <;> simp
          omega
theorem toks_ok {l : List UInt8} {ts : List Tok} (h : toks 0 l = .ok ts) (hl : l.length ≤ 65536) : TsOk (ts.map tokM) ∧ ts.length ≤ 65536 := by
  obtain ⟨h1, h2⟩ := toks_in l.length l 0 ts (Nat.le_refl _) h
  refine ⟨fun m hm => ?_, by omega⟩
  obtain ⟨t, ht, rfl⟩ := List.mem_map.1 hm
  obtain ⟨j1, j2⟩ := h1 t ht
  refine ⟨by show t.kind < 256; omega, ?_⟩
  show (⟨t.text.toArray⟩ : ByteArray).size ≤ 1048576
  rw [Lib.size_eq]
  show t.text.length ≤ 1048576
  omega
/-- What Parse answers, in short. -/
theorem parse_sum {w : World} (v : Value) (ts : List Mark) (hM : MarksAt w v ts) (hv : ∀ a n c, v = .slice (some a) n c → a.block < w.heap.size) (E : REnv w) (hT : TsOk ts) (hfew : ts.length ≤ 140737488355328) : Calls Tryd.prog 19 #[v, .int .i64 0] w fun e w' => Below w.heap.size w w' ∧ ∃ x ao cap, ∃ (q f : Nat), e = .returned (.tuple #[exV x (.slice ao x.args.length cap), .int .i64 (q : Int), .int .i64 (f : Int)]) ∧ StP (fun b => w.heap.size ≤ b) w' x (.slice ao x.args.length cap) ∧
    ((f = 0 ∧ P ts 0 0 = .ok (x, q) ∧ chk x = true) ∨ (f ≠ 0 ∧ ∀ y r, P ts 0 0 = .ok (y, r) → chk y = false)) := by
  refine (parse v ts 0 hM hv E hT (Nat.zero_le _) hfew).mono ?_
  intro e w' hp
  have z : StP (fun b => w.heap.size ≤ b) w' ⟨0, 0, ByteArray.empty, []⟩ (.slice none 0 0) := StP.leaf 0 0 _ (by omega) (by omega) (by decide)
  unfold PostP at hp
  obtain ⟨hb, hp⟩ := hp
  refine ⟨hb, ?_⟩
  cases e1 : P ts 0 0 with
  | error nq =>
    obtain ⟨n, q⟩ := nq
    rw [e1] at hp
    exact ⟨⟨0, 0, ByteArray.empty, []⟩, none, 0, q, n, hp, z, .inr ⟨P_bad e1, fun y r h => by cases h⟩⟩
  | ok xq =>
    obtain ⟨x, q⟩ := xq
    rw [e1] at hp
    rcases hp with ⟨hc, s, he, st⟩ | ⟨hc, he⟩
    · obtain ⟨ao, cap, rfl⟩ := st.form
      exact ⟨x, ao, cap, q, 0, he, st, .inl ⟨rfl, rfl, hc⟩⟩
    · exact ⟨⟨0, 0, ByteArray.empty, []⟩, none, 0, 0, 3, he, z, .inr ⟨by omega, fun y r h => by cases h; exact hc⟩⟩
/-- A text, all of it. -/
def readX (l : List UInt8) : Option Ex := match toks 0 l with
  | .error _ => none
  | .ok ts => match P (ts.map tokM) 0 0 with
    | .ok (x, q) => if chk x = true ∧ q = ts.length then some x else none
    | .error _ => none
structure AEnv (w : World) : Prop where
  tabS : TabS w
  env : Env w
  var : ∃ tp pv, w.var? Tryd.prog "strconv.ErrRange" = some #[.iface tp pv]
theorem AEnv.below {w W : World} (h : AEnv w) (b : Below w.heap.size w W) : AEnv W := by
  obtain ⟨tp, pv, e⟩ := h.var
  exact ⟨h.tabS.below b, h.env.below b, tp, pv, varAt e b⟩
theorem AEnv.renv {w : World} (h : AEnv w) : REnv w := ⟨h.env.res, h.env.joins, h.var⟩
theorem P_nil (y : Ex) (r : Nat) : P [] 0 0 ≠ .ok (y, r) := fun h => by
  rw [P_atom (by intro hc; exact absurd hc.2 (by rw [isMk_eq]; decide))] at h
  have : atomR [] (P []) 0 = .error (5, 0) := by
    have a : ∀ k t, k ≠ 0 → isMk (markAt [] 0) k t = false := fun k t hk => mk_no _ _ _ (by show (0 : Nat) ≠ k; omega)
    unfold atomR
    simp only
    rw [a _ _ (by omega), a _ _ (by omega), a _ _ (by omega), a _ _ (by omega), a _ _ (by omega), a _ _ (by omega)]
    rfl
  rw [this] at h
  cases h
theorem fz {f : Nat} (h : f ≠ 0) : ((f : Int) == 0) = false := by simp [h]
set_option maxRecDepth 100000 in
set_option maxHeartbeats 1000000 in
theorem read_p1 (s : ByteArray) (w : World) (n : Nat) (at_ : Int) (G : World → Option Addr → Nat → Prop) (D : Ex → Nat → Nat → Prop)
    (cr : Calls Tryd.prog 18 #[.string s] (w.alloc (.cells c25 25)) fun e w' => ∃ a cap, e = .returned (.tuple #[.slice a n cap, .int .i64 at_, .int .i64 5]) ∧ Below (w.alloc (.cells c25 25)).heap.size (w.alloc (.cells c25 25)) w' ∧ G w' a cap)
    (cp : ∀ w2 a cap, Below (w.alloc (.cells c25 25)).heap.size (w.alloc (.cells c25 25)) w2 → G w2 a cap → Calls Tryd.prog 19 #[.slice a n cap, .int .i64 0] w2 fun e w' => Below w2.heap.size w2 w' ∧ ∃ x ao cap, ∃ (q f : Nat), e = .returned (.tuple #[exV x (.slice ao x.args.length cap), .int .i64 (q : Int), .int .i64 (f : Int)]) ∧ StP (fun b => w2.heap.size ≤ b) w' x (.slice ao x.args.length cap) ∧ D x q f) :
    Calls Tryd.prog 15 #[.string s] w fun e w' => Below w.heap.size w w' ∧ ∃ x ao cap, ∃ (q f : Nat), e = .returned (.tuple #[exV x (.slice ao x.args.length cap), .bool false]) ∧ StP (fun b => w.heap.size ≤ b) w' x (.slice ao x.args.length cap) ∧ D x q f := by
  have B0 := hid ((Below.refl w.heap.size w).alloc (Nat.le_refl _) (.cells c25 25))
  have X0 := hid (heap_alloc_new w (.cells c25 25))
  go_enter Tryd.func15, Tryd.ntmps15
  go_wp2_with (first
    | (go_at_call 18; refine cr.mono ?_; rintro e w2 ⟨a, cp0, rfl, b2, hG⟩; have c19 := cp w2 a cp0 b2 hG; have B2 := hid b2; clear b2 cr cp hG)
    | (go_at_call 19; refine c19.mono ?_; rintro e w3 ⟨b3, x, ao, cap, q, f, rfl, st, hd⟩; have b4 := bstep (bstep B2.out b3) ((Below.refl w3.heap.size w3).alloc (Nat.le_refl _) (.cells (ex4 x (.slice ao x.args.length cap)) 25)); have X7 := heap_alloc_new w3 (.cells (ex4 x (.slice ao x.args.length cap)) 25); have X2 := (b4.block _ (by simp)).trans X0.out; have B4 := hid b4; have ST := hid st; have HD := hid hd; clear b3 b4 st hd c19)
    | (refine wpList_load_row rfl 25 _ rfl w3.heap.size rfl 25 (ex4 x (.slice ao x.args.length cap)) (0, 0) _ X7 Tryd.underlying25 rfl info25 ?_)
    | (refine wpList_store_row rfl 25 _ _ rfl w.heap.size (ex4 x (.slice ao x.args.length cap)) rfl rfl 25 _ X2 info25 rfl (by simp [Value.oneCell', ex4]) ?_))
  refine bodyPost_ret (results_row_tmp rfl _ _ w.heap.size (ex4 x (.slice ao x.args.length cap)) rfl (run_loadVar_row _ _ 25 25 (ex4 x (.slice ao x.args.length cap)) (0, 0) _ (setRow_heap _ _ _ _ _ _ X2) Tryd.underlying25 rfl info25)) rfl ⟨below_row (bstep B0.out B4.out) (bstep B0.out B4.out).size (Nat.le_refl _) _, x, ao, cap, _, _, rfl, ?_, HD.out⟩
  refine StP.carryN (fun b hb hl => (setRow_other _ _ _ _ ?_).trans (Below.heap_alloc _ _ _ hl)) (fun b _ hb => ?_) _ x _ (Nat.le_refl _) ST.out
  · have := B2.out.size
    have hb' : w2.heap.size ≤ b := hb
    simp at this
    omega
  · have := B2.out.size
    have hb' : w2.heap.size ≤ b := hb
    simp at this
    show w.heap.size ≤ b
    omega
set_option maxRecDepth 100000 in
set_option maxHeartbeats 1000000 in
theorem read_p2 (s : ByteArray) (w : World) (n : Nat) (at_ : Int) (G : World → Option Addr → Nat → Prop) (D : Ex → Nat → Nat → Prop)
    (cr : Calls Tryd.prog 18 #[.string s] (w.alloc (.cells c25 25)) fun e w' => ∃ a cap, e = .returned (.tuple #[.slice a n cap, .int .i64 at_, .int .i64 0]) ∧ Below (w.alloc (.cells c25 25)).heap.size (w.alloc (.cells c25 25)) w' ∧ G w' a cap)
    (cp : ∀ w2 a cap, Below (w.alloc (.cells c25 25)).heap.size (w.alloc (.cells c25 25)) w2 → G w2 a cap → Calls Tryd.prog 19 #[.slice a n cap, .int .i64 0] w2 fun e w' => Below w2.heap.size w2 w' ∧ ∃ x ao cap, ∃ (q f : Nat), e = .returned (.tuple #[exV x (.slice ao x.args.length cap), .int .i64 (q : Int), .int .i64 (f : Int)]) ∧ StP (fun b => w2.heap.size ≤ b) w' x (.slice ao x.args.length cap) ∧ D x q f) (hD : ∀ x q f, D x q f → f ≠ 0) :
    Calls Tryd.prog 15 #[.string s] w fun e w' => Below w.heap.size w w' ∧ ∃ x ao cap, ∃ (q f : Nat), e = .returned (.tuple #[exV x (.slice ao x.args.length cap), .bool false]) ∧ StP (fun b => w.heap.size ≤ b) w' x (.slice ao x.args.length cap) ∧ D x q f := by
  have B0 := hid ((Below.refl w.heap.size w).alloc (Nat.le_refl _) (.cells c25 25))
  have X0 := hid (heap_alloc_new w (.cells c25 25))
  go_enter Tryd.func15, Tryd.ntmps15
  go_wp2_with (first
    | (go_at_call 18; refine cr.mono ?_; rintro e w2 ⟨a, cp0, rfl, b2, hG⟩; have c19 := cp w2 a cp0 b2 hG; have B2 := hid b2; clear b2 cr cp hG)
    | (go_at_call 19; refine c19.mono ?_; rintro e w3 ⟨b3, x, ao, cap, q, f, rfl, st, hd⟩; have hf1 := fz (hD x q f hd); have b4 := bstep (bstep B2.out b3) ((Below.refl w3.heap.size w3).alloc (Nat.le_refl _) (.cells (ex4 x (.slice ao x.args.length cap)) 25)); have X7 := heap_alloc_new w3 (.cells (ex4 x (.slice ao x.args.length cap)) 25); have X2 := (b4.block _ (by simp)).trans X0.out; have B4 := hid b4; have ST := hid st; have HD := hid hd; clear b3 b4 st hd c19)
    | (refine wpList_load_row rfl 25 _ rfl w3.heap.size rfl 25 (ex4 x (.slice ao x.args.length cap)) (0, 0) _ X7 Tryd.underlying25 rfl info25 ?_)
    | (refine wpList_store_row rfl 25 _ _ rfl w.heap.size (ex4 x (.slice ao x.args.length cap)) rfl rfl 25 _ X2 info25 rfl (by simp [Value.oneCell', ex4]) ?_))
  refine bodyPost_ret (results_row_tmp rfl _ _ w.heap.size (ex4 x (.slice ao x.args.length cap)) rfl (run_loadVar_row _ _ 25 25 (ex4 x (.slice ao x.args.length cap)) (0, 0) _ (setRow_heap _ _ _ _ _ _ X2) Tryd.underlying25 rfl info25)) rfl ⟨below_row (bstep B0.out B4.out) (bstep B0.out B4.out).size (Nat.le_refl _) _, x, ao, cap, _, _, rfl, ?_, HD.out⟩
  refine StP.carryN (fun b hb hl => (setRow_other _ _ _ _ ?_).trans (Below.heap_alloc _ _ _ hl)) (fun b _ hb => ?_) _ x _ (Nat.le_refl _) ST.out
  · have := B2.out.size
    have hb' : w2.heap.size ≤ b := hb
    simp at this
    omega
  · have := B2.out.size
    have hb' : w2.heap.size ≤ b := hb
    simp at this
    show w.heap.size ≤ b
    omega
set_option maxRecDepth 100000 in
set_option maxHeartbeats 1000000 in
theorem read_p3 (s : ByteArray) (w : World) (n : Nat) (at_ : Int) (G : World → Option Addr → Nat → Prop) (D : Ex → Nat → Nat → Prop)
    (cr : Calls Tryd.prog 18 #[.string s] (w.alloc (.cells c25 25)) fun e w' => ∃ a cap, e = .returned (.tuple #[.slice a n cap, .int .i64 at_, .int .i64 0]) ∧ Below (w.alloc (.cells c25 25)).heap.size (w.alloc (.cells c25 25)) w' ∧ G w' a cap)
    (cp : ∀ w2 a cap, Below (w.alloc (.cells c25 25)).heap.size (w.alloc (.cells c25 25)) w2 → G w2 a cap → Calls Tryd.prog 19 #[.slice a n cap, .int .i64 0] w2 fun e w' => Below w2.heap.size w2 w' ∧ ∃ x ao cap, ∃ (q f : Nat), e = .returned (.tuple #[exV x (.slice ao x.args.length cap), .int .i64 (q : Int), .int .i64 (f : Int)]) ∧ StP (fun b => w2.heap.size ≤ b) w' x (.slice ao x.args.length cap) ∧ D x q f) (hD : ∀ x q f, D x q f → f = 0 ∧ ((q : Int) == (n : Int)) = false) :
    Calls Tryd.prog 15 #[.string s] w fun e w' => Below w.heap.size w w' ∧ ∃ x ao cap, ∃ (q f : Nat), e = .returned (.tuple #[exV x (.slice ao x.args.length cap), .bool false]) ∧ StP (fun b => w.heap.size ≤ b) w' x (.slice ao x.args.length cap) ∧ D x q f := by
  have B0 := hid ((Below.refl w.heap.size w).alloc (Nat.le_refl _) (.cells c25 25))
  have X0 := hid (heap_alloc_new w (.cells c25 25))
  go_enter Tryd.func15, Tryd.ntmps15
  go_wp2_with (first
    | (go_at_call 18; refine cr.mono ?_; rintro e w2 ⟨a, cp0, rfl, b2, hG⟩; have c19 := cp w2 a cp0 b2 hG; have B2 := hid b2; clear b2 cr cp hG)
    | (go_at_call 19; refine c19.mono ?_; rintro e w3 ⟨b3, x, ao, cap, q, f, rfl, st, hd⟩; obtain ⟨rfl, hqq⟩ := hD x q f hd; simp only [Int.cast_ofNat_Int]; have b4 := bstep (bstep B2.out b3) ((Below.refl w3.heap.size w3).alloc (Nat.le_refl _) (.cells (ex4 x (.slice ao x.args.length cap)) 25)); have X7 := heap_alloc_new w3 (.cells (ex4 x (.slice ao x.args.length cap)) 25); have X2 := (b4.block _ (by simp)).trans X0.out; have B4 := hid b4; have ST := hid st; have HD := hid hd; clear b3 b4 st hd c19)
    | (refine wpList_load_row rfl 25 _ rfl w3.heap.size rfl 25 (ex4 x (.slice ao x.args.length cap)) (0, 0) _ X7 Tryd.underlying25 rfl info25 ?_)
    | (refine wpList_store_row rfl 25 _ _ rfl w.heap.size (ex4 x (.slice ao x.args.length cap)) rfl rfl 25 _ X2 info25 rfl (by simp [Value.oneCell', ex4]) ?_))
  refine bodyPost_ret (results_row_tmp rfl _ _ w.heap.size (ex4 x (.slice ao x.args.length cap)) rfl (run_loadVar_row _ _ 25 25 (ex4 x (.slice ao x.args.length cap)) (0, 0) _ (setRow_heap _ _ _ _ _ _ X2) Tryd.underlying25 rfl info25)) rfl ⟨below_row (bstep B0.out B4.out) (bstep B0.out B4.out).size (Nat.le_refl _) _, x, ao, cap, _, _, rfl, ?_, HD.out⟩
  refine StP.carryN (fun b hb hl => (setRow_other _ _ _ _ ?_).trans (Below.heap_alloc _ _ _ hl)) (fun b _ hb => ?_) _ x _ (Nat.le_refl _) ST.out
  · have := B2.out.size
    have hb' : w2.heap.size ≤ b := hb
    simp at this
    omega
  · have := B2.out.size
    have hb' : w2.heap.size ≤ b := hb
    simp at this
    show w.heap.size ≤ b
    omega
set_option maxRecDepth 100000 in
set_option maxHeartbeats 1000000 in
theorem read_p4 (s : ByteArray) (w : World) (n : Nat) (at_ : Int) (G : World → Option Addr → Nat → Prop) (D : Ex → Nat → Nat → Prop)
    (cr : Calls Tryd.prog 18 #[.string s] (w.alloc (.cells c25 25)) fun e w' => ∃ a cap, e = .returned (.tuple #[.slice a n cap, .int .i64 at_, .int .i64 0]) ∧ Below (w.alloc (.cells c25 25)).heap.size (w.alloc (.cells c25 25)) w' ∧ G w' a cap)
    (cp : ∀ w2 a cap, Below (w.alloc (.cells c25 25)).heap.size (w.alloc (.cells c25 25)) w2 → G w2 a cap → Calls Tryd.prog 19 #[.slice a n cap, .int .i64 0] w2 fun e w' => Below w2.heap.size w2 w' ∧ ∃ x ao cap, ∃ (q f : Nat), e = .returned (.tuple #[exV x (.slice ao x.args.length cap), .int .i64 (q : Int), .int .i64 (f : Int)]) ∧ StP (fun b => w2.heap.size ≤ b) w' x (.slice ao x.args.length cap) ∧ D x q f) (hD : ∀ x q f, D x q f → f = 0 ∧ q = n) :
    Calls Tryd.prog 15 #[.string s] w fun e w' => Below w.heap.size w w' ∧ ∃ x ao cap, ∃ (q f : Nat), e = .returned (.tuple #[exV x (.slice ao x.args.length cap), .bool true]) ∧ StP (fun b => w.heap.size ≤ b) w' x (.slice ao x.args.length cap) ∧ D x q f := by
  have B0 := hid ((Below.refl w.heap.size w).alloc (Nat.le_refl _) (.cells c25 25))
  have X0 := hid (heap_alloc_new w (.cells c25 25))
  go_enter Tryd.func15, Tryd.ntmps15
  go_wp2_with (first
    | (go_at_call 18; refine cr.mono ?_; rintro e w2 ⟨a, cp0, rfl, b2, hG⟩; have c19 := cp w2 a cp0 b2 hG; have B2 := hid b2; clear b2 cr cp hG)
    | (go_at_call 19; refine c19.mono ?_; rintro e w3 ⟨b3, x, ao, cap, q, f, rfl, st, hd⟩; obtain ⟨rfl, rfl⟩ := hD x q f hd; simp only [Int.cast_ofNat_Int]; have b4 := bstep (bstep B2.out b3) ((Below.refl w3.heap.size w3).alloc (Nat.le_refl _) (.cells (ex4 x (.slice ao x.args.length cap)) 25)); have X7 := heap_alloc_new w3 (.cells (ex4 x (.slice ao x.args.length cap)) 25); have X2 := (b4.block _ (by simp)).trans X0.out; have B4 := hid b4; have ST := hid st; have HD := hid hd; clear b3 b4 st hd c19)
    | (refine wpList_load_row rfl 25 _ rfl w3.heap.size rfl 25 (ex4 x (.slice ao x.args.length cap)) (0, 0) _ X7 Tryd.underlying25 rfl info25 ?_)
    | (refine wpList_store_row rfl 25 _ _ rfl w.heap.size (ex4 x (.slice ao x.args.length cap)) rfl rfl 25 _ X2 info25 rfl (by simp [Value.oneCell', ex4]) ?_))
  refine bodyPost_ret (results_row_tmp rfl _ _ w.heap.size (ex4 x (.slice ao x.args.length cap)) rfl (run_loadVar_row _ _ 25 25 (ex4 x (.slice ao x.args.length cap)) (0, 0) _ (setRow_heap _ _ _ _ _ _ X2) Tryd.underlying25 rfl info25)) rfl ⟨below_row (bstep B0.out B4.out) (bstep B0.out B4.out).size (Nat.le_refl _) _, x, ao, cap, _, _, rfl, ?_, HD.out⟩
  refine StP.carryN (fun b hb hl => (setRow_other _ _ _ _ ?_).trans (Below.heap_alloc _ _ _ hl)) (fun b _ hb => ?_) _ x _ (Nat.le_refl _) ST.out
  · have := B2.out.size
    have hb' : w2.heap.size ≤ b := hb
    simp at this
    omega
  · have := B2.out.size
    have hb' : w2.heap.size ≤ b := hb
    simp at this
    show w.heap.size ≤ b
    omega
theorem readE (s : ByteArray) (w : World) (hs : s.size ≤ 65536) (A : AEnv w) : Calls Tryd.prog 15 #[.string s] w fun e w' => Below w.heap.size w w' ∧ ∃ x ao cap, e = .returned (.tuple #[exV x (.slice ao x.args.length cap), .bool (readX s.data.toList).isSome]) ∧ StP (fun b => w.heap.size ≤ b) w' x (.slice ao x.args.length cap) ∧ ∀ y, readX s.data.toList = some y → x = y := by
  have b0 := (Below.refl w.heap.size w).alloc (Nat.le_refl _) (.cells c25 25)
  have cr := read s (w.alloc (.cells c25 25)) (A.below b0).tabS hs
  have hl : s.data.toList.length ≤ 65536 := by rw [← Lib.size_eq]; exact hs
  cases ht : toks 0 s.data.toList with
  | error a =>
    have R : readX s.data.toList = none := by unfold readX; rw [ht]
    rw [R]
    refine (read_p1 s w 0 (a : Int) (fun _ a c => a = none ∧ c = 0) (fun _ _ _ => True) (cr.mono fun e w' ⟨hb, hc⟩ => ?_) fun w2 a cap b2 hG => ?_).mono ?_
    · rcases hc with ⟨b, h1, h2⟩ | ⟨us, v, h1, _⟩
      · rw [ht] at h1; injection h1 with h1; subst h1; exact ⟨none, 0, h2, hb, rfl, rfl⟩
      · rw [ht] at h1; cases h1
    · obtain ⟨rfl, rfl⟩ := hG
      exact (parse_sum (w := w2) (.slice none 0 0) [] ⟨none, 0, rfl, .inl rfl⟩ (fun a n c e => by cases e) ((A.below b0).below b2).renv (fun m hm => by cases hm) (by simp)).mono fun e w' ⟨h1, x, ao, cap, q, f, h2, h3, _⟩ => ⟨h1, x, ao, cap, q, f, h2, h3, trivial⟩
    · rintro e w' ⟨h1, x, ao, cap, q, f, h2, h3, _⟩
      exact ⟨h1, x, ao, cap, h2, h3, fun y h => by cases h⟩
  | ok ts =>
    obtain ⟨hTs, hts⟩ := toks_ok ht hl
    have cr1 : Calls Tryd.prog 18 #[.string s] (w.alloc (.cells c25 25)) fun e w' => ∃ a cap, e = .returned (.tuple #[.slice a ts.length cap, .int .i64 0, .int .i64 0]) ∧ Below (w.alloc (.cells c25 25)).heap.size (w.alloc (.cells c25 25)) w' ∧ MarksAt w' (.slice a ts.length cap) (ts.map tokM) ∧ ∀ a' n c, Value.slice a ts.length cap = .slice (some a') n c → a'.block < w'.heap.size := cr.mono fun e w' ⟨hb, hc⟩ => by
      rcases hc with ⟨b, h1, h2⟩ | ⟨us, v, h1, h2, h3⟩
      · rw [ht] at h1; cases h1
      · rw [ht] at h1
        injection h1 with h1
        subst h1
        obtain ⟨m1, m2⟩ := marks_own h3
        obtain ⟨a, cap, e1, m3⟩ := m1
        have e2 : v = .slice a ts.length cap := by rw [e1, List.length_map]
        subst e2
        exact ⟨a, cap, h2, hb, ⟨a, cap, e1, m3⟩, m2⟩
    have cp := fun w2 a cap (b2 : Below (w.alloc (.cells c25 25)).heap.size (w.alloc (.cells c25 25)) w2) (hG : MarksAt w2 (.slice a ts.length cap) (ts.map tokM) ∧ ∀ a' n c, Value.slice a ts.length cap = .slice (some a') n c → a'.block < w2.heap.size) => parse_sum (w := w2) (.slice a ts.length cap) (ts.map tokM) hG.1 hG.2 ((A.below b0).below b2).renv hTs (by rw [List.length_map]; omega)
    have R : readX s.data.toList = match P (ts.map tokM) 0 0 with | .ok (x, q) => if chk x = true ∧ q = ts.length then some x else none | .error _ => none := by unfold readX; rw [ht]
    by_cases hpp : ∃ x q, P (ts.map tokM) 0 0 = .ok (x, q) ∧ chk x = true
    · obtain ⟨x0, q0, hp0, hc0⟩ := hpp
      have hd0 : ∀ x q f, ((f = 0 ∧ P (ts.map tokM) 0 0 = .ok (x, q) ∧ chk x = true) ∨ (f ≠ 0 ∧ ∀ y r, P (ts.map tokM) 0 0 = .ok (y, r) → chk y = false)) → f = 0 ∧ x = x0 ∧ q = q0 := fun x q f h => by
        rcases h with ⟨h1, h2, _⟩ | ⟨_, h2⟩
        · rw [hp0] at h2
          injection h2 with h2
          injection h2 with e1 e2
          exact ⟨h1, e1.symm, e2.symm⟩
        · rw [h2 x0 q0 hp0] at hc0; cases hc0
      by_cases hq : q0 = ts.length
      · have R1 : readX s.data.toList = some x0 := by rw [R, hp0]; simp [hc0, hq]
        rw [R1]
        refine (read_p4 s w ts.length 0 _ _ cr1 cp fun x q f h => ⟨(hd0 x q f h).1, (hd0 x q f h).2.2.trans hq⟩).mono ?_
        rintro e w' ⟨h1, x, ao, cap, q, f, h2, h3, h4⟩
        exact ⟨h1, x, ao, cap, h2, h3, fun y h => by injection h with h; rw [← h]; exact (hd0 x q f h4).2.1⟩
      · have R1 : readX s.data.toList = none := by rw [R, hp0]; simp [hq]
        rw [R1]
        refine (read_p3 s w ts.length 0 _ _ cr1 cp fun x q f h => ⟨(hd0 x q f h).1, by rw [(hd0 x q f h).2.2]; simp; omega⟩).mono ?_
        rintro e w' ⟨h1, x, ao, cap, q, f, h2, h3, h4⟩
        exact ⟨h1, x, ao, cap, h2, h3, fun y h => by cases h⟩
    · have R1 : readX s.data.toList = none := by
        rw [R]
        cases hp : P (ts.map tokM) 0 0 with
        | error e => rfl
        | ok xq =>
          obtain ⟨x, q⟩ := xq
          simp only
          rw [if_neg (fun hc => hpp ⟨x, q, hp, hc.1⟩)]
      rw [R1]
      refine (read_p2 s w ts.length 0 _ _ cr1 cp fun x q f h => ?_).mono ?_
      · rcases h with ⟨h1, h2, h3⟩ | ⟨h1, _⟩
        · exact (hpp ⟨x, q, h2, h3⟩).elim
        · exact h1
      · rintro e w' ⟨h1, x, ao, cap, q, f, h2, h3, h4⟩
        exact ⟨h1, x, ao, cap, h2, h3, fun y h => by cases h⟩
end Go.Proofs.YtkieljleopbhoaaDoor.Lex
