/-
  A choice, read: the contract of choice, over those of part and pass.
-/
import Derived.Test.YtkieljleopbhoaaDoorBrack
namespace Go.Proofs.YtkieljleopbhoaaDoor.Lex
open Go.ChangeShapes Go.WideShapes Go.ChangeAt Go.RowKit Go.Joins
theorem kept {W W' : World} {r k : Nat} {o : Obj} (h : W.heap[k]? = some o) (g : W.grownBy W' (some r)) (hk : r < k) : W'.heap[k]? = some o :=
  (g.block k (Array.getElem?_eq_some_iff.1 h).1 (fun e => by injection e; omega)).trans h
/-- A part that was read, in a row of its own behind a place. -/
structure Keep (N : Nat) (W : World) (b : Nat) (x : Ex) (s : Value) : Prop where
  row : W.heap[b]? = some (.cells (ex4 x s) 25 (0, 0))
  st : StP (fun k => N < k) W x s
  lt : N < b
theorem Keep.grown {N : Nat} {W W' : World} {b : Nat} {x : Ex} {s : Value} {r : Nat} (h : Keep N W b x s) (g : W.grownBy W' (some r)) (hr : r < N) : Keep N W' b x s :=
  ⟨kept h.row g (by have := h.lt; omega), h.st.carry fun k hk hl => g.block k hl (fun e => by injection e; omega), h.lt⟩
theorem Keep.new {N : Nat} {W0 w2 : World} {x : Ex} {s : Value} (h : StP (fun b => W0.heap.size ≤ b) w2 x s) (hN : N < W0.heap.size) (hl : W0.heap.size ≤ w2.heap.size) : Keep N (w2.alloc (.cells (ex4 x s) 25)) w2.heap.size x s :=
  ⟨heap_alloc_new w2 _, StP.carryN (fun k _ hk => Below.heap_alloc _ _ _ hk) (fun k _ hk => by show N < k; have : W0.heap.size ≤ k := hk; omega) _ x s (Nat.le_refl _) h, by omega⟩
theorem fold4 (c : Array Value) (o : Nat) (a b d e : Value) : Array.foldl (fun cs (x : Value × Nat) => cs.setIfInBounds (o + x.snd) x.fst) c (#[a, b, d, e].zipIdx) = (((c.setIfInBounds (o + 0) a).setIfInBounds (o + 1) b).setIfInBounds (o + 2) d).setIfInBounds (o + 3) e := by rfl
theorem fill3 (x y z : Ex) (a b c : Option Addr) (l m n i j k : Nat) : Instr.fill (fun i => some (i * 4, 4)) ((Array.range (3 * 4)).map (z25.cells[· % z25.cells.size]!)) [(0, exV x (.slice a l i)), (1, exV y (.slice b m j)), (2, exV z (.slice c n k))] = some (ex4 x (.slice a l i) ++ ex4 y (.slice b m j) ++ ex4 z (.slice c n k)) := by
  have e : ((Array.range (3 * 4)).map (z25.cells[· % z25.cells.size]!)) = #[.int .u8 0, .int .i64 0, .string ⟨#[]⟩, .slice none 0 0, .int .u8 0, .int .i64 0, .string ⟨#[]⟩, .slice none 0 0, .int .u8 0, .int .i64 0, .string ⟨#[]⟩, .slice none 0 0] := by kernel_rfl
  rw [e]
  simp only [Instr.fill, show (exV x (.slice a l i)).cells = ex4 x (.slice a l i) from rfl, show (exV y (.slice b m j)).cells = ex4 y (.slice b m j) from rfl, show (exV z (.slice c n k)).cells = ex4 z (.slice c n k) from rfl, ex4, fold4]
  simp
/-- What has three parts, in new memory. -/
theorem StP.three {ok : Nat → Prop} {W : World} {x y z : Ex} {s t u : Value} (op : Nat) (hop : op < 256) (g : Nat) (hg : ok g) (hx : StP ok W x s) (hy : StP ok W y t) (hz : StP ok W z u) (hc : W.heap[g]? = some (.cells (ex4 x s ++ ex4 y t ++ ex4 z u) 25 (0, 0))) : StP ok W ⟨op, 0, ByteArray.empty, [x, y, z]⟩ (.slice (some ⟨g, 0, none⟩) 3 3) := by
  refine StP.intro ⟨op, 0, ByteArray.empty, [x, y, z]⟩ (some ⟨g, 0, none⟩) 3 (fun i => [s, t, u].getD i s) hop (by simp) (by show ByteArray.empty.size ≤ _; decide) (by simp) (by simp) (.inr ⟨g, 0, rfl, hg, fun i hi => ?_⟩) (fun i hi => ?_)
  · have hi3 : i < 3 := hi
    rcases (by omega : i = 0 ∨ i = 1 ∨ i = 2) with rfl | rfl | rfl <;> refine ⟨?_, ?_, ?_, ?_⟩ <;> (rw [cell_of_row _ _ _ _ 25 (0, 0) hc]; rfl)
  · have hi3 : i < 3 := hi
    rcases (by omega : i = 0 ∨ i = 1 ∨ i = 2) with rfl | rfl | rfl
    · exact hx
    · exact hy
    · exact hz
set_option maxRecDepth 100000 in
set_option maxHeartbeats 2000000 in
theorem choice_ok (r mp : Nat) (v : Value) (ts : List Mark) (p : Nat) (w : World) (h : Rdr r mp v ts p w) (hp : p < ts.length) (x1 : Ex) (q1 : Nat)
    (cp1 : ∀ W, w.grownBy W (some r) → Rdr r mp v ts (p + 1) W → Calls Tryd.prog 65 #[.pointer (some ⟨r, 0, none⟩), .int .i64 0] W (Post r mp v ts W (.ok (x1, q1))))
    (hm1 : isMk (markAt ts q1) 1 ⟨#[116, 104, 101, 110]⟩ = true) (x2 : Ex) (q2 : Nat)
    (cp2 : ∀ W, w.grownBy W (some r) → Rdr r mp v ts (q1 + 1) W → Calls Tryd.prog 65 #[.pointer (some ⟨r, 0, none⟩), .int .i64 0] W (Post r mp v ts W (.ok (x2, q2))))
    (hm2 : isMk (markAt ts q2) 1 ⟨#[101, 108, 115, 101]⟩ = true) (x3 : Ex) (q3 : Nat)
    (cp3 : ∀ W, w.grownBy W (some r) → Rdr r mp v ts (q2 + 1) W → Calls Tryd.prog 65 #[.pointer (some ⟨r, 0, none⟩), .int .i64 0] W (Post r mp v ts W (.ok (x3, q3)))) :
    Calls Tryd.prog 83 #[.pointer (some ⟨r, 0, none⟩)] w (Post r mp v ts w (.ok (⟨17, 0, ByteArray.empty, [x1, x2, x3]⟩, q3))) := by
  have b0 := (Below.refl w.heap.size w).alloc (Nat.le_refl _) (.cells #[.int .u8 0, .int .i64 0, .string ⟨#[]⟩, .slice none 0 0] 25)
  obtain ⟨y0, y1, hg, hr⟩ := moved (h.step b0) hp
  have hfew : (p : Int) < 140737488355328 := by have := h.few; omega
  have HG := hid (grown_on (grown_below b0 (some r)) hg)
  have HR := hid hr
  have H := hid h
  have HS := hid (show w.heap.size < ((w.alloc (.cells #[.int .u8 0, .int .i64 0, .string ⟨#[]⟩, .slice none 0 0] 25)).setCell ⟨r, 1, none⟩ (.int .i64 ((p : Int) + 1))).heap.size by simp [World.setCell])
  have HX := hid (show ((w.alloc (.cells #[.int .u8 0, .int .i64 0, .string ⟨#[]⟩, .slice none 0 0] 25)).setCell ⟨r, 1, none⟩ (.int .i64 ((p : Int) + 1))).heap[w.heap.size]? = _ from box_kept h.lt (World.grownBy.refl _ _))
  have c1 := fun W hW => pass_ok 1 (by omega) ⟨#[116, 104, 101, 110]⟩ r mp v ts q1 W hW hm1
  simp only [Int.cast_ofNat_Int] at c1
  have c2 := fun W hW => pass_ok 1 (by omega) ⟨#[101, 108, 115, 101]⟩ r mp v ts q2 W hW hm2
  simp only [Int.cast_ofNat_Int] at c2
  clear h hp hg hr b0 hm1 hm2
  go_enter Tryd.func83, Tryd.ntmps83
  go_wp2_with (first
    | (go_at_call 65; refine (cp1 _ HG.out HR.out).mono ?_; rintro e u1 ⟨g2, s1, rfl, st, h2⟩; obtain ⟨ao1, cap1, rfl⟩ := st.form; have b3 := (Below.refl u1.heap.size u1).alloc (Nat.le_refl _) (.cells (ex4 x1 (.slice ao1 x1.args.length cap1)) 25); have KK1 := hid (Keep.new st HS.out g2.size); have gg := grown_on g2 (grown_below b3 (some r)); have GA1 := hid (grown_on HG.out gg); have XA1 := hid (kept HX.out gg H.out.lt); have SA1 := hid (Nat.lt_of_lt_of_le HS.out gg.size); have RA1 := hid (h2.step b3); clear g2 h2 st b3 gg cp1)
    | (go_at_call 82; refine (c1 _ RA1.out).mono ?_; rintro e t1 ⟨rfl, gg, h4⟩; have GP1 := hid (grown_on GA1.out gg); have XP1 := hid (kept XA1.out gg H.out.lt); have SP1 := hid (Nat.lt_of_lt_of_le SA1.out gg.size); have RP1 := hid h4; have KK1 := hid (KK1.out.grown gg H.out.lt); clear gg h4 c1)
    | (go_at_call 65; refine (cp2 _ GP1.out RP1.out).mono ?_; rintro e u2 ⟨g2, s2, rfl, st, h2⟩; obtain ⟨ao2, cap2, rfl⟩ := st.form; have b3 := (Below.refl u2.heap.size u2).alloc (Nat.le_refl _) (.cells (ex4 x2 (.slice ao2 x2.args.length cap2)) 25); have KK2 := hid (Keep.new st SP1.out g2.size); have gg := grown_on g2 (grown_below b3 (some r)); have GA2 := hid (grown_on GP1.out gg); have XA2 := hid (kept XP1.out gg H.out.lt); have SA2 := hid (Nat.lt_of_lt_of_le SP1.out gg.size); have RA2 := hid (h2.step b3); have KK1 := hid (KK1.out.grown gg H.out.lt); clear g2 h2 st b3 gg cp2)
    | (go_at_call 82; refine (c2 _ RA2.out).mono ?_; rintro e t2 ⟨rfl, gg, h4⟩; have GP2 := hid (grown_on GA2.out gg); have XP2 := hid (kept XA2.out gg H.out.lt); have SP2 := hid (Nat.lt_of_lt_of_le SA2.out gg.size); have RP2 := hid h4; have KK1 := hid (KK1.out.grown gg H.out.lt); have KK2 := hid (KK2.out.grown gg H.out.lt); clear gg h4 c2)
    | (go_at_call 65; refine (cp3 _ GP2.out RP2.out).mono ?_; rintro e u3 ⟨g2, s3, rfl, st, h2⟩; obtain ⟨ao3, cap3, rfl⟩ := st.form; have b3 := (Below.refl u3.heap.size u3).alloc (Nat.le_refl _) (.cells (ex4 x3 (.slice ao3 x3.args.length cap3)) 25); have KK3 := hid (Keep.new st SP2.out g2.size); have gg := grown_on g2 (grown_below b3 (some r)); have GA3 := hid (grown_on GP2.out gg); have XA3 := hid (kept XP2.out gg H.out.lt); have SA3 := hid (Nat.lt_of_lt_of_le SP2.out gg.size); have RA3 := hid (h2.step b3); have KK1 := hid (KK1.out.grown gg H.out.lt); have KK2 := hid (KK2.out.grown gg H.out.lt); clear g2 h2 st b3 gg cp3)
    | (refine wpList_load_row rfl 25 _ rfl u1.heap.size rfl 25 (ex4 x1 (.slice ao1 x1.args.length cap1)) (0, 0) _ KK1.out.row Tryd.underlying25 rfl info25 ?_)
    | (refine wpList_load_row rfl 25 _ rfl u2.heap.size rfl 25 (ex4 x2 (.slice ao2 x2.args.length cap2)) (0, 0) _ KK2.out.row Tryd.underlying25 rfl info25 ?_)
    | (refine wpList_load_row rfl 25 _ rfl u3.heap.size rfl 25 (ex4 x3 (.slice ao3 x3.args.length cap3)) (0, 0) _ KK3.out.row Tryd.underlying25 rfl info25 ?_)
    | (obtain ⟨ie, hie, hz, hsz⟩ := inf25; refine wpList_buildSlice rfl 23 25 3 _ rfl (ex4 x1 (.slice ao1 x1.args.length cap1) ++ ex4 x2 (.slice ao2 x2.args.length cap2) ++ ex4 x3 (.slice ao3 x3.args.length cap3)) ie z25 Tryd.underlying23 hie hz (by rw [hsz]; decide) (by rw [hsz]; decide) (by rw [hsz]; simp only [List.map_toArray, List.map_cons, List.map_nil]; exact fill3 x1 x2 x3 ao1 ao2 ao3 _ _ _ _ _ _) ?_; clear hie hz hsz; have hbx7 := kept XA3.out (grown_below ((Below.refl _ _).alloc (Nat.le_refl _) (.cells (ex4 x1 (.slice ao1 x1.args.length cap1) ++ ex4 x2 (.slice ao2 x2.args.length cap2) ++ ex4 x3 (.slice ao3 x3.args.length cap3)) 25)) (some r)) H.out.lt)
    | (refine wpList_store_row rfl 25 _ _ rfl w.heap.size #[.int .u8 17, .int .i64 0, .string ⟨#[]⟩, .slice (some ⟨u3.heap.size + 1, 0, none⟩) 3 3] rfl rfl 25 _ hbx7 info25 rfl (by simp [Value.oneCell']) ?_))
  have b7 := (Below.refl (u3.alloc (.cells (ex4 x3 (.slice ao3 x3.args.length cap3)) 25)).heap.size (u3.alloc (.cells (ex4 x3 (.slice ao3 x3.args.length cap3)) 25))).alloc (Nat.le_refl _) (.cells (ex4 x1 (.slice ao1 x1.args.length cap1) ++ ex4 x2 (.slice ao2 x2.args.length cap2) ++ ex4 x3 (.slice ao3 x3.args.length cap3)) 25)
  have hl3 := KK3.out.lt
  have hc := heap_alloc_new (u3.alloc (.cells (ex4 x3 (.slice ao3 x3.args.length cap3)) 25)) (.cells (ex4 x1 (.slice ao1 x1.args.length cap1) ++ ex4 x2 (.slice ao2 x2.args.length cap2) ++ ex4 x3 (.slice ao3 x3.args.length cap3)) 25)
  rw [show (u3.alloc (.cells (ex4 x3 (.slice ao3 x3.args.length cap3)) 25)).heap.size = u3.heap.size + 1 by simp] at hc
  have cr : ∀ (x : Ex) (s : Value), StP (fun k => w.heap.size < k) (u3.alloc (.cells (ex4 x3 (.slice ao3 x3.args.length cap3)) 25)) x s → StP (fun k => w.heap.size ≤ k) (((u3.alloc (.cells (ex4 x3 (.slice ao3 x3.args.length cap3)) 25)).alloc (.cells (ex4 x1 (.slice ao1 x1.args.length cap1) ++ ex4 x2 (.slice ao2 x2.args.length cap2) ++ ex4 x3 (.slice ao3 x3.args.length cap3)) 25)).setRow w.heap.size #[.int .u8 17, .int .i64 0, .string ⟨#[]⟩, .slice (some ⟨u3.heap.size + 1, 0, none⟩) 3 3]) x s := fun x s hs =>
    StP.carryN (fun b hb hl => (setRow_other _ _ _ _ (by omega)).trans (b7.block b hl)) (fun b _ hb => Nat.le_of_lt hb) _ x s (Nat.le_refl _) hs
  refine bodyPost_ret (results_cell_row rfl _ _ w.heap.size 25 #[.int .u8 17, .int .i64 0, .string ⟨#[]⟩, .slice (some ⟨u3.heap.size + 1, 0, none⟩) 3 3] (0, 0) _ rfl (setRow_heap _ _ _ _ _ _ hbx7) Tryd.underlying25 rfl info25) rfl ⟨grown_setRow (grown_on GA3.out (grown_below b7 _)) _, _, rfl, ?_, H.out.setRow (RA3.out.step b7) _⟩
  exact StP.three 17 (by omega) (u3.heap.size + 1) (by show w.heap.size ≤ u3.heap.size + 1; omega) (cr _ _ KK1.out.st) (cr _ _ KK2.out.st) (cr _ _ KK3.out.st) ((setRow_other _ _ _ _ (by omega)).trans hc)
set_option maxRecDepth 100000 in
set_option maxHeartbeats 2000000 in
theorem choice_bad1 (r mp : Nat) (v : Value) (ts : List Mark) (p : Nat) (w : World) (h : Rdr r mp v ts p w) (hp : p < ts.length) (n q : Nat)
    (cp1 : ∀ W, w.grownBy W (some r) → Rdr r mp v ts (p + 1) W → Calls Tryd.prog 65 #[.pointer (some ⟨r, 0, none⟩), .int .i64 0] W (Post r mp v ts W (.error (n, q)))) :
    Calls Tryd.prog 83 #[.pointer (some ⟨r, 0, none⟩)] w (Post r mp v ts w (.error (n, q))) := by
  have b0 := (Below.refl w.heap.size w).alloc (Nat.le_refl _) (.cells #[.int .u8 0, .int .i64 0, .string ⟨#[]⟩, .slice none 0 0] 25)
  obtain ⟨y0, y1, hg, hr⟩ := moved (h.step b0) hp
  have hfew : (p : Int) < 140737488355328 := by have := h.few; omega
  have HG := hid (grown_on (grown_below b0 (some r)) hg)
  have HR := hid hr
  have H := hid h
  have HS := hid (show w.heap.size < ((w.alloc (.cells #[.int .u8 0, .int .i64 0, .string ⟨#[]⟩, .slice none 0 0] 25)).setCell ⟨r, 1, none⟩ (.int .i64 ((p : Int) + 1))).heap.size by simp [World.setCell])
  have HX := hid (show ((w.alloc (.cells #[.int .u8 0, .int .i64 0, .string ⟨#[]⟩, .slice none 0 0] 25)).setCell ⟨r, 1, none⟩ (.int .i64 ((p : Int) + 1))).heap[w.heap.size]? = _ from box_kept h.lt (World.grownBy.refl _ _))
  clear h hp hg hr b0
  go_enter Tryd.func83, Tryd.ntmps83
  go_wp2_with (first
    | (go_at_call 65; refine (cp1 _ HG.out HR.out).mono ?_; rintro e u1 ⟨gb, rfl, hb⟩; have GB := hid (grown_on HG.out gb); have HB := hid hb; clear gb hb cp1))
  exact ⟨rfl, GB.out, rfl, HB.out⟩
set_option maxRecDepth 100000 in
set_option maxHeartbeats 2000000 in
theorem choice_bad2 (r mp : Nat) (v : Value) (ts : List Mark) (p : Nat) (w : World) (h : Rdr r mp v ts p w) (hp : p < ts.length) (x1 : Ex) (q1 : Nat)
    (cp1 : ∀ W, w.grownBy W (some r) → Rdr r mp v ts (p + 1) W → Calls Tryd.prog 65 #[.pointer (some ⟨r, 0, none⟩), .int .i64 0] W (Post r mp v ts W (.ok (x1, q1))))
    (hm1 : isMk (markAt ts q1) 1 ⟨#[116, 104, 101, 110]⟩ = false) :
    Calls Tryd.prog 83 #[.pointer (some ⟨r, 0, none⟩)] w (Post r mp v ts w (.error (5, q1))) := by
  have b0 := (Below.refl w.heap.size w).alloc (Nat.le_refl _) (.cells #[.int .u8 0, .int .i64 0, .string ⟨#[]⟩, .slice none 0 0] 25)
  obtain ⟨y0, y1, hg, hr⟩ := moved (h.step b0) hp
  have hfew : (p : Int) < 140737488355328 := by have := h.few; omega
  have HG := hid (grown_on (grown_below b0 (some r)) hg)
  have HR := hid hr
  have H := hid h
  have HS := hid (show w.heap.size < ((w.alloc (.cells #[.int .u8 0, .int .i64 0, .string ⟨#[]⟩, .slice none 0 0] 25)).setCell ⟨r, 1, none⟩ (.int .i64 ((p : Int) + 1))).heap.size by simp [World.setCell])
  have HX := hid (show ((w.alloc (.cells #[.int .u8 0, .int .i64 0, .string ⟨#[]⟩, .slice none 0 0] 25)).setCell ⟨r, 1, none⟩ (.int .i64 ((p : Int) + 1))).heap[w.heap.size]? = _ from box_kept h.lt (World.grownBy.refl _ _))
  have c1 := fun W hW => pass_bad 1 ⟨#[116, 104, 101, 110]⟩ r mp v ts q1 W hW hm1
  simp only [Int.cast_ofNat_Int] at c1
  clear h hp hg hr b0 hm1
  go_enter Tryd.func83, Tryd.ntmps83
  go_wp2_with (first
    | (go_at_call 65; refine (cp1 _ HG.out HR.out).mono ?_; rintro e u1 ⟨g2, s1, rfl, st, h2⟩; obtain ⟨ao1, cap1, rfl⟩ := st.form; have b3 := (Below.refl u1.heap.size u1).alloc (Nat.le_refl _) (.cells (ex4 x1 (.slice ao1 x1.args.length cap1)) 25); have KK1 := hid (Keep.new st HS.out g2.size); have gg := grown_on g2 (grown_below b3 (some r)); have GA1 := hid (grown_on HG.out gg); have XA1 := hid (kept HX.out gg H.out.lt); have SA1 := hid (Nat.lt_of_lt_of_le HS.out gg.size); have RA1 := hid (h2.step b3); clear g2 h2 st b3 gg cp1)
    | (go_at_call 82; refine (c1 _ RA1.out).mono ?_; rintro e t1 ⟨rfl, b4⟩; have B4 := hid b4; clear b4 c1))
  exact ⟨rfl, grown_on GA1.out (grown_below B4.out _), rfl, RA1.out.step B4.out⟩
set_option maxRecDepth 100000 in
set_option maxHeartbeats 2000000 in
theorem choice_bad3 (r mp : Nat) (v : Value) (ts : List Mark) (p : Nat) (w : World) (h : Rdr r mp v ts p w) (hp : p < ts.length) (x1 : Ex) (q1 : Nat)
    (cp1 : ∀ W, w.grownBy W (some r) → Rdr r mp v ts (p + 1) W → Calls Tryd.prog 65 #[.pointer (some ⟨r, 0, none⟩), .int .i64 0] W (Post r mp v ts W (.ok (x1, q1))))
    (hm1 : isMk (markAt ts q1) 1 ⟨#[116, 104, 101, 110]⟩ = true) (n q : Nat)
    (cp2 : ∀ W, w.grownBy W (some r) → Rdr r mp v ts (q1 + 1) W → Calls Tryd.prog 65 #[.pointer (some ⟨r, 0, none⟩), .int .i64 0] W (Post r mp v ts W (.error (n, q)))) :
    Calls Tryd.prog 83 #[.pointer (some ⟨r, 0, none⟩)] w (Post r mp v ts w (.error (n, q))) := by
  have b0 := (Below.refl w.heap.size w).alloc (Nat.le_refl _) (.cells #[.int .u8 0, .int .i64 0, .string ⟨#[]⟩, .slice none 0 0] 25)
  obtain ⟨y0, y1, hg, hr⟩ := moved (h.step b0) hp
  have hfew : (p : Int) < 140737488355328 := by have := h.few; omega
  have HG := hid (grown_on (grown_below b0 (some r)) hg)
  have HR := hid hr
  have H := hid h
  have HS := hid (show w.heap.size < ((w.alloc (.cells #[.int .u8 0, .int .i64 0, .string ⟨#[]⟩, .slice none 0 0] 25)).setCell ⟨r, 1, none⟩ (.int .i64 ((p : Int) + 1))).heap.size by simp [World.setCell])
  have HX := hid (show ((w.alloc (.cells #[.int .u8 0, .int .i64 0, .string ⟨#[]⟩, .slice none 0 0] 25)).setCell ⟨r, 1, none⟩ (.int .i64 ((p : Int) + 1))).heap[w.heap.size]? = _ from box_kept h.lt (World.grownBy.refl _ _))
  have c1 := fun W hW => pass_ok 1 (by omega) ⟨#[116, 104, 101, 110]⟩ r mp v ts q1 W hW hm1
  simp only [Int.cast_ofNat_Int] at c1
  clear h hp hg hr b0 hm1
  go_enter Tryd.func83, Tryd.ntmps83
  go_wp2_with (first
    | (go_at_call 65; refine (cp1 _ HG.out HR.out).mono ?_; rintro e u1 ⟨g2, s1, rfl, st, h2⟩; obtain ⟨ao1, cap1, rfl⟩ := st.form; have b3 := (Below.refl u1.heap.size u1).alloc (Nat.le_refl _) (.cells (ex4 x1 (.slice ao1 x1.args.length cap1)) 25); have KK1 := hid (Keep.new st HS.out g2.size); have gg := grown_on g2 (grown_below b3 (some r)); have GA1 := hid (grown_on HG.out gg); have XA1 := hid (kept HX.out gg H.out.lt); have SA1 := hid (Nat.lt_of_lt_of_le HS.out gg.size); have RA1 := hid (h2.step b3); clear g2 h2 st b3 gg cp1)
    | (go_at_call 82; refine (c1 _ RA1.out).mono ?_; rintro e t1 ⟨rfl, gg, h4⟩; have GP1 := hid (grown_on GA1.out gg); have XP1 := hid (kept XA1.out gg H.out.lt); have SP1 := hid (Nat.lt_of_lt_of_le SA1.out gg.size); have RP1 := hid h4; have KK1 := hid (KK1.out.grown gg H.out.lt); clear gg h4 c1)
    | (go_at_call 65; refine (cp2 _ GP1.out RP1.out).mono ?_; rintro e u2 ⟨gb, rfl, hb⟩; have GB := hid (grown_on GP1.out gb); have HB := hid hb; clear gb hb cp2))
  exact ⟨rfl, GB.out, rfl, HB.out⟩
set_option maxRecDepth 100000 in
set_option maxHeartbeats 2000000 in
theorem choice_bad4 (r mp : Nat) (v : Value) (ts : List Mark) (p : Nat) (w : World) (h : Rdr r mp v ts p w) (hp : p < ts.length) (x1 : Ex) (q1 : Nat)
    (cp1 : ∀ W, w.grownBy W (some r) → Rdr r mp v ts (p + 1) W → Calls Tryd.prog 65 #[.pointer (some ⟨r, 0, none⟩), .int .i64 0] W (Post r mp v ts W (.ok (x1, q1))))
    (hm1 : isMk (markAt ts q1) 1 ⟨#[116, 104, 101, 110]⟩ = true) (x2 : Ex) (q2 : Nat)
    (cp2 : ∀ W, w.grownBy W (some r) → Rdr r mp v ts (q1 + 1) W → Calls Tryd.prog 65 #[.pointer (some ⟨r, 0, none⟩), .int .i64 0] W (Post r mp v ts W (.ok (x2, q2))))
    (hm2 : isMk (markAt ts q2) 1 ⟨#[101, 108, 115, 101]⟩ = false) :
    Calls Tryd.prog 83 #[.pointer (some ⟨r, 0, none⟩)] w (Post r mp v ts w (.error (5, q2))) := by
  have b0 := (Below.refl w.heap.size w).alloc (Nat.le_refl _) (.cells #[.int .u8 0, .int .i64 0, .string ⟨#[]⟩, .slice none 0 0] 25)
  obtain ⟨y0, y1, hg, hr⟩ := moved (h.step b0) hp
  have hfew : (p : Int) < 140737488355328 := by have := h.few; omega
  have HG := hid (grown_on (grown_below b0 (some r)) hg)
  have HR := hid hr
  have H := hid h
  have HS := hid (show w.heap.size < ((w.alloc (.cells #[.int .u8 0, .int .i64 0, .string ⟨#[]⟩, .slice none 0 0] 25)).setCell ⟨r, 1, none⟩ (.int .i64 ((p : Int) + 1))).heap.size by simp [World.setCell])
  have HX := hid (show ((w.alloc (.cells #[.int .u8 0, .int .i64 0, .string ⟨#[]⟩, .slice none 0 0] 25)).setCell ⟨r, 1, none⟩ (.int .i64 ((p : Int) + 1))).heap[w.heap.size]? = _ from box_kept h.lt (World.grownBy.refl _ _))
  have c1 := fun W hW => pass_ok 1 (by omega) ⟨#[116, 104, 101, 110]⟩ r mp v ts q1 W hW hm1
  simp only [Int.cast_ofNat_Int] at c1
  have c2 := fun W hW => pass_bad 1 ⟨#[101, 108, 115, 101]⟩ r mp v ts q2 W hW hm2
  simp only [Int.cast_ofNat_Int] at c2
  clear h hp hg hr b0 hm1 hm2
  go_enter Tryd.func83, Tryd.ntmps83
  go_wp2_with (first
    | (go_at_call 65; refine (cp1 _ HG.out HR.out).mono ?_; rintro e u1 ⟨g2, s1, rfl, st, h2⟩; obtain ⟨ao1, cap1, rfl⟩ := st.form; have b3 := (Below.refl u1.heap.size u1).alloc (Nat.le_refl _) (.cells (ex4 x1 (.slice ao1 x1.args.length cap1)) 25); have KK1 := hid (Keep.new st HS.out g2.size); have gg := grown_on g2 (grown_below b3 (some r)); have GA1 := hid (grown_on HG.out gg); have XA1 := hid (kept HX.out gg H.out.lt); have SA1 := hid (Nat.lt_of_lt_of_le HS.out gg.size); have RA1 := hid (h2.step b3); clear g2 h2 st b3 gg cp1)
    | (go_at_call 82; refine (c1 _ RA1.out).mono ?_; rintro e t1 ⟨rfl, gg, h4⟩; have GP1 := hid (grown_on GA1.out gg); have XP1 := hid (kept XA1.out gg H.out.lt); have SP1 := hid (Nat.lt_of_lt_of_le SA1.out gg.size); have RP1 := hid h4; have KK1 := hid (KK1.out.grown gg H.out.lt); clear gg h4 c1)
    | (go_at_call 65; refine (cp2 _ GP1.out RP1.out).mono ?_; rintro e u2 ⟨g2, s2, rfl, st, h2⟩; obtain ⟨ao2, cap2, rfl⟩ := st.form; have b3 := (Below.refl u2.heap.size u2).alloc (Nat.le_refl _) (.cells (ex4 x2 (.slice ao2 x2.args.length cap2)) 25); have KK2 := hid (Keep.new st SP1.out g2.size); have gg := grown_on g2 (grown_below b3 (some r)); have GA2 := hid (grown_on GP1.out gg); have XA2 := hid (kept XP1.out gg H.out.lt); have SA2 := hid (Nat.lt_of_lt_of_le SP1.out gg.size); have RA2 := hid (h2.step b3); have KK1 := hid (KK1.out.grown gg H.out.lt); clear g2 h2 st b3 gg cp2)
    | (go_at_call 82; refine (c2 _ RA2.out).mono ?_; rintro e t2 ⟨rfl, b4⟩; have B4 := hid b4; clear b4 c2))
  exact ⟨rfl, grown_on GA2.out (grown_below B4.out _), rfl, RA2.out.step B4.out⟩
set_option maxRecDepth 100000 in
set_option maxHeartbeats 2000000 in
theorem choice_bad5 (r mp : Nat) (v : Value) (ts : List Mark) (p : Nat) (w : World) (h : Rdr r mp v ts p w) (hp : p < ts.length) (x1 : Ex) (q1 : Nat)
    (cp1 : ∀ W, w.grownBy W (some r) → Rdr r mp v ts (p + 1) W → Calls Tryd.prog 65 #[.pointer (some ⟨r, 0, none⟩), .int .i64 0] W (Post r mp v ts W (.ok (x1, q1))))
    (hm1 : isMk (markAt ts q1) 1 ⟨#[116, 104, 101, 110]⟩ = true) (x2 : Ex) (q2 : Nat)
    (cp2 : ∀ W, w.grownBy W (some r) → Rdr r mp v ts (q1 + 1) W → Calls Tryd.prog 65 #[.pointer (some ⟨r, 0, none⟩), .int .i64 0] W (Post r mp v ts W (.ok (x2, q2))))
    (hm2 : isMk (markAt ts q2) 1 ⟨#[101, 108, 115, 101]⟩ = true) (n q : Nat)
    (cp3 : ∀ W, w.grownBy W (some r) → Rdr r mp v ts (q2 + 1) W → Calls Tryd.prog 65 #[.pointer (some ⟨r, 0, none⟩), .int .i64 0] W (Post r mp v ts W (.error (n, q)))) :
    Calls Tryd.prog 83 #[.pointer (some ⟨r, 0, none⟩)] w (Post r mp v ts w (.error (n, q))) := by
  have b0 := (Below.refl w.heap.size w).alloc (Nat.le_refl _) (.cells #[.int .u8 0, .int .i64 0, .string ⟨#[]⟩, .slice none 0 0] 25)
  obtain ⟨y0, y1, hg, hr⟩ := moved (h.step b0) hp
  have hfew : (p : Int) < 140737488355328 := by have := h.few; omega
  have HG := hid (grown_on (grown_below b0 (some r)) hg)
  have HR := hid hr
  have H := hid h
  have HS := hid (show w.heap.size < ((w.alloc (.cells #[.int .u8 0, .int .i64 0, .string ⟨#[]⟩, .slice none 0 0] 25)).setCell ⟨r, 1, none⟩ (.int .i64 ((p : Int) + 1))).heap.size by simp [World.setCell])
  have HX := hid (show ((w.alloc (.cells #[.int .u8 0, .int .i64 0, .string ⟨#[]⟩, .slice none 0 0] 25)).setCell ⟨r, 1, none⟩ (.int .i64 ((p : Int) + 1))).heap[w.heap.size]? = _ from box_kept h.lt (World.grownBy.refl _ _))
  have c1 := fun W hW => pass_ok 1 (by omega) ⟨#[116, 104, 101, 110]⟩ r mp v ts q1 W hW hm1
  simp only [Int.cast_ofNat_Int] at c1
  have c2 := fun W hW => pass_ok 1 (by omega) ⟨#[101, 108, 115, 101]⟩ r mp v ts q2 W hW hm2
  simp only [Int.cast_ofNat_Int] at c2
  clear h hp hg hr b0 hm1 hm2
  go_enter Tryd.func83, Tryd.ntmps83
  go_wp2_with (first
    | (go_at_call 65; refine (cp1 _ HG.out HR.out).mono ?_; rintro e u1 ⟨g2, s1, rfl, st, h2⟩; obtain ⟨ao1, cap1, rfl⟩ := st.form; have b3 := (Below.refl u1.heap.size u1).alloc (Nat.le_refl _) (.cells (ex4 x1 (.slice ao1 x1.args.length cap1)) 25); have KK1 := hid (Keep.new st HS.out g2.size); have gg := grown_on g2 (grown_below b3 (some r)); have GA1 := hid (grown_on HG.out gg); have XA1 := hid (kept HX.out gg H.out.lt); have SA1 := hid (Nat.lt_of_lt_of_le HS.out gg.size); have RA1 := hid (h2.step b3); clear g2 h2 st b3 gg cp1)
    | (go_at_call 82; refine (c1 _ RA1.out).mono ?_; rintro e t1 ⟨rfl, gg, h4⟩; have GP1 := hid (grown_on GA1.out gg); have XP1 := hid (kept XA1.out gg H.out.lt); have SP1 := hid (Nat.lt_of_lt_of_le SA1.out gg.size); have RP1 := hid h4; have KK1 := hid (KK1.out.grown gg H.out.lt); clear gg h4 c1)
    | (go_at_call 65; refine (cp2 _ GP1.out RP1.out).mono ?_; rintro e u2 ⟨g2, s2, rfl, st, h2⟩; obtain ⟨ao2, cap2, rfl⟩ := st.form; have b3 := (Below.refl u2.heap.size u2).alloc (Nat.le_refl _) (.cells (ex4 x2 (.slice ao2 x2.args.length cap2)) 25); have KK2 := hid (Keep.new st SP1.out g2.size); have gg := grown_on g2 (grown_below b3 (some r)); have GA2 := hid (grown_on GP1.out gg); have XA2 := hid (kept XP1.out gg H.out.lt); have SA2 := hid (Nat.lt_of_lt_of_le SP1.out gg.size); have RA2 := hid (h2.step b3); have KK1 := hid (KK1.out.grown gg H.out.lt); clear g2 h2 st b3 gg cp2)
    | (go_at_call 82; refine (c2 _ RA2.out).mono ?_; rintro e t2 ⟨rfl, gg, h4⟩; have GP2 := hid (grown_on GA2.out gg); have XP2 := hid (kept XA2.out gg H.out.lt); have SP2 := hid (Nat.lt_of_lt_of_le SA2.out gg.size); have RP2 := hid h4; have KK1 := hid (KK1.out.grown gg H.out.lt); have KK2 := hid (KK2.out.grown gg H.out.lt); clear gg h4 c2)
    | (go_at_call 65; refine (cp3 _ GP2.out RP2.out).mono ?_; rintro e u3 ⟨gb, rfl, hb⟩; have GB := hid (grown_on GP2.out gb); have HB := hid hb; clear gb hb cp3))
  exact ⟨rfl, GB.out, rfl, HB.out⟩
end Go.Proofs.YtkieljleopbhoaaDoor.Lex
