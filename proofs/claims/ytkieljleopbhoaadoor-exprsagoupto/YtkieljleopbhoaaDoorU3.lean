/-
  The three signs of one, and brackets: the contracts over those of one, part, pass.
  A choice, read: the contract of choice, over those of part and pass.
  The law of the keys of atoms.
  A mark as a key.
  The map of the atoms, as its eight entries are laid in any order.
  The contract of atoms: eight entries, laid in any order.
  The reader as a plain function of the tokens: what a part is, and how it goes on.
  The plain reader: what is read is not nothing; enough steps are enough.
  The plain reader: enough steps are enough.
  What may stand in any place: the contract of atom.
  Whether it may be: how great it is, part by part; the contracts of fits and Check.
  As it is written: plain mathematics.
-/
import Derived.Test.YtkieljleopbhoaaDoorU2
import Derived.DeepKeys4
import Derived.Maps.Keyed
import Derived.Deep.RegionHeld3
import Derived.BigQuiet
import Derived.Lib.ItoaNum
import Derived.Lib.Small
namespace Go.Proofs.YtkieljleopbhoaaDoor.Lex
open Go.ChangeShapes Go.WideShapes Go.ChangeAt Go.RowKit Go.Joins
/-- What comes of a call, handed on from a box. -/
theorem Post.boxed {r mp : Nat} {v : Value} {ts : List Mark} {p q : Nat} {x : Ex} {s : Value} {w w2 : World} (h : Rdr r mp v ts p w) (b0 : Below w.heap.size w (w.alloc (.cells #[.int .u8 0, .int .i64 0, .string ⟨#[]⟩, .slice none 0 0] 25))) (g2 : (w.alloc (.cells #[.int .u8 0, .int .i64 0, .string ⟨#[]⟩, .slice none 0 0] 25)).grownBy w2 (some r)) (st : StP (fun b => (w.alloc (.cells #[.int .u8 0, .int .i64 0, .string ⟨#[]⟩, .slice none 0 0] 25)).heap.size ≤ b) w2 x s) (h2 : Rdr r mp v ts q w2) (d : Array Value) :
    w.grownBy (w2.setRow w.heap.size d) (some r) ∧ StP (fun b => w.heap.size ≤ b) (w2.setRow w.heap.size d) x s ∧ Rdr r mp v ts q (w2.setRow w.heap.size d) := by
  refine ⟨grown_setRow (grown_on (grown_below b0 _) g2) d, ?_, h.setRow h2 d⟩
  refine StP.carryN (fun b hb hl => ?_) (fun b _ hb => ?_) _ x _ (Nat.le_refl _) st
  · simp at hb
    exact setRow_other _ _ _ _ (by omega)
  · simp at hb
    show w.heap.size ≤ b
    omega
theorem box_there {w w2 : World} {r : Nat} {c : Array Value} {t : TypeId} (hr : r < w.heap.size) (g : (w.alloc (.cells c t)).grownBy w2 (some r)) : w2.heap[w.heap.size]? = some (.cells c t (0, 0)) := by
  rw [g.block _ (by simp) (fun e => by injection e; omega)]
  exact heap_alloc_new w _
set_option maxRecDepth 100000 in
set_option maxHeartbeats 1000000 in
theorem neg_ok (r mp : Nat) (v : Value) (ts : List Mark) (p q : Nat) (x : Ex) (w : World) (h : Rdr r mp v ts p w)
    (c : ∀ W, Below w.heap.size w W → Calls Tryd.prog 61 #[.pointer (some ⟨r, 0, none⟩), .int .u8 4] W (Post r mp v ts W (.ok (x, q)))) : Calls Tryd.prog 60 #[.pointer (some ⟨r, 0, none⟩)] w (Post r mp v ts w (.ok (x, q))) := by
  have b0 := (Below.refl w.heap.size w).alloc (Nat.le_refl _) (.cells #[.int .u8 0, .int .i64 0, .string ⟨#[]⟩, .slice none 0 0] 25)
  have B0 := hid b0
  have H := hid h
  clear h b0
  go_enter Tryd.func60, Tryd.ntmps60
  go_wp2_with (first
    | (go_at_call 61; refine (c _ B0.out).mono ?_; rintro e w2 ⟨g2, s, rfl, st, h2⟩; obtain ⟨ao, cap, rfl⟩ := st.form; have hbx := box_there H.out.lt g2; have Q := hid (Post.boxed H.out B0.out g2 st h2 (ex4 x (.slice ao x.args.length cap))); clear g2 st h2 c)
    | (refine wpList_store_row rfl 25 _ _ rfl w.heap.size (ex4 x (.slice ao x.args.length cap)) rfl rfl 25 _ hbx info25 rfl (by simp [Value.oneCell', ex4]) ?_))
  exact bodyPost_ret (results_cell_row rfl _ _ w.heap.size 25 (ex4 x (.slice ao x.args.length cap)) (0, 0) _ rfl (setRow_heap _ _ _ _ _ _ hbx) Tryd.underlying25 rfl info25) rfl ⟨Q.out.1, _, rfl, Q.out.2.1, Q.out.2.2⟩
set_option maxRecDepth 100000 in
set_option maxHeartbeats 1000000 in
theorem neg_bad (r mp : Nat) (v : Value) (ts : List Mark) (n q : Nat) (w : World)
    (c : ∀ W, Below w.heap.size w W → Calls Tryd.prog 61 #[.pointer (some ⟨r, 0, none⟩), .int .u8 4] W (Post r mp v ts W (.error (n, q)))) : Calls Tryd.prog 60 #[.pointer (some ⟨r, 0, none⟩)] w (Post r mp v ts w (.error (n, q))) := by
  have b0 := (Below.refl w.heap.size w).alloc (Nat.le_refl _) (.cells #[.int .u8 0, .int .i64 0, .string ⟨#[]⟩, .slice none 0 0] 25)
  have B0 := hid b0
  clear b0
  go_enter Tryd.func60, Tryd.ntmps60
  go_wp2_with (go_at_call 61; refine (c _ B0.out).mono ?_; rintro e w2 ⟨g2, rfl, h2⟩; have G2 := hid g2; have H2 := hid h2; clear g2 h2 c)
  exact ⟨rfl, grown_on (grown_below B0.out _) G2.out, rfl, H2.out⟩
set_option maxRecDepth 100000 in
set_option maxHeartbeats 1000000 in
theorem not_ok (r mp : Nat) (v : Value) (ts : List Mark) (p q : Nat) (x : Ex) (w : World) (h : Rdr r mp v ts p w)
    (c : ∀ W, Below w.heap.size w W → Calls Tryd.prog 61 #[.pointer (some ⟨r, 0, none⟩), .int .u8 5] W (Post r mp v ts W (.ok (x, q)))) : Calls Tryd.prog 62 #[.pointer (some ⟨r, 0, none⟩)] w (Post r mp v ts w (.ok (x, q))) := by
  have b0 := (Below.refl w.heap.size w).alloc (Nat.le_refl _) (.cells #[.int .u8 0, .int .i64 0, .string ⟨#[]⟩, .slice none 0 0] 25)
  have B0 := hid b0
  have H := hid h
  clear h b0
  go_enter Tryd.func62, Tryd.ntmps62
  go_wp2_with (first
    | (go_at_call 61; refine (c _ B0.out).mono ?_; rintro e w2 ⟨g2, s, rfl, st, h2⟩; obtain ⟨ao, cap, rfl⟩ := st.form; have hbx := box_there H.out.lt g2; have Q := hid (Post.boxed H.out B0.out g2 st h2 (ex4 x (.slice ao x.args.length cap))); clear g2 st h2 c)
    | (refine wpList_store_row rfl 25 _ _ rfl w.heap.size (ex4 x (.slice ao x.args.length cap)) rfl rfl 25 _ hbx info25 rfl (by simp [Value.oneCell', ex4]) ?_))
  exact bodyPost_ret (results_cell_row rfl _ _ w.heap.size 25 (ex4 x (.slice ao x.args.length cap)) (0, 0) _ rfl (setRow_heap _ _ _ _ _ _ hbx) Tryd.underlying25 rfl info25) rfl ⟨Q.out.1, _, rfl, Q.out.2.1, Q.out.2.2⟩
set_option maxRecDepth 100000 in
set_option maxHeartbeats 1000000 in
theorem not_bad (r mp : Nat) (v : Value) (ts : List Mark) (n q : Nat) (w : World)
    (c : ∀ W, Below w.heap.size w W → Calls Tryd.prog 61 #[.pointer (some ⟨r, 0, none⟩), .int .u8 5] W (Post r mp v ts W (.error (n, q)))) : Calls Tryd.prog 62 #[.pointer (some ⟨r, 0, none⟩)] w (Post r mp v ts w (.error (n, q))) := by
  have b0 := (Below.refl w.heap.size w).alloc (Nat.le_refl _) (.cells #[.int .u8 0, .int .i64 0, .string ⟨#[]⟩, .slice none 0 0] 25)
  have B0 := hid b0
  clear b0
  go_enter Tryd.func62, Tryd.ntmps62
  go_wp2_with (go_at_call 61; refine (c _ B0.out).mono ?_; rintro e w2 ⟨g2, rfl, h2⟩; have G2 := hid g2; have H2 := hid h2; clear g2 h2 c)
  exact ⟨rfl, grown_on (grown_below B0.out _) G2.out, rfl, H2.out⟩
set_option maxRecDepth 100000 in
set_option maxHeartbeats 1000000 in
theorem pre_ok (r mp : Nat) (v : Value) (ts : List Mark) (p q : Nat) (x : Ex) (w : World) (h : Rdr r mp v ts p w)
    (c : ∀ W, Below w.heap.size w W → Calls Tryd.prog 61 #[.pointer (some ⟨r, 0, none⟩), .int .u8 19] W (Post r mp v ts W (.ok (x, q)))) : Calls Tryd.prog 63 #[.pointer (some ⟨r, 0, none⟩)] w (Post r mp v ts w (.ok (x, q))) := by
  have b0 := (Below.refl w.heap.size w).alloc (Nat.le_refl _) (.cells #[.int .u8 0, .int .i64 0, .string ⟨#[]⟩, .slice none 0 0] 25)
  have B0 := hid b0
  have H := hid h
  clear h b0
  go_enter Tryd.func63, Tryd.ntmps63
  go_wp2_with (first
    | (go_at_call 61; refine (c _ B0.out).mono ?_; rintro e w2 ⟨g2, s, rfl, st, h2⟩; obtain ⟨ao, cap, rfl⟩ := st.form; have hbx := box_there H.out.lt g2; have Q := hid (Post.boxed H.out B0.out g2 st h2 (ex4 x (.slice ao x.args.length cap))); clear g2 st h2 c)
    | (refine wpList_store_row rfl 25 _ _ rfl w.heap.size (ex4 x (.slice ao x.args.length cap)) rfl rfl 25 _ hbx info25 rfl (by simp [Value.oneCell', ex4]) ?_))
  exact bodyPost_ret (results_cell_row rfl _ _ w.heap.size 25 (ex4 x (.slice ao x.args.length cap)) (0, 0) _ rfl (setRow_heap _ _ _ _ _ _ hbx) Tryd.underlying25 rfl info25) rfl ⟨Q.out.1, _, rfl, Q.out.2.1, Q.out.2.2⟩
set_option maxRecDepth 100000 in
set_option maxHeartbeats 1000000 in
theorem pre_bad (r mp : Nat) (v : Value) (ts : List Mark) (n q : Nat) (w : World)
    (c : ∀ W, Below w.heap.size w W → Calls Tryd.prog 61 #[.pointer (some ⟨r, 0, none⟩), .int .u8 19] W (Post r mp v ts W (.error (n, q)))) : Calls Tryd.prog 63 #[.pointer (some ⟨r, 0, none⟩)] w (Post r mp v ts w (.error (n, q))) := by
  have b0 := (Below.refl w.heap.size w).alloc (Nat.le_refl _) (.cells #[.int .u8 0, .int .i64 0, .string ⟨#[]⟩, .slice none 0 0] 25)
  have B0 := hid b0
  clear b0
  go_enter Tryd.func63, Tryd.ntmps63
  go_wp2_with (go_at_call 61; refine (c _ B0.out).mono ?_; rintro e w2 ⟨g2, rfl, h2⟩; have G2 := hid g2; have H2 := hid h2; clear g2 h2 c)
  exact ⟨rfl, grown_on (grown_below B0.out _) G2.out, rfl, H2.out⟩
set_option maxRecDepth 100000 in
set_option maxHeartbeats 1000000 in
theorem brackets_bad (r mp : Nat) (v : Value) (ts : List Mark) (p n q : Nat) (w : World) (h : Rdr r mp v ts p w) (hp : p < ts.length)
    (cp : ∀ W, w.grownBy W (some r) → Rdr r mp v ts (p + 1) W → Calls Tryd.prog 65 #[.pointer (some ⟨r, 0, none⟩), .int .i64 0] W (Post r mp v ts W (.error (n, q)))) :
    Calls Tryd.prog 59 #[.pointer (some ⟨r, 0, none⟩)] w (Post r mp v ts w (.error (n, q))) := by
  have b0 := (Below.refl w.heap.size w).alloc (Nat.le_refl _) (.cells #[.int .u8 0, .int .i64 0, .string ⟨#[]⟩, .slice none 0 0] 25)
  obtain ⟨y0, y1, hg, hr⟩ := moved (h.step b0) hp
  have hfew : (p : Int) < 140737488355328 := by have := h.few; omega
  have HG := hid (grown_on (grown_below b0 (some r)) hg)
  have HR := hid hr
  clear h hp hg hr b0
  go_enter Tryd.func59, Tryd.ntmps59
  go_wp2_with (go_at_call 65; refine (cp _ HG.out HR.out).mono ?_; rintro e w2 ⟨g2, rfl, h2⟩; have G2 := hid g2; have H2 := hid h2; clear g2 h2 cp)
  exact ⟨rfl, grown_on HG.out G2.out, rfl, H2.out⟩
set_option maxRecDepth 100000 in
set_option maxHeartbeats 1000000 in
theorem brackets_open (r mp : Nat) (v : Value) (ts : List Mark) (p q : Nat) (x : Ex) (w : World) (h : Rdr r mp v ts p w) (hp : p < ts.length)
    (cp : ∀ W, w.grownBy W (some r) → Rdr r mp v ts (p + 1) W → Calls Tryd.prog 65 #[.pointer (some ⟨r, 0, none⟩), .int .i64 0] W (Post r mp v ts W (.ok (x, q))))
    (hm : isMk (markAt ts q) 3 ⟨#[41]⟩ = false) :
    Calls Tryd.prog 59 #[.pointer (some ⟨r, 0, none⟩)] w (Post r mp v ts w (.error (5, q))) := by
  have b0 := (Below.refl w.heap.size w).alloc (Nat.le_refl _) (.cells #[.int .u8 0, .int .i64 0, .string ⟨#[]⟩, .slice none 0 0] 25)
  obtain ⟨y0, y1, hg, hr⟩ := moved (h.step b0) hp
  have hfew : (p : Int) < 140737488355328 := by have := h.few; omega
  have HG := hid (grown_on (grown_below b0 (some r)) hg)
  have HR := hid hr
  have c3 := fun W hW => pass_bad 3 ⟨#[41]⟩ r mp v ts q W hW hm
  simp only [Int.cast_ofNat_Int] at c3
  clear h hp hg hr b0 hm
  go_enter Tryd.func59, Tryd.ntmps59
  go_wp2_with (first
    | (go_at_call 65; refine (cp _ HG.out HR.out).mono ?_; rintro e w2 ⟨g2, s, rfl, st, h2⟩; obtain ⟨ao, cap, rfl⟩ := st.form; have b3 := (Below.refl w2.heap.size w2).alloc (Nat.le_refl _) (.cells (ex4 x (.slice ao x.args.length cap)) 25); have G2 := hid (grown_on (grown_on HG.out g2) (grown_below b3 _)); have H2 := hid (h2.step b3); clear g2 h2 st b3 cp)
    | (go_at_call 82; refine (c3 _ H2.out).mono ?_; rintro e w4 ⟨rfl, b4⟩; have B4 := hid b4; clear b4 c3))
  exact ⟨rfl, grown_on G2.out (grown_below B4.out _), rfl, H2.out.step B4.out⟩
set_option maxRecDepth 100000 in
set_option maxHeartbeats 1000000 in
theorem brackets_ok (r mp : Nat) (v : Value) (ts : List Mark) (p q : Nat) (x : Ex) (w : World) (h : Rdr r mp v ts p w) (hp : p < ts.length)
    (cp : ∀ W, w.grownBy W (some r) → Rdr r mp v ts (p + 1) W → Calls Tryd.prog 65 #[.pointer (some ⟨r, 0, none⟩), .int .i64 0] W (Post r mp v ts W (.ok (x, q))))
    (hm : isMk (markAt ts q) 3 ⟨#[41]⟩ = true) :
    Calls Tryd.prog 59 #[.pointer (some ⟨r, 0, none⟩)] w (Post r mp v ts w (.ok (x, q + 1))) := by
  have b0 := (Below.refl w.heap.size w).alloc (Nat.le_refl _) (.cells #[.int .u8 0, .int .i64 0, .string ⟨#[]⟩, .slice none 0 0] 25)
  obtain ⟨y0, y1, hg, hr⟩ := moved (h.step b0) hp
  have hfew : (p : Int) < 140737488355328 := by have := h.few; omega
  have HG := hid (grown_on (grown_below b0 (some r)) hg)
  have HR := hid hr
  have H := hid h
  have c3 := fun W hW => pass_ok 3 (by omega) ⟨#[41]⟩ r mp v ts q W hW hm
  simp only [Int.cast_ofNat_Int] at c3
  clear h hp hg hr b0 hm
  go_enter Tryd.func59, Tryd.ntmps59
  go_wp2_with (first
    | (go_at_call 65; refine (cp _ HG.out HR.out).mono ?_; rintro e w2 ⟨g2, s, rfl, st, h2⟩; obtain ⟨ao, cap, rfl⟩ := st.form; have b3 := (Below.refl w2.heap.size w2).alloc (Nat.le_refl _) (.cells (ex4 x (.slice ao x.args.length cap)) 25); have hbx := box_kept H.out.lt g2; have HBX := hid ((b3.block _ (Array.getElem?_eq_some_iff.1 hbx).1).trans hbx); have HL := hid (Array.getElem?_eq_some_iff.1 hbx).1; have ST := hid st; have B3 := hid b3; have G2 := hid (grown_on (grown_on HG.out g2) (grown_below b3 _)); have H2 := hid (h2.step b3); clear g2 h2 st b3 cp hbx)
    | (go_at_call 82; refine (c3 _ H2.out).mono ?_; rintro e w4 ⟨rfl, g4, h4⟩; have hbx4 := (g4.block _ (Array.getElem?_eq_some_iff.1 HBX.out).1 (fun e => by injection e; have := H.out.lt; omega)).trans HBX.out; have hx4 := (g4.block _ (Array.getElem?_eq_some_iff.1 (heap_alloc_new w2 _)).1 (fun e => by injection e; have := H.out.lt; have := HL.out; omega)).trans (heap_alloc_new w2 _); have G4 := hid g4; have H4 := hid h4; clear g4 h4 c3)
    | (refine wpList_load_row rfl 25 _ rfl w2.heap.size rfl 25 (ex4 x (.slice ao x.args.length cap)) (0, 0) _ hx4 Tryd.underlying25 rfl info25 ?_)
    | (refine wpList_store_row rfl 25 _ _ rfl w.heap.size (ex4 x (.slice ao x.args.length cap)) rfl rfl 25 _ hbx4 info25 rfl (by simp [Value.oneCell', ex4]) ?_))
  refine bodyPost_ret (results_cell_row rfl _ _ w.heap.size 25 (ex4 x (.slice ao x.args.length cap)) (0, 0) _ rfl (setRow_heap _ _ _ _ _ _ hbx4) Tryd.underlying25 rfl info25) rfl ⟨grown_setRow (grown_on G2.out G4.out) _, _, rfl, ?_, H.out.setRow H4.out _⟩
  refine StP.carryN (fun b hb hl => ?_) (fun b _ hb => ?_) _ x _ (Nat.le_refl _) ST.out
  · simp [World.setCell] at hb
    refine (setRow_other _ _ _ _ (by omega)).trans ((G4.out.block b (by have := B3.out.size; omega) (fun e => by injection e; have := H.out.lt; omega)).trans (B3.out.block b hl))
  · simp [World.setCell] at hb
    show w.heap.size ≤ b
    omega
end Go.Proofs.YtkieljleopbhoaaDoor.Lex
namespace Go.Proofs.YtkieljleopbhoaaDoor.Lex
open Go.ChangeShapes Go.WideShapes Go.ChangeAt Go.RowKit Go.Joins
theorem kept {W W' : World} {r k : Nat} {o : Obj} (h : W.heap[k]? = some o) (g : W.grownBy W' (some r)) (hk : r < k) : W'.heap[k]? = some o :=
  (g.block k (Array.getElem?_eq_some_iff.1 h).1 (fun e => by injection e; omega)).trans h
/-- A part that was read, in a row of its own behind a place. -/
structure Keep (N : Nat) (W : World) (b : Nat) (x : Ex) (s : Value) : Prop where
  row : W.heap[b]? = some (.cells (ex4 x s) 25 (0, 0))
  st : StP (fun k => N < k) W x s
  lt : N < b
theorem Keep.grown {N : Nat} {W W' : World} {b : Nat} {x : Ex} {s : Value} {r : Nat} (h : Keep N W b x s) (g : W.grownBy W' (some r)) (hr : r < N) : Keep N W' b x s :=
  ⟨kept h.row g (by have := h.lt; omega), h.st.carry fun k hk hl => g.block k hl (fun e => by injection e; omega), h.lt⟩
theorem Keep.new {N : Nat} {W0 w2 : World} {x : Ex} {s : Value} (h : StP (fun b => W0.heap.size ≤ b) w2 x s) (hN : N < W0.heap.size) (hl : W0.heap.size ≤ w2.heap.size) : Keep N (w2.alloc (.cells (ex4 x s) 25)) w2.heap.size x s :=
  ⟨heap_alloc_new w2 _, StP.carryN (fun k _ hk => Below.heap_alloc _ _ _ hk) (fun k _ hk => by show N < k; have : W0.heap.size ≤ k := hk; omega) _ x s (Nat.le_refl _) h, by omega⟩
theorem fold4 (c : Array Value) (o : Nat) (a b d e : Value) : Array.foldl (fun cs (x : Value × Nat) => cs.setIfInBounds (o + x.snd) x.fst) c (#[a, b, d, e].zipIdx) = (((c.setIfInBounds (o + 0) a).setIfInBounds (o + 1) b).setIfInBounds (o + 2) d).setIfInBounds (o + 3) e := by rfl
theorem fill3 (x y z : Ex) (a b c : Option Addr) (l m n i j k : Nat) : Instr.fill (fun i => some (i * 4, 4)) ((Array.range (3 * 4)).map (z25.cells[· % z25.cells.size]!)) [(0, exV x (.slice a l i)), (1, exV y (.slice b m j)), (2, exV z (.slice c n k))] = some (ex4 x (.slice a l i) ++ ex4 y (.slice b m j) ++ ex4 z (.slice c n k)) := by
  have e : ((Array.range (3 * 4)).map (z25.cells[· % z25.cells.size]!)) = #[.int .u8 0, .int .i64 0, .string ⟨#[]⟩, .slice none 0 0, .int .u8 0, .int .i64 0, .string ⟨#[]⟩, .slice none 0 0, .int .u8 0, .int .i64 0, .string ⟨#[]⟩, .slice none 0 0] := by kernel_rfl
  rw [e]
  simp only [Instr.fill, show (exV x (.slice a l i)).cells = ex4 x (.slice a l i) from rfl, show (exV y (.slice b m j)).cells = ex4 y (.slice b m j) from rfl, show (exV z (.slice c n k)).cells = ex4 z (.slice c n k) from rfl, ex4, fold4]
  simp
/-- What has three parts, in new memory. -/
theorem StP.three {ok : Nat → Prop} {W : World} {x y z : Ex} {s t u : Value} (op : Nat) (hop : op < 256) (g : Nat) (hg : ok g) (hx : StP ok W x s) (hy : StP ok W y t) (hz : StP ok W z u) (hc : W.heap[g]? = some (.cells (ex4 x s ++ ex4 y t ++ ex4 z u) 25 (0, 0))) : StP ok W ⟨op, 0, ByteArray.empty, [x, y, z]⟩ (.slice (some ⟨g, 0, none⟩) 3 3) := by
  refine StP.intro ⟨op, 0, ByteArray.empty, [x, y, z]⟩ (some ⟨g, 0, none⟩) 3 (fun i => [s, t, u].getD i s) hop (by simp) (by show ByteArray.empty.size ≤ _; decide) (by simp) (by simp) (.inr ⟨g, 0, rfl, hg, fun i hi => ?_⟩) (fun i hi => ?_)
  · have hi3 : i < 3 := hi
    rcases (by omega : i = 0 ∨ i = 1 ∨ i = 2) with rfl | rfl | rfl <;> refine ⟨?_, ?_, ?_, ?_⟩ <;> (rw [cell_of_row _ _ _ _ 25 (0, 0) hc]; rfl)
  · have hi3 : i < 3 := hi
    rcases (by omega : i = 0 ∨ i = 1 ∨ i = 2) with rfl | rfl | rfl
    · exact hx
    · exact hy
    · exact hz
set_option maxRecDepth 100000 in
set_option maxHeartbeats 2000000 in
theorem choice_ok (r mp : Nat) (v : Value) (ts : List Mark) (p : Nat) (w : World) (h : Rdr r mp v ts p w) (hp : p < ts.length) (x1 : Ex) (q1 : Nat)
    (cp1 : ∀ W, w.grownBy W (some r) → Rdr r mp v ts (p + 1) W → Calls Tryd.prog 65 #[.pointer (some ⟨r, 0, none⟩), .int .i64 0] W (Post r mp v ts W (.ok (x1, q1))))
    (hm1 : isMk (markAt ts q1) 1 ⟨#[116, 104, 101, 110]⟩ = true) (x2 : Ex) (q2 : Nat)
    (cp2 : ∀ W, w.grownBy W (some r) → Rdr r mp v ts (q1 + 1) W → Calls Tryd.prog 65 #[.pointer (some ⟨r, 0, none⟩), .int .i64 0] W (Post r mp v ts W (.ok (x2, q2))))
    (hm2 : isMk (markAt ts q2) 1 ⟨#[101, 108, 115, 101]⟩ = true) (x3 : Ex) (q3 : Nat)
    (cp3 : ∀ W, w.grownBy W (some r) → Rdr r mp v ts (q2 + 1) W → Calls Tryd.prog 65 #[.pointer (some ⟨r, 0, none⟩), .int .i64 0] W (Post r mp v ts W (.ok (x3, q3)))) :
    Calls Tryd.prog 83 #[.pointer (some ⟨r, 0, none⟩)] w (Post r mp v ts w (.ok (⟨17, 0, ByteArray.empty, [x1, x2, x3]⟩, q3))) := by
  have b0 := (Below.refl w.heap.size w).alloc (Nat.le_refl _) (.cells #[.int .u8 0, .int .i64 0, .string ⟨#[]⟩, .slice none 0 0] 25)
  obtain ⟨y0, y1, hg, hr⟩ := moved (h.step b0) hp
  have hfew : (p : Int) < 140737488355328 := by have := h.few; omega
  have HG := hid (grown_on (grown_below b0 (some r)) hg)
  have HR := hid hr
  have H := hid h
  have HS := hid (show w.heap.size < ((w.alloc (.cells #[.int .u8 0, .int .i64 0, .string ⟨#[]⟩, .slice none 0 0] 25)).setCell ⟨r, 1, none⟩ (.int .i64 ((p : Int) + 1))).heap.size by simp [World.setCell])
  have HX := hid (show ((w.alloc (.cells #[.int .u8 0, .int .i64 0, .string ⟨#[]⟩, .slice none 0 0] 25)).setCell ⟨r, 1, none⟩ (.int .i64 ((p : Int) + 1))).heap[w.heap.size]? = _ from box_kept h.lt (World.grownBy.refl _ _))
  have c1 := fun W hW => pass_ok 1 (by omega) ⟨#[116, 104, 101, 110]⟩ r mp v ts q1 W hW hm1
  simp only [Int.cast_ofNat_Int] at c1
  have c2 := fun W hW => pass_ok 1 (by omega) ⟨#[101, 108, 115, 101]⟩ r mp v ts q2 W hW hm2
  simp only [Int.cast_ofNat_Int] at c2
  clear h hp hg hr b0 hm1 hm2
  go_enter Tryd.func83, Tryd.ntmps83
  go_wp2_with (first
    | (go_at_call 65; refine (cp1 _ HG.out HR.out).mono ?_; rintro e u1 ⟨g2, s1, rfl, st, h2⟩; obtain ⟨ao1, cap1, rfl⟩ := st.form; have b3 := (Below.refl u1.heap.size u1).alloc (Nat.le_refl _) (.cells (ex4 x1 (.slice ao1 x1.args.length cap1)) 25); have KK1 := hid (Keep.new st HS.out g2.size); have gg := grown_on g2 (grown_below b3 (some r)); have GA1 := hid (grown_on HG.out gg); have XA1 := hid (kept HX.out gg H.out.lt); have SA1 := hid (Nat.lt_of_lt_of_le HS.out gg.size); have RA1 := hid (h2.step b3); clear g2 h2 st b3 gg cp1)
    | (go_at_call 82; refine (c1 _ RA1.out).mono ?_; rintro e t1 ⟨rfl, gg, h4⟩; have GP1 := hid (grown_on GA1.out gg); have XP1 := hid (kept XA1.out gg H.out.lt); have SP1 := hid (Nat.lt_of_lt_of_le SA1.out gg.size); have RP1 := hid h4; have KK1 := hid (KK1.out.grown gg H.out.lt); clear gg h4 c1)
    | (go_at_call 65; refine (cp2 _ GP1.out RP1.out).mono ?_; rintro e u2 ⟨g2, s2, rfl, st, h2⟩; obtain ⟨ao2, cap2, rfl⟩ := st.form; have b3 := (Below.refl u2.heap.size u2).alloc (Nat.le_refl _) (.cells (ex4 x2 (.slice ao2 x2.args.length cap2)) 25); have KK2 := hid (Keep.new st SP1.out g2.size); have gg := grown_on g2 (grown_below b3 (some r)); have GA2 := hid (grown_on GP1.out gg); have XA2 := hid (kept XP1.out gg H.out.lt); have SA2 := hid (Nat.lt_of_lt_of_le SP1.out gg.size); have RA2 := hid (h2.step b3); have KK1 := hid (KK1.out.grown gg H.out.lt); clear g2 h2 st b3 gg cp2)
    | (go_at_call 82; refine (c2 _ RA2.out).mono ?_; rintro e t2 ⟨rfl, gg, h4⟩; have GP2 := hid (grown_on GA2.out gg); have XP2 := hid (kept XA2.out gg H.out.lt); have SP2 := hid (Nat.lt_of_lt_of_le SA2.out gg.size); have RP2 := hid h4; have KK1 := hid (KK1.out.grown gg H.out.lt); have KK2 := hid (KK2.out.grown gg H.out.lt); clear gg h4 c2)
    | (go_at_call 65; refine (cp3 _ GP2.out RP2.out).mono ?_; rintro e u3 ⟨g2, s3, rfl, st, h2⟩; obtain ⟨ao3, cap3, rfl⟩ := st.form; have b3 := (Below.refl u3.heap.size u3).alloc (Nat.le_refl _) (.cells (ex4 x3 (.slice ao3 x3.args.length cap3)) 25); have KK3 := hid (Keep.new st SP2.out g2.size); have gg := grown_on g2 (grown_below b3 (some r)); have GA3 := hid (grown_on GP2.out gg); have XA3 := hid (kept XP2.out gg H.out.lt); have SA3 := hid (Nat.lt_of_lt_of_le SP2.out gg.size); have RA3 := hid (h2.step b3); have KK1 := hid (KK1.out.grown gg H.out.lt); have KK2 := hid (KK2.out.grown gg H.out.lt); clear g2 h2 st b3 gg cp3)
    | (refine wpList_load_row rfl 25 _ rfl u1.heap.size rfl 25 (ex4 x1 (.slice ao1 x1.args.length cap1)) (0, 0) _ KK1.out.row Tryd.underlying25 rfl info25 ?_)
    | (refine wpList_load_row rfl 25 _ rfl u2.heap.size rfl 25 (ex4 x2 (.slice ao2 x2.args.length cap2)) (0, 0) _ KK2.out.row Tryd.underlying25 rfl info25 ?_)
    | (refine wpList_load_row rfl 25 _ rfl u3.heap.size rfl 25 (ex4 x3 (.slice ao3 x3.args.length cap3)) (0, 0) _ KK3.out.row Tryd.underlying25 rfl info25 ?_)
    | (obtain ⟨ie, hie, hz, hsz⟩ := inf25; refine wpList_buildSlice rfl 23 25 3 _ rfl (ex4 x1 (.slice ao1 x1.args.length cap1) ++ ex4 x2 (.slice ao2 x2.args.length cap2) ++ ex4 x3 (.slice ao3 x3.args.length cap3)) ie z25 Tryd.underlying23 hie hz (by rw [hsz]; decide) (by rw [hsz]; decide) (by rw [hsz]; simp only [List.map_toArray, List.map_cons, List.map_nil]; exact fill3 x1 x2 x3 ao1 ao2 ao3 _ _ _ _ _ _) ?_; clear hie hz hsz; have hbx7 := kept XA3.out (grown_below ((Below.refl _ _).alloc (Nat.le_refl _) (.cells (ex4 x1 (.slice ao1 x1.args.length cap1) ++ ex4 x2 (.slice ao2 x2.args.length cap2) ++ ex4 x3 (.slice ao3 x3.args.length cap3)) 25)) (some r)) H.out.lt)
    | (refine wpList_store_row rfl 25 _ _ rfl w.heap.size #[.int .u8 17, .int .i64 0, .string ⟨#[]⟩, .slice (some ⟨u3.heap.size + 1, 0, none⟩) 3 3] rfl rfl 25 _ hbx7 info25 rfl (by simp [Value.oneCell']) ?_))
  have b7 := (Below.refl (u3.alloc (.cells (ex4 x3 (.slice ao3 x3.args.length cap3)) 25)).heap.size (u3.alloc (.cells (ex4 x3 (.slice ao3 x3.args.length cap3)) 25))).alloc (Nat.le_refl _) (.cells (ex4 x1 (.slice ao1 x1.args.length cap1) ++ ex4 x2 (.slice ao2 x2.args.length cap2) ++ ex4 x3 (.slice ao3 x3.args.length cap3)) 25)
  have hl3 := KK3.out.lt
  have hc := heap_alloc_new (u3.alloc (.cells (ex4 x3 (.slice ao3 x3.args.length cap3)) 25)) (.cells (ex4 x1 (.slice ao1 x1.args.length cap1) ++ ex4 x2 (.slice ao2 x2.args.length cap2) ++ ex4 x3 (.slice ao3 x3.args.length cap3)) 25)
  rw [show (u3.alloc (.cells (ex4 x3 (.slice ao3 x3.args.length cap3)) 25)).heap.size = u3.heap.size + 1 by simp] at hc
  have cr : ∀ (x : Ex) (s : Value), StP (fun k => w.heap.size < k) (u3.alloc (.cells (ex4 x3 (.slice ao3 x3.args.length cap3)) 25)) x s → StP (fun k => w.heap.size ≤ k) (((u3.alloc (.cells (ex4 x3 (.slice ao3 x3.args.length cap3)) 25)).alloc (.cells (ex4 x1 (.slice ao1 x1.args.length cap1) ++ ex4 x2 (.slice ao2 x2.args.length cap2) ++ ex4 x3 (.slice ao3 x3.args.length cap3)) 25)).setRow w.heap.size #[.int .u8 17, .int .i64 0, .string ⟨#[]⟩, .slice (some ⟨u3.heap.size + 1, 0, none⟩) 3 3]) x s := fun x s hs =>
    StP.carryN (fun b hb hl => (setRow_other _ _ _ _ (by omega)).trans (b7.block b hl)) (fun b _ hb => Nat.le_of_lt hb) _ x s (Nat.le_refl _) hs
  refine bodyPost_ret (results_cell_row rfl _ _ w.heap.size 25 #[.int .u8 17, .int .i64 0, .string ⟨#[]⟩, .slice (some ⟨u3.heap.size + 1, 0, none⟩) 3 3] (0, 0) _ rfl (setRow_heap _ _ _ _ _ _ hbx7) Tryd.underlying25 rfl info25) rfl ⟨grown_setRow (grown_on GA3.out (grown_below b7 _)) _, _, rfl, ?_, H.out.setRow (RA3.out.step b7) _⟩
  exact StP.three 17 (by omega) (u3.heap.size + 1) (by show w.heap.size ≤ u3.heap.size + 1; omega) (cr _ _ KK1.out.st) (cr _ _ KK2.out.st) (cr _ _ KK3.out.st) ((setRow_other _ _ _ _ (by omega)).trans hc)
set_option maxRecDepth 100000 in
set_option maxHeartbeats 2000000 in
theorem choice_bad1 (r mp : Nat) (v : Value) (ts : List Mark) (p : Nat) (w : World) (h : Rdr r mp v ts p w) (hp : p < ts.length) (n q : Nat)
    (cp1 : ∀ W, w.grownBy W (some r) → Rdr r mp v ts (p + 1) W → Calls Tryd.prog 65 #[.pointer (some ⟨r, 0, none⟩), .int .i64 0] W (Post r mp v ts W (.error (n, q)))) :
    Calls Tryd.prog 83 #[.pointer (some ⟨r, 0, none⟩)] w (Post r mp v ts w (.error (n, q))) := by
  have b0 := (Below.refl w.heap.size w).alloc (Nat.le_refl _) (.cells #[.int .u8 0, .int .i64 0, .string ⟨#[]⟩, .slice none 0 0] 25)
  obtain ⟨y0, y1, hg, hr⟩ := moved (h.step b0) hp
  have hfew : (p : Int) < 140737488355328 := by have := h.few; omega
  have HG := hid (grown_on (grown_below b0 (some r)) hg)
  have HR := hid hr
  have H := hid h
  have HS := hid (show w.heap.size < ((w.alloc (.cells #[.int .u8 0, .int .i64 0, .string ⟨#[]⟩, .slice none 0 0] 25)).setCell ⟨r, 1, none⟩ (.int .i64 ((p : Int) + 1))).heap.size by simp [World.setCell])
  have HX := hid (show ((w.alloc (.cells #[.int .u8 0, .int .i64 0, .string ⟨#[]⟩, .slice none 0 0] 25)).setCell ⟨r, 1, none⟩ (.int .i64 ((p : Int) + 1))).heap[w.heap.size]? = _ from box_kept h.lt (World.grownBy.refl _ _))
  clear h hp hg hr b0
  go_enter Tryd.func83, Tryd.ntmps83
  go_wp2_with (first
    | (go_at_call 65; refine (cp1 _ HG.out HR.out).mono ?_; rintro e u1 ⟨gb, rfl, hb⟩; have GB := hid (grown_on HG.out gb); have HB := hid hb; clear gb hb cp1))
  exact ⟨rfl, GB.out, rfl, HB.out⟩
set_option maxRecDepth 100000 in
set_option maxHeartbeats 2000000 in
theorem choice_bad2 (r mp : Nat) (v : Value) (ts : List Mark) (p : Nat) (w : World) (h : Rdr r mp v ts p w) (hp : p < ts.length) (x1 : Ex) (q1 : Nat)
    (cp1 : ∀ W, w.grownBy W (some r) → Rdr r mp v ts (p + 1) W → Calls Tryd.prog 65 #[.pointer (some ⟨r, 0, none⟩), .int .i64 0] W (Post r mp v ts W (.ok (x1, q1))))
    (hm1 : isMk (markAt ts q1) 1 ⟨#[116, 104, 101, 110]⟩ = false) :
    Calls Tryd.prog 83 #[.pointer (some ⟨r, 0, none⟩)] w (Post r mp v ts w (.error (5, q1))) := by
  have b0 := (Below.refl w.heap.size w).alloc (Nat.le_refl _) (.cells #[.int .u8 0, .int .i64 0, .string ⟨#[]⟩, .slice none 0 0] 25)
  obtain ⟨y0, y1, hg, hr⟩ := moved (h.step b0) hp
  have hfew : (p : Int) < 140737488355328 := by have := h.few; omega
  have HG := hid (grown_on (grown_below b0 (some r)) hg)
  have HR := hid hr
  have H := hid h
  have HS := hid (show w.heap.size < ((w.alloc (.cells #[.int .u8 0, .int .i64 0, .string ⟨#[]⟩, .slice none 0 0] 25)).setCell ⟨r, 1, none⟩ (.int .i64 ((p : Int) + 1))).heap.size by simp [World.setCell])
  have HX := hid (show ((w.alloc (.cells #[.int .u8 0, .int .i64 0, .string ⟨#[]⟩, .slice none 0 0] 25)).setCell ⟨r, 1, none⟩ (.int .i64 ((p : Int) + 1))).heap[w.heap.size]? = _ from box_kept h.lt (World.grownBy.refl _ _))
  have c1 := fun W hW => pass_bad 1 ⟨#[116, 104, 101, 110]⟩ r mp v ts q1 W hW hm1
  simp only [Int.cast_ofNat_Int] at c1
  clear h hp hg hr b0 hm1
  go_enter Tryd.func83, Tryd.ntmps83
  go_wp2_with (first
    | (go_at_call 65; refine (cp1 _ HG.out HR.out).mono ?_; rintro e u1 ⟨g2, s1, rfl, st, h2⟩; obtain ⟨ao1, cap1, rfl⟩ := st.form; have b3 := (Below.refl u1.heap.size u1).alloc (Nat.le_refl _) (.cells (ex4 x1 (.slice ao1 x1.args.length cap1)) 25); have KK1 := hid (Keep.new st HS.out g2.size); have gg := grown_on g2 (grown_below b3 (some r)); have GA1 := hid (grown_on HG.out gg); have XA1 := hid (kept HX.out gg H.out.lt); have SA1 := hid (Nat.lt_of_lt_of_le HS.out gg.size); have RA1 := hid (h2.step b3); clear g2 h2 st b3 gg cp1)
    | (go_at_call 82; refine (c1 _ RA1.out).mono ?_; rintro e t1 ⟨rfl, b4⟩; have B4 := hid b4; clear b4 c1))
  exact ⟨rfl, grown_on GA1.out (grown_below B4.out _), rfl, RA1.out.step B4.out⟩
set_option maxRecDepth 100000 in
set_option maxHeartbeats 2000000 in
theorem choice_bad3 (r mp : Nat) (v : Value) (ts : List Mark) (p : Nat) (w : World) (h : Rdr r mp v ts p w) (hp : p < ts.length) (x1 : Ex) (q1 : Nat)
    (cp1 : ∀ W, w.grownBy W (some r) → Rdr r mp v ts (p + 1) W → Calls Tryd.prog 65 #[.pointer (some ⟨r, 0, none⟩), .int .i64 0] W (Post r mp v ts W (.ok (x1, q1))))
    (hm1 : isMk (markAt ts q1) 1 ⟨#[116, 104, 101, 110]⟩ = true) (n q : Nat)
    (cp2 : ∀ W, w.grownBy W (some r) → Rdr r mp v ts (q1 + 1) W → Calls Tryd.prog 65 #[.pointer (some ⟨r, 0, none⟩), .int .i64 0] W (Post r mp v ts W (.error (n, q)))) :
    Calls Tryd.prog 83 #[.pointer (some ⟨r, 0, none⟩)] w (Post r mp v ts w (.error (n, q))) := by
  have b0 := (Below.refl w.heap.size w).alloc (Nat.le_refl _) (.cells #[.int .u8 0, .int .i64 0, .string ⟨#[]⟩, .slice none 0 0] 25)
  obtain ⟨y0, y1, hg, hr⟩ := moved (h.step b0) hp
  have hfew : (p : Int) < 140737488355328 := by have := h.few; omega
  have HG := hid (grown_on (grown_below b0 (some r)) hg)
  have HR := hid hr
  have H := hid h
  have HS := hid (show w.heap.size < ((w.alloc (.cells #[.int .u8 0, .int .i64 0, .string ⟨#[]⟩, .slice none 0 0] 25)).setCell ⟨r, 1, none⟩ (.int .i64 ((p : Int) + 1))).heap.size by simp [World.setCell])
  have HX := hid (show ((w.alloc (.cells #[.int .u8 0, .int .i64 0, .string ⟨#[]⟩, .slice none 0 0] 25)).setCell ⟨r, 1, none⟩ (.int .i64 ((p : Int) + 1))).heap[w.heap.size]? = _ from box_kept h.lt (World.grownBy.refl _ _))
  have c1 := fun W hW => pass_ok 1 (by omega) ⟨#[116, 104, 101, 110]⟩ r mp v ts q1 W hW hm1
  simp only [Int.cast_ofNat_Int] at c1
  clear h hp hg hr b0 hm1
  go_enter Tryd.func83, Tryd.ntmps83
  go_wp2_with (first
    | (go_at_call 65; refine (cp1 _ HG.out HR.out).mono ?_; rintro e u1 ⟨g2, s1, rfl, st, h2⟩; obtain ⟨ao1, cap1, rfl⟩ := st.form; have b3 := (Below.refl u1.heap.size u1).alloc (Nat.le_refl _) (.cells (ex4 x1 (.slice ao1 x1.args.length cap1)) 25); have KK1 := hid (Keep.new st HS.out g2.size); have gg := grown_on g2 (grown_below b3 (some r)); have GA1 := hid (grown_on HG.out gg); have XA1 := hid (kept HX.out gg H.out.lt); have SA1 := hid (Nat.lt_of_lt_of_le HS.out gg.size); have RA1 := hid (h2.step b3); clear g2 h2 st b3 gg cp1)
    | (go_at_call 82; refine (c1 _ RA1.out).mono ?_; rintro e t1 ⟨rfl, gg, h4⟩; have GP1 := hid (grown_on GA1.out gg); have XP1 := hid (kept XA1.out gg H.out.lt); have SP1 := hid (Nat.lt_of_lt_of_le SA1.out gg.size); have RP1 := hid h4; have KK1 := hid (KK1.out.grown gg H.out.lt); clear gg h4 c1)
    | (go_at_call 65; refine (cp2 _ GP1.out RP1.out).mono ?_; rintro e u2 ⟨gb, rfl, hb⟩; have GB := hid (grown_on GP1.out gb); have HB := hid hb; clear gb hb cp2))
  exact ⟨rfl, GB.out, rfl, HB.out⟩
set_option maxRecDepth 100000 in
set_option maxHeartbeats 2000000 in
theorem choice_bad4 (r mp : Nat) (v : Value) (ts : List Mark) (p : Nat) (w : World) (h : Rdr r mp v ts p w) (hp : p < ts.length) (x1 : Ex) (q1 : Nat)
    (cp1 : ∀ W, w.grownBy W (some r) → Rdr r mp v ts (p + 1) W → Calls Tryd.prog 65 #[.pointer (some ⟨r, 0, none⟩), .int .i64 0] W (Post r mp v ts W (.ok (x1, q1))))
    (hm1 : isMk (markAt ts q1) 1 ⟨#[116, 104, 101, 110]⟩ = true) (x2 : Ex) (q2 : Nat)
    (cp2 : ∀ W, w.grownBy W (some r) → Rdr r mp v ts (q1 + 1) W → Calls Tryd.prog 65 #[.pointer (some ⟨r, 0, none⟩), .int .i64 0] W (Post r mp v ts W (.ok (x2, q2))))
    (hm2 : isMk (markAt ts q2) 1 ⟨#[101, 108, 115, 101]⟩ = false) :
    Calls Tryd.prog 83 #[.pointer (some ⟨r, 0, none⟩)] w (Post r mp v ts w (.error (5, q2))) := by
  have b0 := (Below.refl w.heap.size w).alloc (Nat.le_refl _) (.cells #[.int .u8 0, .int .i64 0, .string ⟨#[]⟩, .slice none 0 0] 25)
  obtain ⟨y0, y1, hg, hr⟩ := moved (h.step b0) hp
  have hfew : (p : Int) < 140737488355328 := by have := h.few; omega
  have HG := hid (grown_on (grown_below b0 (some r)) hg)
  have HR := hid hr
  have H := hid h
  have HS := hid (show w.heap.size < ((w.alloc (.cells #[.int .u8 0, .int .i64 0, .string ⟨#[]⟩, .slice none 0 0] 25)).setCell ⟨r, 1, none⟩ (.int .i64 ((p : Int) + 1))).heap.size by simp [World.setCell])
  have HX := hid (show ((w.alloc (.cells #[.int .u8 0, .int .i64 0, .string ⟨#[]⟩, .slice none 0 0] 25)).setCell ⟨r, 1, none⟩ (.int .i64 ((p : Int) + 1))).heap[w.heap.size]? = _ from box_kept h.lt (World.grownBy.refl _ _))
  have c1 := fun W hW => pass_ok 1 (by omega) ⟨#[116, 104, 101, 110]⟩ r mp v ts q1 W hW hm1
  simp only [Int.cast_ofNat_Int] at c1
  have c2 := fun W hW => pass_bad 1 ⟨#[101, 108, 115, 101]⟩ r mp v ts q2 W hW hm2
  simp only [Int.cast_ofNat_Int] at c2
  clear h hp hg hr b0 hm1 hm2
  go_enter Tryd.func83, Tryd.ntmps83
  go_wp2_with (first
    | (go_at_call 65; refine (cp1 _ HG.out HR.out).mono ?_; rintro e u1 ⟨g2, s1, rfl, st, h2⟩; obtain ⟨ao1, cap1, rfl⟩ := st.form; have b3 := (Below.refl u1.heap.size u1).alloc (Nat.le_refl _) (.cells (ex4 x1 (.slice ao1 x1.args.length cap1)) 25); have KK1 := hid (Keep.new st HS.out g2.size); have gg := grown_on g2 (grown_below b3 (some r)); have GA1 := hid (grown_on HG.out gg); have XA1 := hid (kept HX.out gg H.out.lt); have SA1 := hid (Nat.lt_of_lt_of_le HS.out gg.size); have RA1 := hid (h2.step b3); clear g2 h2 st b3 gg cp1)
    | (go_at_call 82; refine (c1 _ RA1.out).mono ?_; rintro e t1 ⟨rfl, gg, h4⟩; have GP1 := hid (grown_on GA1.out gg); have XP1 := hid (kept XA1.out gg H.out.lt); have SP1 := hid (Nat.lt_of_lt_of_le SA1.out gg.size); have RP1 := hid h4; have KK1 := hid (KK1.out.grown gg H.out.lt); clear gg h4 c1)
    | (go_at_call 65; refine (cp2 _ GP1.out RP1.out).mono ?_; rintro e u2 ⟨g2, s2, rfl, st, h2⟩; obtain ⟨ao2, cap2, rfl⟩ := st.form; have b3 := (Below.refl u2.heap.size u2).alloc (Nat.le_refl _) (.cells (ex4 x2 (.slice ao2 x2.args.length cap2)) 25); have KK2 := hid (Keep.new st SP1.out g2.size); have gg := grown_on g2 (grown_below b3 (some r)); have GA2 := hid (grown_on GP1.out gg); have XA2 := hid (kept XP1.out gg H.out.lt); have SA2 := hid (Nat.lt_of_lt_of_le SP1.out gg.size); have RA2 := hid (h2.step b3); have KK1 := hid (KK1.out.grown gg H.out.lt); clear g2 h2 st b3 gg cp2)
    | (go_at_call 82; refine (c2 _ RA2.out).mono ?_; rintro e t2 ⟨rfl, b4⟩; have B4 := hid b4; clear b4 c2))
  exact ⟨rfl, grown_on GA2.out (grown_below B4.out _), rfl, RA2.out.step B4.out⟩
set_option maxRecDepth 100000 in
set_option maxHeartbeats 2000000 in
theorem choice_bad5 (r mp : Nat) (v : Value) (ts : List Mark) (p : Nat) (w : World) (h : Rdr r mp v ts p w) (hp : p < ts.length) (x1 : Ex) (q1 : Nat)
    (cp1 : ∀ W, w.grownBy W (some r) → Rdr r mp v ts (p + 1) W → Calls Tryd.prog 65 #[.pointer (some ⟨r, 0, none⟩), .int .i64 0] W (Post r mp v ts W (.ok (x1, q1))))
    (hm1 : isMk (markAt ts q1) 1 ⟨#[116, 104, 101, 110]⟩ = true) (x2 : Ex) (q2 : Nat)
    (cp2 : ∀ W, w.grownBy W (some r) → Rdr r mp v ts (q1 + 1) W → Calls Tryd.prog 65 #[.pointer (some ⟨r, 0, none⟩), .int .i64 0] W (Post r mp v ts W (.ok (x2, q2))))
    (hm2 : isMk (markAt ts q2) 1 ⟨#[101, 108, 115, 101]⟩ = true) (n q : Nat)
    (cp3 : ∀ W, w.grownBy W (some r) → Rdr r mp v ts (q2 + 1) W → Calls Tryd.prog 65 #[.pointer (some ⟨r, 0, none⟩), .int .i64 0] W (Post r mp v ts W (.error (n, q)))) :
    Calls Tryd.prog 83 #[.pointer (some ⟨r, 0, none⟩)] w (Post r mp v ts w (.error (n, q))) := by
  have b0 := (Below.refl w.heap.size w).alloc (Nat.le_refl _) (.cells #[.int .u8 0, .int .i64 0, .string ⟨#[]⟩, .slice none 0 0] 25)
  obtain ⟨y0, y1, hg, hr⟩ := moved (h.step b0) hp
  have hfew : (p : Int) < 140737488355328 := by have := h.few; omega
  have HG := hid (grown_on (grown_below b0 (some r)) hg)
  have HR := hid hr
  have H := hid h
  have HS := hid (show w.heap.size < ((w.alloc (.cells #[.int .u8 0, .int .i64 0, .string ⟨#[]⟩, .slice none 0 0] 25)).setCell ⟨r, 1, none⟩ (.int .i64 ((p : Int) + 1))).heap.size by simp [World.setCell])
  have HX := hid (show ((w.alloc (.cells #[.int .u8 0, .int .i64 0, .string ⟨#[]⟩, .slice none 0 0] 25)).setCell ⟨r, 1, none⟩ (.int .i64 ((p : Int) + 1))).heap[w.heap.size]? = _ from box_kept h.lt (World.grownBy.refl _ _))
  have c1 := fun W hW => pass_ok 1 (by omega) ⟨#[116, 104, 101, 110]⟩ r mp v ts q1 W hW hm1
  simp only [Int.cast_ofNat_Int] at c1
  have c2 := fun W hW => pass_ok 1 (by omega) ⟨#[101, 108, 115, 101]⟩ r mp v ts q2 W hW hm2
  simp only [Int.cast_ofNat_Int] at c2
  clear h hp hg hr b0 hm1 hm2
  go_enter Tryd.func83, Tryd.ntmps83
  go_wp2_with (first
    | (go_at_call 65; refine (cp1 _ HG.out HR.out).mono ?_; rintro e u1 ⟨g2, s1, rfl, st, h2⟩; obtain ⟨ao1, cap1, rfl⟩ := st.form; have b3 := (Below.refl u1.heap.size u1).alloc (Nat.le_refl _) (.cells (ex4 x1 (.slice ao1 x1.args.length cap1)) 25); have KK1 := hid (Keep.new st HS.out g2.size); have gg := grown_on g2 (grown_below b3 (some r)); have GA1 := hid (grown_on HG.out gg); have XA1 := hid (kept HX.out gg H.out.lt); have SA1 := hid (Nat.lt_of_lt_of_le HS.out gg.size); have RA1 := hid (h2.step b3); clear g2 h2 st b3 gg cp1)
    | (go_at_call 82; refine (c1 _ RA1.out).mono ?_; rintro e t1 ⟨rfl, gg, h4⟩; have GP1 := hid (grown_on GA1.out gg); have XP1 := hid (kept XA1.out gg H.out.lt); have SP1 := hid (Nat.lt_of_lt_of_le SA1.out gg.size); have RP1 := hid h4; have KK1 := hid (KK1.out.grown gg H.out.lt); clear gg h4 c1)
    | (go_at_call 65; refine (cp2 _ GP1.out RP1.out).mono ?_; rintro e u2 ⟨g2, s2, rfl, st, h2⟩; obtain ⟨ao2, cap2, rfl⟩ := st.form; have b3 := (Below.refl u2.heap.size u2).alloc (Nat.le_refl _) (.cells (ex4 x2 (.slice ao2 x2.args.length cap2)) 25); have KK2 := hid (Keep.new st SP1.out g2.size); have gg := grown_on g2 (grown_below b3 (some r)); have GA2 := hid (grown_on GP1.out gg); have XA2 := hid (kept XP1.out gg H.out.lt); have SA2 := hid (Nat.lt_of_lt_of_le SP1.out gg.size); have RA2 := hid (h2.step b3); have KK1 := hid (KK1.out.grown gg H.out.lt); clear g2 h2 st b3 gg cp2)
    | (go_at_call 82; refine (c2 _ RA2.out).mono ?_; rintro e t2 ⟨rfl, gg, h4⟩; have GP2 := hid (grown_on GA2.out gg); have XP2 := hid (kept XA2.out gg H.out.lt); have SP2 := hid (Nat.lt_of_lt_of_le SA2.out gg.size); have RP2 := hid h4; have KK1 := hid (KK1.out.grown gg H.out.lt); have KK2 := hid (KK2.out.grown gg H.out.lt); clear gg h4 c2)
    | (go_at_call 65; refine (cp3 _ GP2.out RP2.out).mono ?_; rintro e u3 ⟨gb, rfl, hb⟩; have GB := hid (grown_on GP2.out gb); have HB := hid hb; clear gb hb cp3))
  exact ⟨rfl, GB.out, rfl, HB.out⟩
end Go.Proofs.YtkieljleopbhoaaDoor.Lex
namespace Go.Proofs.YtkieljleopbhoaaDoor.Lex
open Go.ChangeShapes Go.WideShapes Go.ChangeAt Go.RowKit Go.Joins Go.WideMaps Go.WideElems Go.Maps
theorem laidOut : laidOutB Tryd.prog = true := by kernel_rfl
theorem row81 : (81 : TypeId) < Tryd.prog.types.size := of_decide_eq_true (by kernel_rfl)
theorem wide81 : (match Tryd.prog.underlying 81 with | some (.array _ _) | some (.struct _) => true | _ => false) = true := by kernel_rfl
theorem deep81 : Tryd.prog.keyTypeAt 3 81 = true := by kernel_rfl
set_option maxRecDepth 100000 in
theorem law81 : KeyLaw Tryd.prog 81 := deep_law_laid laidOut (m := 3) (by omega) row81 deep81 wide81
theorem keyed81 : Keyed Tryd.prog 81 := Keyed.of_law law81
end Go.Proofs.YtkieljleopbhoaaDoor.Lex
namespace Go.Proofs.YtkieljleopbhoaaDoor.Lex
open Go.ChangeShapes Go.WideShapes Go.ChangeAt Go.RowKit Go.Joins Go.WideMaps Go.WideElems Go.Maps
theorem size_types : ∃ n, Tryd.prog.types.size + 1 = n + 2 := ⟨Tryd.prog.types.size - 1, by have : 0 < Tryd.prog.types.size := of_decide_eq_true (by kernel_rfl); omega⟩
theorem keyT81 : Tryd.prog.keyType 81 = true := by kernel_rfl
theorem cells81 : Tryd.prog.cellsOf 81 = 2 := by kernel_rfl
theorem cells5 : Tryd.prog.cellsOf 5 = 1 := by kernel_rfl
theorem cells9 : Tryd.prog.cellsOf 9 = 1 := by kernel_rfl
theorem lits5 (n : Nat) (k : Nat) (hk : k < 256) : Tryd.prog.keyLits (n + 1) 5 [.int .u8 (k : Int)] = some [.int .u8 (k : Int)] := by
  have hwf : (Lit.int .u8 (k : Int)).wf = true := by simp [Lit.wf, IntKind.min, IntKind.max, IntKind.signed, IntKind.bits]; omega
  unfold Program.keyLits
  rw [Tryd.underlying5]
  simp [hwf]
theorem lits9 (n : Nat) (s : ByteArray) (hs : s.size ≤ maxLen) : Tryd.prog.keyLits (n + 1) 9 [.string s] = some [.string s.data.toList] := by
  unfold Program.keyLits
  rw [Tryd.underlying9]
  simp [hs]
theorem key_is (m : Mark) (hk : m.kind < 256) (hs : m.text.size ≤ maxLen) : ∃ l, keyOf Tryd.prog 81 (mkV m) = some l := by
  obtain ⟨n, hn⟩ := size_types
  have hf : (mkV m).formed Tryd.prog 81 = true := by simp [Value.formed, Tryd.underlying81, cells81]
  have h5 := lits5 n m.kind hk
  have h9 := lits9 n m.text hs
  unfold keyOf
  rw [hn, Tryd.underlying81]
  simp only [keyT81, hf]
  unfold Program.keyLits
  rw [Tryd.underlying81]
  simp [Value.cells, cells81, cells5, cells9, h5, h9]
end Go.Proofs.YtkieljleopbhoaaDoor.Lex
namespace Go.Proofs.YtkieljleopbhoaaDoor.Lex
open Go.ChangeShapes Go.WideShapes Go.ChangeAt Go.RowKit Go.Joins Go.WideMaps Go.WideElems Go.Maps
/-- The eight atoms: a token's kind and text, and the function that reads what begins with it. -/
def aT : List (Nat × ByteArray × Nat) := [(1, ⟨#[]⟩, 55), (1, ⟨#[116, 114, 117, 101]⟩, 56), (1, ⟨#[102, 97, 108, 115, 101]⟩, 57), (2, ⟨#[]⟩, 58), (3, ⟨#[40]⟩, 59), (3, ⟨#[45]⟩, 60), (1, ⟨#[110, 111, 116]⟩, 62), (1, ⟨#[112, 114, 101]⟩, 63)]
def aR (k : Nat) : Nat × ByteArray × Nat := aT.getD k (0, ⟨#[]⟩, 0)
def aKey (k : Nat) : Value := .agg #[.int .u8 ((aR k).1 : Int), .string (aR k).2.1]
def aVal (k : Nat) : Value := .func (.func (aR k).2.2) #[] #[]
theorem cases8 {k : Nat} (h : k < 8) : k = 0 ∨ k = 1 ∨ k = 2 ∨ k = 3 ∨ k = 4 ∨ k = 5 ∨ k = 6 ∨ k = 7 := by omega
theorem aKey_mk {k : Nat} {m : Mark} (h : aKey k = mkV m) : (aR k).1 = m.kind ∧ (aR k).2.1 = m.text := by
  unfold aKey at h
  injection h with h
  simp only [Array.mk.injEq, List.cons.injEq, Value.int.injEq, Value.string.injEq, and_true, true_and] at h
  exact ⟨by omega, h.2⟩
theorem aKey_ne {i j : Nat} (hi : i < 8) (hj : j < 8) (h : i ≠ j) : aKey i ≠ aKey j := fun e => by
  have e2 := aKey_mk (m := ⟨(aR j).1, (aR j).2.1⟩) e
  simp only at e2
  rcases cases8 hi with rfl | rfl | rfl | rfl | rfl | rfl | rfl | rfl <;> rcases cases8 hj with rfl | rfl | rfl | rfl | rfl | rfl | rfl | rfl <;> first | omega | exact absurd e2.1 (by decide) | exact absurd (congrArg (fun s => s.data.toList) e2.2) (by decide)
theorem aKey_is {k : Nat} (h : k < 8) : ∃ l, keyOf Tryd.prog 81 (aKey k) = some l := key_is ⟨(aR k).1, (aR k).2.1⟩ (by rcases cases8 h with rfl | rfl | rfl | rfl | rfl | rfl | rfl | rfl <;> decide) (by rcases cases8 h with rfl | rfl | rfl | rfl | rfl | rfl | rfl | rfl <;> decide)
abbrev RA : Value → Option (DataW Unit × List MemPlace) := fun _ => some (.nil, [])
/-- Those of the eight are there that b says. -/
def AtM (b : Nat → Bool) (mp n : Nat) (w : World) : Prop := ∃ es clock, w.heap[mp]? = some (.map es clock) ∧ Fit Tryd.prog 81 RA es clock ∧ es.size + n ≤ 8 ∧
  (∀ x ∈ es.toList, ∃ k, k < 8 ∧ b k = true ∧ x.key = aKey k ∧ x.val = aVal k) ∧ ∀ k, k < 8 → b k = true → ∃ x ∈ es.toList, x.key = aKey k
def upd (b : Nat → Bool) (k : Nat) : Nat → Bool := fun i => if i = k then true else b i
theorem grown_setBlock {w : World} {b : Nat} (o : Obj) : w.grownBy (ChangeMaps.setBlock w b o) (some b) := by
  refine ⟨rfl, rfl, rfl, by simp [ChangeMaps.setBlock], fun k hk hkr => ?_⟩
  have hkr' : k ≠ b := fun e => hkr (by rw [e])
  simp only [ChangeMaps.setBlock]
  rw [Array.getElem?_setIfInBounds_ne (fun e => hkr' e.symm)]
set_option maxRecDepth 100000 in
/-- One more. -/
theorem AtM.more {b : Nat → Bool} {mp n : Nat} {w : World} (h : AtM b mp (n + 1) w) {k : Nat} (hk : k < 8) (hb : b k = false) : ∃ w', (Instr.mapUpdate 68 (.map (some mp)) (aKey k) (aVal k)).run Tryd.prog w = .ok () w' ∧ AtM (upd b k) mp n w' ∧ w.grownBy w' (some mp) := by
  obtain ⟨es, clock, hh, F, hs, h1, h2⟩ := h
  obtain ⟨l, hl⟩ := aKey_is hk
  have hno : ∀ e ∈ es.toList, e.key ≠ aKey k := fun e he => by
    obtain ⟨i, hi, hbi, e1, _⟩ := h1 e he
    rw [e1]
    exact aKey_ne hi hk (fun e2 => by rw [e2, hb] at hbi; cases hbi)
  rcases keyed81.find w hl es.toList F.keys with ⟨f1, _⟩ | ⟨j, e, _, f2, f3⟩
  · refine ⟨ChangeMaps.setBlock w mp (.map (es.push ⟨aKey k, aVal k, clock⟩) (clock + 1)), ?_, ⟨es.push ⟨aKey k, aVal k, clock⟩, clock + 1, ?_, ⟨?_, MapKept.stamped_push F.stamped hno, ?_⟩, ?_, ?_, ?_⟩, grown_setBlock _⟩
    · simp [Instr.mapUpdate, run_underlying Tryd.underlying68, MapKept.run_getObj_map hh, keyed81.check w false hl, f1, MapKept.run_setObj_map _ hh, Result.andThen, ChangeMaps.setBlock]
    · have hlt := (Array.getElem?_eq_some_iff.1 hh).1
      simp [ChangeMaps.setBlock, hlt]
    · simp; unfold maxLen; omega
    · intro x hx
      simp only [Array.toList_push, List.mem_append, List.mem_singleton] at hx
      rcases hx with hx | rfl
      · exact F.reads x hx
      · exact ⟨_, rd_mk hl rfl⟩
    · simp; omega
    · intro x hx
      simp only [Array.toList_push, List.mem_append, List.mem_singleton] at hx
      rcases hx with hx | rfl
      · obtain ⟨i, hi, hbi, e1, e2⟩ := h1 x hx
        exact ⟨i, hi, by unfold upd; rw [hbi]; simp, e1, e2⟩
      · exact ⟨k, hk, by simp [upd], rfl, rfl⟩
    · intro i hi hbi
      simp only [Array.toList_push, List.mem_append, List.mem_singleton]
      by_cases e : i = k
      · exact ⟨⟨aKey k, aVal k, clock⟩, .inr rfl, by rw [e]⟩
      · obtain ⟨x, hx, e1⟩ := h2 i hi (by unfold upd at hbi; rw [if_neg e] at hbi; exact hbi)
        exact ⟨x, .inl hx, e1⟩
  · exact (hno e (List.mem_of_getElem? f2) f3).elim
def L35 (b : Nat → Bool) : Array Bool := #[true, true, b 0, true, b 1, true, b 2, true, b 3, true, b 4, true, b 5, true, b 6, true, b 7, false, false]
def left (b : Nat → Bool) : Nat := (!b 0).toNat + (!b 1).toNat + (!b 2).toNat + (!b 3).toNat + (!b 4).toNat + (!b 5).toNat + (!b 6).toNat + (!b 7).toNat
abbrev insOp (k : Nat) (p : String) : Oper := { dst := none, op := Op.insert 68 (.tmp 1) (.tmp (2 + k)) (.func (aR k).2.2), type := 0, pos := p, after := #[⟨0, .data⟩, ⟨1 + 2 * k, .data⟩], guard := none }
/-- The operations of the map's region. -/
structure Ops35 (ops : Array Oper) : Prop where
  size : ops.size = 19
  ins : ∀ k, k < 8 → ∃ p, ops[2 + 2 * k]? = some (insOp k p)
  o17 : ∃ p af, ops[17]? = some { dst := some 10, op := Op.move (.tmp 1), type := 68, pos := p, after := af, guard := none } ∧ (∀ k, k < 8 → (⟨2 + 2 * k, .data⟩ : Edge) ∈ af) ∧ ∀ e ∈ af, e.on < 17
  o18 : ∃ p af, ops[18]? = some { dst := some 0, op := Op.assign (.tmp 10), type := 68, pos := p, after := af, guard := none } ∧ (⟨17, .data⟩ : Edge) ∈ af ∧ ∀ e ∈ af, e.on < 18
end Go.Proofs.YtkieljleopbhoaaDoor.Lex
namespace Go.Proofs.YtkieljleopbhoaaDoor.Lex
open Go.ChangeShapes Go.WideShapes Go.ChangeAt Go.RowKit Go.Joins Go.WideMaps Go.WideElems Go.Maps
theorem left_upd {b : Nat → Bool} {k : Nat} (hk : k < 8) (hb : b k = false) : left b = left (upd b k) + 1 := by
  rcases cases8 hk with rfl | rfl | rfl | rfl | rfl | rfl | rfl | rfl <;> simp [left, upd, hb] <;> omega
theorem left_none {b : Nat → Bool} (h : left b = 0) : ∀ k, k < 8 → b k = true := fun k hk => by
  cases e : b k with
  | true => rfl
  | false => have := left_upd hk e; omega
theorem L35_upd (b : Nat → Bool) {k : Nat} (hk : k < 8) : (L35 b).setIfInBounds (2 + 2 * k) true = L35 (upd b k) := by
  rcases cases8 hk with rfl | rfl | rfl | rfl | rfl | rfl | rfl | rfl <;> simp [L35, upd]
theorem L35_at (b : Nat → Bool) {k : Nat} (hk : k < 8) (d : Bool) : (L35 b).getD (2 + 2 * k) d = b k := by
  rcases cases8 hk with rfl | rfl | rfl | rfl | rfl | rfl | rfl | rfl <;> rfl
def all35 (x y : Bool) : Array Bool := #[true, true, true, true, true, true, true, true, true, true, true, true, true, true, true, true, true, x, y]
theorem all35_at (x y : Bool) {d : Bool} {i : Nat} (h : i < 17) : (all35 x y).getD i d = true := by
  have : i = 0 ∨ i = 1 ∨ i = 2 ∨ i = 3 ∨ i = 4 ∨ i = 5 ∨ i = 6 ∨ i = 7 ∨ i = 8 ∨ i = 9 ∨ i = 10 ∨ i = 11 ∨ i = 12 ∨ i = 13 ∨ i = 14 ∨ i = 15 ∨ i = 16 := by omega
  rcases this with rfl | rfl | rfl | rfl | rfl | rfl | rfl | rfl | rfl | rfl | rfl | rfl | rfl | rfl | rfl | rfl | rfl <;> rfl
theorem all35_at' (y : Bool) {d : Bool} {i : Nat} (h : i < 18) : (all35 true y).getD i d = true := by
  by_cases e : i < 17
  · exact all35_at _ _ e
  · obtain rfl : i = 17 := by omega
    rfl
theorem ready_18 {ops : Array Oper} (O : Ops35 ops) {i : Nat} (h : i ∈ Region.ready .any ops (all35 true false)) : i = 18 := by
  obtain ⟨h1, o, h2, _⟩ := mem_ready.1 h
  have hi : i < 19 := by have := (Array.getElem?_eq_some_iff.1 h2).1; rw [O.size] at this; exact this
  by_cases e : i < 18
  · rw [all35_at' false e] at h1; cases h1
  · omega
/-- Which may come up. -/
theorem ready35 {ops : Array Oper} (O : Ops35 ops) {b : Nat → Bool} {i : Nat} (h : i ∈ Region.ready .any ops (L35 b)) : (∃ k, k < 8 ∧ i = 2 + 2 * k ∧ b k = false) ∨ (i = 17 ∧ ∀ k, k < 8 → b k = true) := by
  obtain ⟨h1, o, h2, h3⟩ := mem_ready.1 h
  have hi : i < 19 := by have := (Array.getElem?_eq_some_iff.1 h2).1; rw [O.size] at this; exact this
  by_cases h17 : i = 17
  · subst h17
    refine .inr ⟨rfl, fun k hk => ?_⟩
    obtain ⟨p, af, e, hm, _⟩ := O.o17
    rw [e] at h2
    cases h2
    have := h3 _ (hm k hk) rfl
    rw [L35_at b hk] at this
    exact this
  · by_cases h18 : i = 18
    · subst h18
      obtain ⟨p, af, e, hm, _⟩ := O.o18
      rw [e] at h2
      cases h2
      have := h3 _ hm rfl
      cases this
    · left
      by_cases he : i % 2 = 0 ∧ 2 ≤ i
      · refine ⟨i / 2 - 1, by omega, by omega, ?_⟩
        rw [← L35_at b (k := i / 2 - 1) (by omega) true, show 2 + 2 * (i / 2 - 1) = i by omega]
        exact h1
      · exfalso
        have : i = 0 ∨ i = 1 ∨ i = 3 ∨ i = 5 ∨ i = 7 ∨ i = 9 ∨ i = 11 ∨ i = 13 ∨ i = 15 := by omega
        rcases this with rfl | rfl | rfl | rfl | rfl | rfl | rfl | rfl | rfl <;> cases h1
theorem ins_ready {ops : Array Oper} (O : Ops35 ops) {b : Nat → Bool} {k : Nat} (hk : k < 8) (hb : b k = false) : 2 + 2 * k ∈ Region.ready .any ops (L35 b) := by
  obtain ⟨p, hp⟩ := O.ins k hk
  refine mem_ready.2 ⟨by rw [L35_at b hk]; exact hb, _, hp, fun e he _ => ?_⟩
  simp only [List.mem_toArray, List.mem_cons, List.not_mem_nil, or_false] at he
  rcases he with rfl | rfl
  · rfl
  · rcases cases8 hk with rfl | rfl | rfl | rfl | rfl | rfl | rfl | rfl <;> rfl
theorem grownM {a b c : World} {r : Option Nat} (h : a.grownBy b r) (k : b.grownBy c r) : a.grownBy c r := grown_on h k
set_option maxRecDepth 100000 in
/-- The inserts, in any order, then the two last ones. -/
theorem inserts {ops : Array Oper} (O : Ops35 ops) {Q : Exit → Act → World → Prop} {a : Act} {mp : Nat} (h1 : a.eval (.tmp 1) = .map (some mp)) (hk : ∀ k, k < 8 → a.eval (.tmp (2 + k)) = aKey k) (hsz : a.tmps.size = 11) (w0 : World)
    (hQ : ∀ w, w0.grownBy w (some mp) → AtM (fun _ => true) mp 0 w → Q .normal ((a.put (some 10) (.map (some mp))).put (some 0) (.map (some mp))) w) :
    ∀ (n : Nat) (b : Nat → Bool) (w : World), left b = n → AtM b mp n w → w0.grownBy w (some mp) → wpAnyH Tryd.prog .any ops Q (fun _ => True) (n + 2) (L35 b) a w
  | 0, b, w, hn, hA, hg => by
    have hall := left_none hn
    have hA' : AtM (fun _ => true) mp 0 w := by
      obtain ⟨es, clock, e1, e2, e3, e4, e5⟩ := hA
      exact ⟨es, clock, e1, e2, e3, fun x hx => by obtain ⟨k, q1, q2, q3⟩ := e4 x hx; exact ⟨k, q1, rfl, q3⟩, fun k hk' _ => e5 k hk' (hall k hk')⟩
    have eL : L35 b = all35 false false := by
      simp [L35, all35, hall]
    obtain ⟨p17, af17, e17, _, n17⟩ := O.o17
    obtain ⟨p18, af18, e18, _, n18⟩ := O.o18
    rw [eL]
    refine ⟨fun he => ?_, fun i hi => ?_⟩
    · exfalso
      have : 17 ∈ Region.ready .any ops (all35 false false) := mem_ready.2 ⟨rfl, _, e17, fun e hm _ => all35_at _ _ (n17 e hm)⟩
      rw [he] at this
      cases this
    · have h17 : i = 17 := by
        rw [← eL] at hi
        rcases ready35 O hi with ⟨k, hk', _, hb⟩ | ⟨e, _⟩
        · rw [hall k hk'] at hb; cases hb
        · exact e
      subst h17
      refine wpOp_step e17 fun K hK => ?_
      refine if_take rfl ?_
      show Oper.upon _ _ _ _ _ _
      have e : (execOp a.eval { dst := some 10, op := Op.move (.tmp 1), type := 68, pos := p17, after := af17, guard := none }).run Tryd.prog w = .ok (.value (.map (some mp))) w := by
        simp only [execOp, h1]
        rfl
      rw [e, Oper.upon_value]
      refine hK _ _ ⟨trivial, ?_⟩
      rw [show (all35 false false).setIfInBounds 17 true = all35 true false from rfl]
      refine ⟨fun he => ?_, fun i hi => ?_⟩
      · exfalso
        have : 18 ∈ Region.ready .any ops (all35 true false) := mem_ready.2 ⟨rfl, _, e18, fun e hm _ => all35_at' _ (n18 e hm)⟩
        rw [he] at this
        cases this
      · have h18 := ready_18 O hi
        subst h18
        refine wpOp_step e18 fun K hK => ?_
        refine if_take rfl ?_
        show Oper.upon _ _ _ _ _ _
        have e10 : (a.put (some 10) (.map (some mp))).eval (.tmp 10) = .map (some mp) := by
          simp [Act.put, Act.eval, hsz]
        have e : (execOp (a.put (some 10) (.map (some mp))).eval { dst := some 0, op := Op.assign (.tmp 10), type := 68, pos := p18, after := af18, guard := none }).run Tryd.prog w = .ok (.value (.map (some mp))) w := by
          simp only [execOp, e10]
          rfl
        rw [e, Oper.upon_value]
        refine hK _ _ ⟨trivial, ?_, hQ w hg hA'⟩
        rw [List.eq_nil_iff_forall_not_mem]
        intro i hi
        obtain ⟨q1, o, q2, _⟩ := mem_ready.1 hi
        have hi19 : i < 19 := by have := (Array.getElem?_eq_some_iff.1 q2).1; rw [O.size] at this; exact this
        have : (all35 true true).getD i true = true := by
          by_cases h : i < 18
          · exact all35_at' (d := true) true h
          · obtain rfl : i = 18 := by omega
            rfl
        rw [show (all35 true false).setIfInBounds 18 true = all35 true true from rfl, this] at q1
        cases q1
  | n + 1, b, w, hn, hA, hg => by
    refine ⟨fun he => ?_, fun i hi => ?_⟩
    · exfalso
      have : ∃ k, k < 8 ∧ b k = false := by
        by_cases hc : ∃ k, k < 8 ∧ b k = false
        · exact hc
        · have : left b = 0 := by
            have hb : ∀ k, k < 8 → b k = true := fun k hk => by
              cases e : b k with
              | true => rfl
              | false => exact (hc ⟨k, hk, e⟩).elim
            simp [left, hb]
          omega
      obtain ⟨k, hk', hb⟩ := this
      have := ins_ready O hk' hb
      rw [he] at this
      cases this
    · rcases ready35 O hi with ⟨k, hk', rfl, hb⟩ | ⟨_, hall⟩
      · obtain ⟨w', hr, hA', hg'⟩ := hA.more hk' hb
        obtain ⟨p, hp⟩ := O.ins k hk'
        refine wpOp_step hp fun K hK => ?_
        refine if_take rfl ?_
        show Oper.upon _ _ _ _ _ _
        have e : (execOp a.eval (insOp k p)).run Tryd.prog w = .ok .skip w' := by
          simp only [execOp, h1, hk k hk']
          rw [show a.eval (.func (aR k).2.2) = aVal k from rfl]
          simp [hr, Result.andThen]
        rw [e, Oper.upon_skip]
        refine hK _ _ ⟨trivial, ?_⟩
        rw [L35_upd b hk']
        exact inserts O h1 hk hsz w0 hQ n (upd b k) w' (by have := left_upd hk' hb; omega) hA' (grownM hg hg')
      · have : left b = 0 := by simp [left, hall]
        omega
theorem AtM.none (mp : Nat) (w : World) (h : w.heap[mp]? = some (.map #[] 0)) : AtM (fun _ => false) mp 8 w :=
  ⟨#[], 0, h, ⟨by simp, ⟨fun _ h => by simp at h, by simp, by simp⟩, fun _ h => by simp at h⟩, by simp, fun _ h => by simp at h, fun _ _ h => by cases h⟩
set_option maxRecDepth 100000 in
set_option maxHeartbeats 1000000 in
theorem atoms (w : World) : Calls Tryd.prog 35 #[] w fun e w' => ∃ mp, e = .returned (.map (some mp)) ∧ AtM (fun _ => true) mp 0 w' ∧ w.heap.size = mp ∧ Below w.heap.size w w' := by
  have hmm := @run_makeMap Tryd.prog
  go_enter Tryd.func35, Tryd.ntmps35
  go_wp2
  refine wp_region_held_drew (S := fun _ => True) (by kernel_rfl) trivial (fun _ => ?_)
  refine wpAnyH_take (i := 1) (oi := { dst := some 2, op := Op.build 81 #[(0, Operand.const (Value.int IntKind.u8 1)), (1, Operand.const (Value.string { data := #[] }))], type := 81, pos := _, after := #[], guard := none }) (v := aKey 0) rfl (by kernel_rfl) (by kernel_rfl) (by kernel_rfl) (fun _ _ _ h => h) (Or.inl ⟨by rfl, ?_⟩) (by assumption) ?_
  · intro w hSw; (try dsimp only at hSw); go_simp; rfl
  simp only [Act.put, List.setIfInBounds_toArray, List.set_cons_zero, List.set_cons_succ]
  refine wpAnyH_take (i := 3) (oi := { dst := some 3, op := Op.build 81 #[(0, Operand.const (Value.int IntKind.u8 1)), (1, Operand.const (Value.string { data := #[116, 114, 117, 101] }))], type := 81, pos := _, after := #[], guard := none }) (v := aKey 1) rfl (by kernel_rfl) (by kernel_rfl) (by kernel_rfl) (fun _ _ _ h => h) (Or.inl ⟨by rfl, ?_⟩) (by assumption) ?_
  · intro w hSw; (try dsimp only at hSw); go_simp; rfl
  simp only [Act.put, List.setIfInBounds_toArray, List.set_cons_zero, List.set_cons_succ]
  refine wpAnyH_take (i := 5) (oi := { dst := some 4, op := Op.build 81 #[(0, Operand.const (Value.int IntKind.u8 1)), (1, Operand.const (Value.string { data := #[102, 97, 108, 115, 101] }))], type := 81, pos := _, after := #[], guard := none }) (v := aKey 2) rfl (by kernel_rfl) (by kernel_rfl) (by kernel_rfl) (fun _ _ _ h => h) (Or.inl ⟨by rfl, ?_⟩) (by assumption) ?_
  · intro w hSw; (try dsimp only at hSw); go_simp; rfl
  simp only [Act.put, List.setIfInBounds_toArray, List.set_cons_zero, List.set_cons_succ]
  refine wpAnyH_take (i := 7) (oi := { dst := some 5, op := Op.build 81 #[(0, Operand.const (Value.int IntKind.u8 2)), (1, Operand.const (Value.string { data := #[] }))], type := 81, pos := _, after := #[], guard := none }) (v := aKey 3) rfl (by kernel_rfl) (by kernel_rfl) (by kernel_rfl) (fun _ _ _ h => h) (Or.inl ⟨by rfl, ?_⟩) (by assumption) ?_
  · intro w hSw; (try dsimp only at hSw); go_simp; rfl
  simp only [Act.put, List.setIfInBounds_toArray, List.set_cons_zero, List.set_cons_succ]
  refine wpAnyH_take (i := 9) (oi := { dst := some 6, op := Op.build 81 #[(0, Operand.const (Value.int IntKind.u8 3)), (1, Operand.const (Value.string { data := #[40] }))], type := 81, pos := _, after := #[], guard := none }) (v := aKey 4) rfl (by kernel_rfl) (by kernel_rfl) (by kernel_rfl) (fun _ _ _ h => h) (Or.inl ⟨by rfl, ?_⟩) (by assumption) ?_
  · intro w hSw; (try dsimp only at hSw); go_simp; rfl
  simp only [Act.put, List.setIfInBounds_toArray, List.set_cons_zero, List.set_cons_succ]
  refine wpAnyH_take (i := 11) (oi := { dst := some 7, op := Op.build 81 #[(0, Operand.const (Value.int IntKind.u8 3)), (1, Operand.const (Value.string { data := #[45] }))], type := 81, pos := _, after := #[], guard := none }) (v := aKey 5) rfl (by kernel_rfl) (by kernel_rfl) (by kernel_rfl) (fun _ _ _ h => h) (Or.inl ⟨by rfl, ?_⟩) (by assumption) ?_
  · intro w hSw; (try dsimp only at hSw); go_simp; rfl
  simp only [Act.put, List.setIfInBounds_toArray, List.set_cons_zero, List.set_cons_succ]
  refine wpAnyH_take (i := 13) (oi := { dst := some 8, op := Op.build 81 #[(0, Operand.const (Value.int IntKind.u8 1)), (1, Operand.const (Value.string { data := #[110, 111, 116] }))], type := 81, pos := _, after := #[], guard := none }) (v := aKey 6) rfl (by kernel_rfl) (by kernel_rfl) (by kernel_rfl) (fun _ _ _ h => h) (Or.inl ⟨by rfl, ?_⟩) (by assumption) ?_
  · intro w hSw; (try dsimp only at hSw); go_simp; rfl
  simp only [Act.put, List.setIfInBounds_toArray, List.set_cons_zero, List.set_cons_succ]
  refine wpAnyH_take (i := 15) (oi := { dst := some 9, op := Op.build 81 #[(0, Operand.const (Value.int IntKind.u8 1)), (1, Operand.const (Value.string { data := #[112, 114, 101] }))], type := 81, pos := _, after := #[], guard := none }) (v := aKey 7) rfl (by kernel_rfl) (by kernel_rfl) (by kernel_rfl) (fun _ _ _ h => h) (Or.inl ⟨by rfl, ?_⟩) (by assumption) ?_
  · intro w hSw; (try dsimp only at hSw); go_simp; rfl
  simp only [Act.put, List.setIfInBounds_toArray, List.set_cons_zero, List.set_cons_succ]
  refine wpAnyH_ready (rs := [0]) (by kernel_rfl) (by simp) ?_
  refine AllReadyH.cons (o := { dst := some 1, op := Op.makeMap 68 none, type := 68, pos := _, after := #[], guard := none }) rfl (fun K hK => ?_) AllReadyH.nil
  go_simp
  go_wp2_with fail
  refine hK.out _ _ trivial (fun _ => ?_)
  clear hK K
  rename_i K hK _ _
  refine inserts (mp := w.heap.size) ⟨rfl, ?_, ⟨_, _, rfl, ?_, ?_⟩, ⟨_, _, rfl, ?_, ?_⟩⟩ rfl ?_ rfl (w.alloc (.map #[] 0)).drew (fun w2 hg hA => ?_) 8 (fun _ => false) _ rfl (AtM.none _ _ (heap_alloc_new w _)) (World.grownBy.refl _ _)
  · intro k hk; rcases cases8 hk with rfl | rfl | rfl | rfl | rfl | rfl | rfl | rfl <;> exact ⟨_, rfl⟩
  · intro k hk; rcases cases8 hk with rfl | rfl | rfl | rfl | rfl | rfl | rfl | rfl <;> simp
  · simp
  · simp
  · simp
  · intro k hk; rcases cases8 hk with rfl | rfl | rfl | rfl | rfl | rfl | rfl | rfl <;> rfl
  · refine hK _ _ ?_
    simp only [Act.put, List.setIfInBounds_toArray, List.set_cons_zero, List.set_cons_succ]
    go_wp2
    go_ret
    have b1 : Below w.heap.size w (w.alloc (.map #[] 0)).drew := below_drewN ((Below.refl _ _).alloc (Nat.le_refl _) (.map #[] 0)) 1
    exact ⟨_, rfl, hA, rfl, b1.grown hg (by simp [World.drew]) (fun k e => by cases e; exact Nat.le_refl _)⟩
end Go.Proofs.YtkieljleopbhoaaDoor.Lex
namespace Go.Proofs.YtkieljleopbhoaaDoor.Lex
open Go.ChangeShapes Go.WideShapes Go.ChangeAt Go.RowKit Go.Joins
/-- What comes behind what was read. -/
def Res.go (r : Res) (f : Ex → Nat → Res) : Res := match r with | .ok (x, q) => f x q | .error e => .error e
theorem Res.go_ok (x : Ex) (q : Nat) (f : Ex → Nat → Res) : Res.go (.ok (x, q)) f = f x q := rfl
theorem Res.go_error (e : Nat × Nat) (f : Ex → Nat → Res) : Res.go (.error e) f = .error e := rfl
/-- A token that must stand there. -/
def passR (ts : List Mark) (kind : Nat) (text : ByteArray) (p : Nat) (f : Nat → Res) : Res := if isMk (markAt ts p) kind text then f (p + 1) else .error (5, p)
abbrev sgn (l : List UInt8) : ByteArray := ⟨l.toArray⟩
/-- What may stand in any place; 'part' reads what stands inside of it. -/
def atomR (ts : List Mark) (part : Nat → Nat → Res) (p : Nat) : Res :=
  let m := markAt ts p
  if isMk m 1 (sgn [116, 114, 117, 101]) then .ok (⟨2, 1, ByteArray.empty, []⟩, p + 1)
  else if isMk m 1 (sgn [102, 97, 108, 115, 101]) then .ok (⟨2, 0, ByteArray.empty, []⟩, p + 1)
  else if isMk m 3 (sgn [40]) then (part 0 (p + 1)).go fun x q => passR ts 3 (sgn [41]) q fun q => .ok (x, q)
  else if isMk m 3 (sgn [45]) then (part 6 (p + 1)).go fun x q => .ok (⟨4, 0, ByteArray.empty, [x]⟩, q)
  else if isMk m 1 (sgn [110, 111, 116]) then (part 6 (p + 1)).go fun x q => .ok (⟨5, 0, ByteArray.empty, [x]⟩, q)
  else if isMk m 1 (sgn [112, 114, 101]) then (part 6 (p + 1)).go fun x q => .ok (⟨19, 0, ByteArray.empty, [x]⟩, q)
  else if m.kind = 1 then (if isName m.text then .ok (⟨3, 0, m.text, []⟩, p + 1) else .error (5, p))
  else if m.kind = 2 then (if numE m.text = 0 then .ok (⟨1, numN m.text, ByteArray.empty, []⟩, p + 1) else .error ((numE m.text).toNat, p))
  else .error (5, p)
def choiceR (ts : List Mark) (part : Nat → Nat → Res) (p : Nat) : Res :=
  (part 0 (p + 1)).go fun x q => passR ts 1 (sgn [116, 104, 101, 110]) q fun q => (part 0 q).go fun y q => passR ts 1 (sgn [101, 108, 115, 101]) q fun q => (part 0 q).go fun z q => .ok (⟨17, 0, ByteArray.empty, [x, y, z]⟩, q)
/-- A part for a place that asks for a rank (none), or how it goes on behind what has a rank (some): so many steps at most. -/
def prs (ts : List Mark) : Nat → Nat → Option (Ex × Nat) → Nat → Res
  | 0, _, _, p => .error (0, p)
  | k + 1, asked, none, p =>
    if asked = 0 ∧ isMk (markAt ts p) 1 (sgn [105, 102]) = true then choiceR ts (fun a q => prs ts k a none q) p
    else (atomR ts (fun a q => prs ts k a none q) p).go fun x q => prs ts k asked (some (x, 7)) q
  | k + 1, asked, some (x, rank), p => match jAt (markAt ts p) with
    | none => .ok (x, p)
    | some j => if j.rank < asked ∨ rank < j.first then .ok (x, p)
      else (prs ts k j.second none (p + 1)).go fun y q => prs ts k asked (some (⟨j.op, 0, ByteArray.empty, [x, y]⟩, j.rank)) q
end Go.Proofs.YtkieljleopbhoaaDoor.Lex
namespace Go.Proofs.YtkieljleopbhoaaDoor.Lex
theorem Res.go_inv {r : Res} {f : Ex → Nat → Res} {z : Ex × Nat} (h : r.go f = .ok z) : ∃ x q, r = .ok (x, q) ∧ f x q = .ok z := by
  unfold Res.go at h
  split at h
  · exact ⟨_, _, rfl, h⟩
  · cases h
theorem passR_inv {ts : List Mark} {kind : Nat} {text : ByteArray} {p : Nat} {f : Nat → Res} {z : Ex × Nat} (h : passR ts kind text p f = .ok z) : isMk (markAt ts p) kind text = true ∧ f (p + 1) = .ok z := by
  unfold passR at h
  split at h
  · rename_i h1; exact ⟨h1, h⟩
  · cases h
theorem atomR_far {ts : List Mark} {part : Nat → Nat → Res} (hp : ∀ a q x q', part a q = .ok (x, q') → q < q') {p q : Nat} {x : Ex} (h : atomR ts part p = .ok (x, q)) : p < q := by
  unfold atomR at h
  simp only at h
  split at h
  · cases h; omega
  split at h
  · cases h; omega
  split at h
  · obtain ⟨x1, q1, h1, h2⟩ := Res.go_inv h
    obtain ⟨_, h3⟩ := passR_inv h2
    cases h3
    have := hp _ _ _ _ h1
    omega
  iterate 3
    split at h
    · obtain ⟨x1, q1, h1, h2⟩ := Res.go_inv h
      cases h2
      have := hp _ _ _ _ h1
      omega
  split at h
  · split at h
    · cases h; omega
    · cases h
  split at h
  · split at h
    · cases h; omega
    · cases h
  · cases h
theorem choiceR_far {ts : List Mark} {part : Nat → Nat → Res} (hp : ∀ a q x q', part a q = .ok (x, q') → q < q') {p q : Nat} {x : Ex} (h : choiceR ts part p = .ok (x, q)) : p < q := by
  unfold choiceR at h
  obtain ⟨x1, q1, h1, h⟩ := Res.go_inv h
  obtain ⟨_, h⟩ := passR_inv h
  obtain ⟨x2, q2, h2, h⟩ := Res.go_inv h
  obtain ⟨_, h⟩ := passR_inv h
  obtain ⟨x3, q3, h3, h⟩ := Res.go_inv h
  cases h
  have := hp _ _ _ _ h1
  have := hp _ _ _ _ h2
  have := hp _ _ _ _ h3
  omega
/-- What is read is not nothing. -/
theorem prs_far (ts : List Mark) : ∀ k, (∀ a p x q, prs ts k a none p = .ok (x, q) → p < q) ∧ ∀ a y p x q, prs ts k a (some y) p = .ok (x, q) → p ≤ q
  | 0 => ⟨fun a p x q h => by simp [prs] at h, fun a y p x q h => by simp [prs] at h⟩
  | k + 1 => by
    obtain ⟨i1, i2⟩ := prs_far ts k
    refine ⟨fun a p x q h => ?_, fun a y p x q h => ?_⟩
    · rw [prs] at h
      split at h
      · exact choiceR_far (part := fun a q => prs ts k a none q) i1 h
      · obtain ⟨x1, q1, h1, h2⟩ := Res.go_inv h
        have := atomR_far (part := fun a q => prs ts k a none q) i1 h1
        have := i2 _ _ _ _ _ h2
        omega
    · obtain ⟨y, rank⟩ := y
      rw [prs] at h
      split at h
      · cases h; omega
      · split at h
        · cases h; omega
        · obtain ⟨x1, q1, h1, h2⟩ := Res.go_inv h
          have := i1 _ _ _ _ h1
          have := i2 _ _ _ _ _ h2
          omega
end Go.Proofs.YtkieljleopbhoaaDoor.Lex
namespace Go.Proofs.YtkieljleopbhoaaDoor.Lex
theorem isMk_lt {ts : List Mark} {p kind : Nat} {text : ByteArray} (hk : kind ≠ 0) (h : isMk (markAt ts p) kind text = true) : p < ts.length := by
  by_cases e : p < ts.length
  · exact e
  · exfalso
    have h1 := (isMk_yes h).1
    rw [show markAt ts p = ⟨0, ByteArray.empty⟩ by unfold markAt; rw [List.getD_eq_getElem?_getD, List.getElem?_eq_none (by omega)]; rfl] at h1
    simp at h1
    omega
theorem Res.go_congr {r r' : Res} {f f' : Ex → Nat → Res} (h : r = r') (hf : ∀ x q, r = .ok (x, q) → f x q = f' x q) : r.go f = r'.go f' := by
  subst h
  unfold Res.go
  split
  · exact hf _ _ rfl
  · rfl
theorem passR_congr {ts : List Mark} {kind : Nat} {text : ByteArray} {p : Nat} {f f' : Nat → Res} (h : f (p + 1) = f' (p + 1)) : passR ts kind text p f = passR ts kind text p f' := by
  unfold passR
  rw [h]
theorem atomR_congr {ts : List Mark} {part part' : Nat → Nat → Res} {p : Nat} (h : p < ts.length → ∀ a q, p < q → part a q = part' a q) : atomR ts part p = atomR ts part' p := by
  unfold atomR
  simp only
  split
  · rfl
  split
  · rfl
  split
  · rename_i hm; rw [h (isMk_lt (by omega) hm) 0 (p + 1) (by omega)]
  iterate 3
    split
    · rename_i hm; rw [h (isMk_lt (by omega) hm) 6 (p + 1) (by omega)]
  rfl
theorem choiceR_congr {ts : List Mark} {part part' : Nat → Nat → Res} {p : Nat} (hf : ∀ a q x q', part a q = .ok (x, q') → q < q') (h : ∀ a q, p < q → part a q = part' a q) : choiceR ts part p = choiceR ts part' p := by
  unfold choiceR
  refine Res.go_congr (h _ _ (by omega)) fun x q h1 => passR_congr ?_
  have := hf _ _ _ _ h1
  refine Res.go_congr (h _ _ (by omega)) fun y q2 h2 => passR_congr ?_
  have := hf _ _ _ _ h2
  exact Res.go_congr (h _ _ (by omega)) fun z q3 _ => rfl
theorem jAt_lt {ts : List Mark} {p : Nat} {j : J} (h : jAt (markAt ts p) = some j) : p < ts.length := by
  by_cases e : p < ts.length
  · exact e
  · exfalso
    rw [show markAt ts p = ⟨0, ByteArray.empty⟩ by unfold markAt; rw [List.getD_eq_getElem?_getD, List.getElem?_eq_none (by omega)]; rfl] at h
    have : jAt ⟨0, ByteArray.empty⟩ = none := by decide
    rw [this] at h
    cases h
/-- Enough steps are enough. -/
theorem prs_same (ts : List Mark) : ∀ k k', (∀ a p, 2 * (ts.length - p) + 2 ≤ k → 2 * (ts.length - p) + 2 ≤ k' → prs ts k a none p = prs ts k' a none p) ∧ ∀ a y p, 2 * (ts.length - p) + 1 ≤ k → 2 * (ts.length - p) + 1 ≤ k' → prs ts k a (some y) p = prs ts k' a (some y) p
  | 0, _ => ⟨fun a p h _ => by omega, fun a y p h _ => by omega⟩
  | _ + 1, 0 => ⟨fun a p _ h => by omega, fun a y p _ h => by omega⟩
  | k + 1, k' + 1 => by
    obtain ⟨i1, i2⟩ := prs_same ts k k'
    refine ⟨fun a p h h' => ?_, fun a y p h h' => ?_⟩
    · rw [prs, prs]
      split
      · rename_i hm
        have hl := isMk_lt (by omega) hm.2
        exact choiceR_congr (part := fun a q => prs ts k a none q) (part' := fun a q => prs ts k' a none q) (prs_far ts k).1 fun a q hq => i1 a q (by omega) (by omega)
      · refine Res.go_congr (atomR_congr fun hl a q hq => i1 a q (by omega) (by omega)) fun x q h1 => ?_
        have := atomR_far (part := fun a q => prs ts k a none q) (prs_far ts k).1 h1
        exact i2 _ _ _ (by omega) (by omega)
    · obtain ⟨y, rank⟩ := y
      rw [prs, prs]
      split
      · rfl
      · rename_i j hj
        have hl := jAt_lt hj
        split
        · rfl
        · refine Res.go_congr (i1 _ _ (by omega) (by omega)) fun x q h1 => ?_
          have := (prs_far ts k).1 _ _ _ _ h1
          exact i2 _ _ _ (by omega) (by omega)
end Go.Proofs.YtkieljleopbhoaaDoor.Lex
namespace Go.Proofs.YtkieljleopbhoaaDoor.Lex
open Go.ChangeShapes Go.WideShapes Go.ChangeAt Go.RowKit Go.Joins Go.WideMaps Go.WideElems Go.Maps
/-- What the reader needs besides. -/
structure PEnv (r mp : Nat) (w : World) : Prop where
  tabR : TabR w
  tabJ : TabJ w
  var : ∃ tp pv, w.var? Tryd.prog "strconv.ErrRange" = some #[.iface tp pv]
  am : AtM (fun _ => true) mp 0 w
  far : 8 ≤ r
  ne : mp ≠ r
theorem AtM.kept {b : Nat → Bool} {mp n : Nat} {w W : World} (h : AtM b mp n w) (hb : mp < w.heap.size → W.heap[mp]? = w.heap[mp]?) : AtM b mp n W := by
  obtain ⟨es, clock, e1, e2⟩ := h
  exact ⟨es, clock, (hb (Array.getElem?_eq_some_iff.1 e1).1).trans e1, e2⟩
theorem PEnv.grown {r mp : Nat} {w W : World} (h : PEnv r mp w) (g : w.grownBy W (some r)) : PEnv r mp W := by
  have hf := h.far
  have hb : ∀ k, k < w.heap.size → k ≠ r → W.heap[k]? = w.heap[k]? := fun k hk hkr => g.block k hk (fun e => by injection e with e; exact hkr e)
  refine ⟨?_, ?_, ?_, h.am.kept fun hl => hb mp hl h.ne, hf, h.ne⟩
  · obtain ⟨t, fz, e⟩ := h.tabR
    exact ⟨t, fz, (hb 3 (Array.getElem?_eq_some_iff.1 e).1 (by omega)).trans e⟩
  · obtain ⟨t, fz, e⟩ := h.tabJ
    exact ⟨t, fz, (hb 0 (Array.getElem?_eq_some_iff.1 e).1 (by omega)).trans e⟩
  · obtain ⟨tp, pv, e⟩ := h.var
    refine ⟨tp, pv, ?_⟩
    unfold World.var? at e ⊢
    rw [gRange] at e ⊢
    simp only [Option.bind_some] at e ⊢
    by_cases hl : 7 < w.heap.size
    · rw [hb 7 hl (by omega)]; exact e
    · rw [Array.getElem?_eq_none (by omega)] at e; cases e
theorem PEnv.below {r mp : Nat} {w W : World} (h : PEnv r mp w) (b : Below w.heap.size w W) : PEnv r mp W := h.grown (grown_below b _)
/-- Tokens that may be. -/
def TsOk (ts : List Mark) : Prop := ∀ m ∈ ts, m.kind < 256 ∧ m.text.size ≤ 1048576
theorem TsOk.at {ts : List Mark} (h : TsOk ts) (p : Nat) : (markAt ts p).kind < 256 ∧ (markAt ts p).text.size ≤ 1048576 := by
  unfold markAt
  rw [List.getD_eq_getElem?_getD]
  cases e : ts[p]? with
  | none => exact ⟨by decide, by decide⟩
  | some m => exact h m (List.mem_of_getElem? e)
theorem zeroFn (w : World) : (zeroValue 69).run Tryd.prog w = .ok .nilFunc w := by kernel_rfl
set_option maxRecDepth 100000 in
theorem AtM.look {mp : Nat} {w : World} (h : AtM (fun _ => true) mp 0 w) (m : Mark) (hk : m.kind < 256) (hs : m.text.size ≤ 1048576) :
    (∀ k, k < 8 → aKey k ≠ mkV m) ∧ (Instr.lookup 68 (.map (some mp)) (mkV m) true).run Tryd.prog w = .ok (.tuple #[.nilFunc, .bool false]) w ∨ ∃ k, k < 8 ∧ aKey k = mkV m ∧ (Instr.lookup 68 (.map (some mp)) (mkV m) true).run Tryd.prog w = .ok (.tuple #[aVal k, .bool true]) w := by
  obtain ⟨es, clock, hh, F, _, h1, h2⟩ := h
  obtain ⟨l, hl⟩ := key_is m hk (by unfold maxLen; omega)
  rcases fit_look true keyed81 Tryd.underlying68 (zeroFn w) hh F hl with ⟨e1, e2, _⟩ | ⟨e0, y, e1, e2, e3, _⟩
  · refine .inl ⟨fun k hk' e => ?_, e1⟩
    obtain ⟨x, hx, ex⟩ := h2 k hk' rfl
    exact e2 x hx (ex.trans e)
  · obtain ⟨k, hk', _, ek, ev⟩ := h1 e0 e1
    refine .inr ⟨k, hk', ek.symm.trans e2, ?_⟩
    rw [e3, ev]
    rfl
/-- A function value's call is a call of that function. -/
def Plain (F : FuncId) : Prop := ∀ (a : Array Value) (W : World), (callFunc F a).run Tryd.prog W = .ok (.enter F a) W
/-- What a reader's step answers, handed on from boxes. -/
theorem Post.behind {r mp : Nat} {v : Value} {ts : List Mark} {p q : Nat} {x : Ex} {s : Value} {w W w2 : World} (h : Rdr r mp v ts p w) (b0 : Below w.heap.size w W) (hs : w.heap.size < W.heap.size) (g2 : W.grownBy w2 (some r)) (st : StP (fun b => W.heap.size ≤ b) w2 x s) (h2 : Rdr r mp v ts q w2) (d : Array Value) :
    w.grownBy (w2.setRow w.heap.size d) (some r) ∧ StP (fun b => w.heap.size ≤ b) (w2.setRow w.heap.size d) x s ∧ Rdr r mp v ts q (w2.setRow w.heap.size d) := by
  refine ⟨grown_setRow (grown_on (grown_below b0 _) g2) d, ?_, h.setRow h2 d⟩
  refine StP.carryN (fun b hb hl => setRow_other _ _ _ _ (by have : W.heap.size ≤ b := hb; omega)) (fun b _ hb => ?_) _ x _ (Nat.le_refl _) st
  have : W.heap.size ≤ b := hb
  show w.heap.size ≤ b
  omega
set_option maxRecDepth 100000 in
set_option maxHeartbeats 1000000 in
theorem atom_first (F : FuncId) (hF : Plain F) (r mp : Nat) (v : Value) (ts : List Mark) (p : Nat) (w : World) (h : Rdr r mp v ts p w) (res : Res)
    (hl : ∀ W, w.grownBy W (some r) → (Instr.lookup 68 (.map (some mp)) (mkV (markAt ts p)) true).run Tryd.prog W = .ok (.tuple #[.func (.func F) #[] #[], .bool true]) W)
    (cf : ∀ W, Below w.heap.size w W → Calls Tryd.prog F #[.pointer (some ⟨r, 0, none⟩)] W (Post r mp v ts W res)) :
    Calls Tryd.prog 84 #[.pointer (some ⟨r, 0, none⟩)] w (Post r mp v ts w res) := by
  have b0 := (Below.refl w.heap.size w).alloc (Nat.le_refl _) (.cells #[.int .u8 0, .int .i64 0, .string ⟨#[]⟩, .slice none 0 0] 25)
  have c := fun W hW => peek r mp v ts p W (h.step hW)
  generalize markAt ts p = m at *
  have B0 := hid b0
  have H := hid h
  clear h b0
  go_enter Tryd.func84, Tryd.ntmps84
  go_wp2_with (go_at_call 80; refine (c _ B0.out).mono ?_; rintro e w2 ⟨rfl, b2⟩; have B2 := hid b2; clear b2 c)
  have b3 := (Below.refl w2.heap.size w2).alloc (Nat.le_refl _) (.cells #[.int .u8 (m.kind : Int), .string m.text] 81)
  have h3 := (H.out.step (bstep B0.out B2.out)).step b3
  have x2 : (w2.alloc (.cells #[.int .u8 (m.kind : Int), .string m.text] 81)).cell? ⟨r, 2, none⟩ = some (.map (some mp)) := by rw [cell_of_row _ _ _ _ 71 (0, 0) h3.cell]; rfl
  have hlk := fun n => hl ((w2.alloc (.cells #[.int .u8 (m.kind : Int), .string m.text] 81)).drewN n) (grown_below (below_drewN (bstep (bstep B0.out B2.out) b3) n) _)
  have hl0 := hl (w2.alloc (.cells #[.int .u8 (m.kind : Int), .string m.text] 81)) (grown_below (bstep (bstep B0.out B2.out) b3) _)
  have B3 := hid b3
  clear h3 hl b3
  go_quiet (fail)
  go_wp2
  rw [hF, Oper.upon_enter]
  have B4 := hid (below_drewN (bstep (bstep B0.out B2.out) B3.out) nq)
  have S4 := hid (show w.heap.size < ((w2.alloc (.cells #[.int .u8 (m.kind : Int), .string m.text] 81)).drewN nq).heap.size by
    have := B2.out.size
    simp at this
    show w.heap.size < (w2.alloc (.cells #[.int .u8 (m.kind : Int), .string m.text] 81)).heap.size
    simp
    omega)
  have X4 := hid (show ((w2.alloc (.cells #[.int .u8 (m.kind : Int), .string m.text] 81)).drewN nq).heap[w.heap.size]? = some (.cells #[.int .u8 0, .int .i64 0, .string ⟨#[]⟩, .slice none 0 0] 25 (0, 0)) from
    heap_drew ((B3.out.block _ (by have := B2.out.size; simp at this; omega)).trans ((B2.out.block _ (by simp)).trans (heap_alloc_new w _))) nq)
  generalize (w2.alloc (.cells #[.int .u8 (m.kind : Int), .string m.text] 81)).drewN nq = w4 at *
  refine (cf w4 B4.out).mono ?_
  clear hlk hl0 x2 B0 B2 B3 cf hF
  cases res with
  | error e =>
    obtain ⟨n, q⟩ := e
    rintro e w5 ⟨g5, rfl, h5⟩
    exact ⟨rfl, grown_on (grown_below B4.out _) g5, rfl, h5⟩
  | ok xq =>
    obtain ⟨x, q⟩ := xq
    rintro e w5 ⟨g5, s, rfl, st, h5⟩
    obtain ⟨ao, cap, rfl⟩ := st.form
    have hbx := kept X4.out g5 H.out.lt
    have Q := hid (Post.behind H.out B4.out S4.out g5 st h5 (ex4 x (.slice ao x.args.length cap)))
    clear g5 st h5
    rename_i hK1 hK
    refine hK _ _ ?_
    clear hK
    simp only [Act.put, List.setIfInBounds_toArray, List.set_cons_zero, List.set_cons_succ]
    go_wp2_with (refine wpList_store_row rfl 25 _ _ rfl w.heap.size (ex4 x (.slice ao x.args.length cap)) rfl rfl 25 _ hbx info25 rfl (by simp [Value.oneCell', ex4]) ?_)
    exact bodyPost_ret (results_cell_row rfl _ _ w.heap.size 25 (ex4 x (.slice ao x.args.length cap)) (0, 0) _ rfl (setRow_heap _ _ _ _ _ _ hbx) Tryd.underlying25 rfl info25) rfl ⟨Q.out.1, _, rfl, Q.out.2.1, Q.out.2.2⟩
set_option maxRecDepth 100000 in
set_option maxHeartbeats 1000000 in
theorem atom_second (F : FuncId) (hF : Plain F) (r mp : Nat) (v : Value) (ts : List Mark) (p : Nat) (w : World) (h : Rdr r mp v ts p w) (res : Res)
    (hl : ∀ W, w.grownBy W (some r) → (Instr.lookup 68 (.map (some mp)) (mkV (markAt ts p)) true).run Tryd.prog W = .ok (.tuple #[.nilFunc, .bool false]) W)
    (hl' : ∀ W, w.grownBy W (some r) → (Instr.lookup 68 (.map (some mp)) (mkV ⟨(markAt ts p).kind, ⟨#[]⟩⟩) true).run Tryd.prog W = .ok (.tuple #[.func (.func F) #[] #[], .bool true]) W)
    (cf : ∀ W, Below w.heap.size w W → Calls Tryd.prog F #[.pointer (some ⟨r, 0, none⟩)] W (Post r mp v ts W res)) :
    Calls Tryd.prog 84 #[.pointer (some ⟨r, 0, none⟩)] w (Post r mp v ts w res) := by
  have b0 := (Below.refl w.heap.size w).alloc (Nat.le_refl _) (.cells #[.int .u8 0, .int .i64 0, .string ⟨#[]⟩, .slice none 0 0] 25)
  have c := fun W hW => peek r mp v ts p W (h.step hW)
  generalize markAt ts p = m at *
  have B0 := hid b0
  have H := hid h
  clear h b0
  go_enter Tryd.func84, Tryd.ntmps84
  go_wp2_with (go_at_call 80; refine (c _ B0.out).mono ?_; rintro e w2 ⟨rfl, b2⟩; have B2 := hid b2; clear b2 c)
  have b3 := (Below.refl w2.heap.size w2).alloc (Nat.le_refl _) (.cells #[.int .u8 (m.kind : Int), .string m.text] 81)
  have h3 := (H.out.step (bstep B0.out B2.out)).step b3
  have x2 : (w2.alloc (.cells #[.int .u8 (m.kind : Int), .string m.text] 81)).cell? ⟨r, 2, none⟩ = some (.map (some mp)) := by rw [cell_of_row _ _ _ _ 71 (0, 0) h3.cell]; rfl
  have hlk := fun n => hl ((w2.alloc (.cells #[.int .u8 (m.kind : Int), .string m.text] 81)).drewN n) (grown_below (below_drewN (bstep (bstep B0.out B2.out) b3) n) _)
  have hl0 := hl (w2.alloc (.cells #[.int .u8 (m.kind : Int), .string m.text] 81)) (grown_below (bstep (bstep B0.out B2.out) b3) _)
  have hlk' := fun n => hl' ((w2.alloc (.cells #[.int .u8 (m.kind : Int), .string m.text] 81)).drewN n) (grown_below (below_drewN (bstep (bstep B0.out B2.out) b3) n) _)
  have B3 := hid b3
  clear h3 hl hl' b3
  go_quiet (fail)
  go_wp2
  generalize nq = n1 at *
  have x2' : ((w2.alloc (.cells #[.int .u8 (m.kind : Int), .string m.text] 81)).drewN n1).cell? ⟨r, 2, none⟩ = some (.map (some mp)) := x2
  go_quiet (fail)
  go_wp2
  rw [hF, Oper.upon_enter]
  have B4 := hid (below_drewN (bstep (bstep B0.out B2.out) B3.out) (n1 + nq))
  have S4 := hid (show w.heap.size < ((w2.alloc (.cells #[.int .u8 (m.kind : Int), .string m.text] 81)).drewN (n1 + nq)).heap.size by
    have := B2.out.size
    simp at this
    show w.heap.size < (w2.alloc (.cells #[.int .u8 (m.kind : Int), .string m.text] 81)).heap.size
    simp
    omega)
  have X4 := hid (show ((w2.alloc (.cells #[.int .u8 (m.kind : Int), .string m.text] 81)).drewN (n1 + nq)).heap[w.heap.size]? = some (.cells #[.int .u8 0, .int .i64 0, .string ⟨#[]⟩, .slice none 0 0] 25 (0, 0)) from
    heap_drew ((B3.out.block _ (by have := B2.out.size; simp at this; omega)).trans ((B2.out.block _ (by simp)).trans (heap_alloc_new w _))) (n1 + nq))
  generalize (w2.alloc (.cells #[.int .u8 (m.kind : Int), .string m.text] 81)).drewN (n1 + nq) = w4 at *
  refine (cf w4 B4.out).mono ?_
  clear hlk hl0 x2 B0 B2 B3 cf hF
  cases res with
  | error e =>
    obtain ⟨n, q⟩ := e
    rintro e w5 ⟨g5, rfl, h5⟩
    exact ⟨rfl, grown_on (grown_below B4.out _) g5, rfl, h5⟩
  | ok xq =>
    obtain ⟨x, q⟩ := xq
    rintro e w5 ⟨g5, s, rfl, st, h5⟩
    obtain ⟨ao, cap, rfl⟩ := st.form
    have hbx := kept X4.out g5 H.out.lt
    have Q := hid (Post.behind H.out B4.out S4.out g5 st h5 (ex4 x (.slice ao x.args.length cap)))
    clear g5 st h5
    rename_i hK1 hK
    refine hK _ _ ?_
    clear hK
    simp only [Act.put, List.setIfInBounds_toArray, List.set_cons_zero, List.set_cons_succ]
    go_wp2_with (refine wpList_store_row rfl 25 _ _ rfl w.heap.size (ex4 x (.slice ao x.args.length cap)) rfl rfl 25 _ hbx info25 rfl (by simp [Value.oneCell', ex4]) ?_)
    exact bodyPost_ret (results_cell_row rfl _ _ w.heap.size 25 (ex4 x (.slice ao x.args.length cap)) (0, 0) _ rfl (setRow_heap _ _ _ _ _ _ hbx) Tryd.underlying25 rfl info25) rfl ⟨Q.out.1, _, rfl, Q.out.2.1, Q.out.2.2⟩
set_option maxRecDepth 100000 in
set_option maxHeartbeats 1000000 in
theorem atom_none (r mp : Nat) (v : Value) (ts : List Mark) (p : Nat) (w : World) (h : Rdr r mp v ts p w) 
    (hl : ∀ W, w.grownBy W (some r) → (Instr.lookup 68 (.map (some mp)) (mkV (markAt ts p)) true).run Tryd.prog W = .ok (.tuple #[.nilFunc, .bool false]) W)
    (hl' : ∀ W, w.grownBy W (some r) → (Instr.lookup 68 (.map (some mp)) (mkV ⟨(markAt ts p).kind, ⟨#[]⟩⟩) true).run Tryd.prog W = .ok (.tuple #[.nilFunc, .bool false]) W) :
    Calls Tryd.prog 84 #[.pointer (some ⟨r, 0, none⟩)] w (Post r mp v ts w (.error (5, p))) := by
  have b0 := (Below.refl w.heap.size w).alloc (Nat.le_refl _) (.cells #[.int .u8 0, .int .i64 0, .string ⟨#[]⟩, .slice none 0 0] 25)
  have c := fun W hW => peek r mp v ts p W (h.step hW)
  generalize markAt ts p = m at *
  have B0 := hid b0
  have H := hid h
  clear h b0
  go_enter Tryd.func84, Tryd.ntmps84
  go_wp2_with (go_at_call 80; refine (c _ B0.out).mono ?_; rintro e w2 ⟨rfl, b2⟩; have B2 := hid b2; clear b2 c)
  have b3 := (Below.refl w2.heap.size w2).alloc (Nat.le_refl _) (.cells #[.int .u8 (m.kind : Int), .string m.text] 81)
  have h3 := (H.out.step (bstep B0.out B2.out)).step b3
  have x2 : (w2.alloc (.cells #[.int .u8 (m.kind : Int), .string m.text] 81)).cell? ⟨r, 2, none⟩ = some (.map (some mp)) := by rw [cell_of_row _ _ _ _ 71 (0, 0) h3.cell]; rfl
  have hlk := fun n => hl ((w2.alloc (.cells #[.int .u8 (m.kind : Int), .string m.text] 81)).drewN n) (grown_below (below_drewN (bstep (bstep B0.out B2.out) b3) n) _)
  have hl0 := hl (w2.alloc (.cells #[.int .u8 (m.kind : Int), .string m.text] 81)) (grown_below (bstep (bstep B0.out B2.out) b3) _)
  have hlk' := fun n => hl' ((w2.alloc (.cells #[.int .u8 (m.kind : Int), .string m.text] 81)).drewN n) (grown_below (below_drewN (bstep (bstep B0.out B2.out) b3) n) _)
  have B3 := hid b3
  clear h3 hl hl' b3
  go_quiet (fail)
  go_wp2
  generalize nq = n1 at *
  have x2' : ((w2.alloc (.cells #[.int .u8 (m.kind : Int), .string m.text] 81)).drewN n1).cell? ⟨r, 2, none⟩ = some (.map (some mp)) := x2
  go_quiet (fail)
  go_wp2
  have B4 := below_drewN (bstep (bstep B0.out B2.out) B3.out) (n1 + nq)
  exact ⟨rfl, grown_below B4 _, rfl, H.out.step B4⟩
end Go.Proofs.YtkieljleopbhoaaDoor.Lex
namespace Go.Proofs.YtkieljleopbhoaaDoor.Lex
open Go.ChangeShapes Go.WideShapes Go.ChangeAt Go.RowKit Go.Joins
/-- How great parts are behind so many, where at most so many may be. -/
def szL (f : Nat → Ex → Option Nat) (most : Nat) : Nat → List Ex → Option Nat
  | n, [] => some n
  | n, a :: l => match f (most - n) a with
    | none => none
    | some k => szL f most (n + k) l
/-- How great it is, if it may be, so deep and so great at most. -/
def sz : Nat → Nat → Ex → Option Nat
  | 0, _, _ => none
  | d + 1, most, x => if most = 0 ∨ fieldsOk x.op x.n x.name x.args.length = false then none else szL (sz d) most 1 x.args
theorem szL_le {f : Nat → Ex → Option Nat} (hf : ∀ m a k, f m a = some k → 1 ≤ k ∧ k ≤ m) (most : Nat) : ∀ (l : List Ex) (n r : Nat), n ≤ most → szL f most n l = some r → n ≤ r ∧ r ≤ most
  | [], n, r, hn, h => by simp only [szL, Option.some.injEq] at h; omega
  | a :: l, n, r, hn, h => by
    simp only [szL] at h
    cases e : f (most - n) a with
    | none => rw [e] at h; cases h
    | some k =>
      rw [e] at h
      have := hf _ _ _ e
      have := szL_le hf most l (n + k) r (by omega) h
      omega
theorem sz_le : ∀ (d most : Nat) (x : Ex) (k : Nat), sz d most x = some k → 1 ≤ k ∧ k ≤ most
  | 0, most, x, k, h => by simp [sz] at h
  | d + 1, most, x, k, h => by
    rw [sz] at h
    split at h
    · cases h
    · next hn => exact szL_le (fun m a k => sz_le d m a k) most x.args 1 k (by omega) h
/-- May it be? -/
def chk (x : Ex) : Bool := (sz 32 200 x).isSome
theorem set_same {w : World} {b : Nat} {c : Array Value} {t : TypeId} {f : Nat × Nat} (h : w.heap[b]? = some (.cells c t f)) (i : Nat) (u : Value) :
    (w.setCell ⟨b, i, none⟩ u).heap[b]? = some (.cells (c.setIfInBounds i u) t f) := by
  obtain ⟨hlt, hk⟩ := Array.getElem?_eq_some_iff.1 h
  show (w.heap.modify b _)[b]? = _
  rw [Array.getElem?_eq_getElem (by rw [Array.size_modify]; exact hlt), Array.getElem_modify_self, hk]
  rfl
/-- A count in a cell of its own, beyond all that came in. -/
structure Lf (w0 w : World) (b : Nat) (M : Int) (W : World) : Prop where
  base : Below w0.heap.size w0 W
  below : Below b w W
  cell : W.heap[b]? = some (.cells #[.int .i64 M] 3 (0, 0))
theorem Lf.step {w0 w W W' : World} {b : Nat} {M : Int} (h : Lf w0 w b M W) (hb : Below W.heap.size W W') : Lf w0 w b M W' :=
  have hlt := (Array.getElem?_eq_some_iff.1 h.cell).1
  ⟨bstep h.base hb, h.below.trans (hb.mono (by omega)), (hb.block b hlt).trans h.cell⟩
theorem Lf.set {w0 w W : World} {b : Nat} {M : Int} (h : Lf w0 w b M W) (hb : w0.heap.size ≤ b) (M' : Int) : Lf w0 w b M' (W.setCell ⟨b, 0, none⟩ (.int .i64 M')) :=
  ⟨h.base.setCell (p := ⟨b, 0, none⟩) hb _, h.below.setCell (p := ⟨b, 0, none⟩) (Nat.le_refl _) _, set_same h.cell 0 _⟩
theorem Lf.at {w0 w W : World} {b : Nat} {M : Int} (h : Lf w0 w b M W) : W.cell? ⟨b, 0, none⟩ = some (.int .i64 M) ∧ W.frozen? ⟨b, 0, none⟩ = false :=
  ⟨by rw [cell_of_row _ _ _ _ 3 (0, 0) h.cell]; rfl, frozen_of_row _ _ _ _ _ h.cell⟩
/-- What fits answers. -/
def FitC (d : Nat) : Prop := ∀ (x : Ex) (w0 w : World) (s : Value) (b L : Nat), L ≤ 200 → St w0 x s → Below w0.heap.size w0 w → w0.heap.size ≤ b → w.heap[b]? = some (.cells #[.int .i64 (L : Int)] 3 (0, 0)) → TabR w0 → TabJ w0 →
  Calls Tryd.prog 27 #[exV x s, .int .i64 (d : Int), .pointer (some ⟨b, 0, none⟩)] w fun e w' => e = .returned (.bool (sz d L x).isSome) ∧ Below b w w' ∧ ∀ k, sz d L x = some k → Lf w0 w b ((L : Int) - (k : Int)) w'
/-- The cells of a value in a box. -/
theorem box_at (w : World) (c : Array Value) (t : TypeId) (j : Nat) (v : Value) (h : c[j]? = some v) : (w.alloc (.cells c t)).cell? ⟨w.heap.size, j, none⟩ = some v := by
  rw [World.cell?_alloc_at _ _ _ _ rfl]; exact h
set_option maxRecDepth 100000 in
set_option maxHeartbeats 1000000 in
theorem fits_zero : FitC 0 := by
  intro x w0 w s b L hL hS hB hb hc hR hJ
  obtain ⟨ao, cap, sl, rfl, _⟩ := hS.out
  have hsz : sz 0 L x = none := by simp [sz]
  have l0 : Lf w0 w b (L : Int) (w.alloc (.cells #[.int .u8 (x.op : Int), .int .i64 x.n, .string x.name, .slice ao x.args.length cap] 25)) := Lf.step ⟨hB, Below.refl _ _, hc⟩ ((Below.refl _ _).alloc (Nat.le_refl _) _)
  have l1 := l0.set hb ((L : Int) - 1)
  obtain ⟨y0, y1⟩ := l0.at
  rw [hsz]
  have H1 := hid l1.below
  clear l0 l1 hc hsz hS hR hJ hB
  go_enter Tryd.func27, Tryd.ntmps27
  go_wp2
  go_ret
  exact ⟨rfl, H1.out, fun k h => by cases h⟩
set_option maxRecDepth 100000 in
set_option maxHeartbeats 1000000 in
theorem fits_none (d : Nat) (hd : d + 1 ≤ 32) : ∀ (x : Ex) (w0 w : World) (s : Value) (b : Nat), St w0 x s → Below w0.heap.size w0 w → w0.heap.size ≤ b → w.heap[b]? = some (.cells #[.int .i64 ((0 : Nat) : Int)] 3 (0, 0)) →
    Calls Tryd.prog 27 #[exV x s, .int .i64 ((d + 1 : Nat) : Int), .pointer (some ⟨b, 0, none⟩)] w fun e w' => e = .returned (.bool false) ∧ Below b w w' := by
  intro x w0 w s b hS hB hb hc
  obtain ⟨ao, cap, sl, rfl, _⟩ := hS.out
  have l0 : Lf w0 w b ((0 : Nat) : Int) (w.alloc (.cells #[.int .u8 (x.op : Int), .int .i64 x.n, .string x.name, .slice ao x.args.length cap] 25)) := Lf.step ⟨hB, Below.refl _ _, hc⟩ ((Below.refl _ _).alloc (Nat.le_refl _) _)
  have l1 := l0.set hb (-1)
  obtain ⟨y0, y1⟩ := l0.at
  obtain ⟨y2, _⟩ := l1.at
  have H1 := hid l1.below
  have hd0 : (((d + 1 : Nat) : Int) == 0) = false := by simp; omega
  generalize hD : ((d + 1 : Nat) : Int) = D at *
  clear l0 l1 hc hS hB hD
  go_enter Tryd.func27, Tryd.ntmps27
  go_wp2
  go_ret
  exact ⟨rfl, H1.out⟩
set_option maxRecDepth 100000 in
set_option maxHeartbeats 1000000 in
theorem fits_bad (d : Nat) (hd : d + 1 ≤ 32) : ∀ (x : Ex) (w0 w : World) (s : Value) (b L : Nat), 1 ≤ L → L ≤ 200 → St w0 x s → Below w0.heap.size w0 w → w0.heap.size ≤ b → w.heap[b]? = some (.cells #[.int .i64 (L : Int)] 3 (0, 0)) → TabR w0 → TabJ w0 → fieldsOk x.op x.n x.name x.args.length = false →
    Calls Tryd.prog 27 #[exV x s, .int .i64 ((d + 1 : Nat) : Int), .pointer (some ⟨b, 0, none⟩)] w fun e w' => e = .returned (.bool false) ∧ Below b w w' := by
  intro x w0 w s b L h1 hL hS hB hb hc hR hJ hf
  obtain ⟨ao, cap, sl, rfl, _⟩ := hS.out
  have l0 : Lf w0 w b (L : Int) (w.alloc (.cells #[.int .u8 (x.op : Int), .int .i64 x.n, .string x.name, .slice ao x.args.length cap] 25)) := Lf.step ⟨hB, Below.refl _ _, hc⟩ ((Below.refl _ _).alloc (Nat.le_refl _) _)
  have l1 := l0.set hb ((L : Int) - 1)
  obtain ⟨y0, y1⟩ := l0.at
  obtain ⟨y2, _⟩ := l1.at
  have c := hasIts x.op x.n x.name ao x.args.length cap _ (hR.below l1.base) (hJ.below l1.base)
  rw [hf] at c
  have H1 := hid l1
  have hd0 : (((d + 1 : Nat) : Int) == 0) = false := by simp; omega
  have hL1 : ¬ (L : Int) - 1 < 0 := by omega
  have hne : w.heap.size ≠ b := by have := (Array.getElem?_eq_some_iff.1 hc).1; omega
  have xb : ∀ j v, (#[.int .u8 (x.op : Int), .int .i64 x.n, .string x.name, .slice ao x.args.length cap] : Array Value)[j]? = some v → ((w.alloc (.cells #[.int .u8 (x.op : Int), .int .i64 x.n, .string x.name, .slice ao x.args.length cap] 25)).setCell ⟨b, 0, none⟩ (.int .i64 ((L : Int) - 1))).cell? ⟨w.heap.size, j, none⟩ = some v := fun j v h => by
    rw [World.cell?_of_block (w := w.alloc (.cells #[.int .u8 (x.op : Int), .int .i64 x.n, .string x.name, .slice ao x.args.length cap] 25)) (Below.heap_setCell _ _ _ _ hne)]
    exact box_at w _ 25 j v h
  have x0 := xb 0 _ rfl
  have x1 := xb 1 _ rfl
  have x2 := xb 2 _ rfl
  have x3 := xb 3 _ rfl
  generalize hW : (w.alloc (.cells #[.int .u8 (x.op : Int), .int .i64 x.n, .string x.name, .slice ao x.args.length cap] 25)).setCell ⟨b, 0, none⟩ (.int .i64 ((L : Int) - 1)) = W1 at *
  generalize hD : ((d + 1 : Nat) : Int) = D at *
  clear l0 l1 hc hS hB hR hJ hD hf xb hne
  go_enter Tryd.func27, Tryd.ntmps27
  go_wp2_with (go_at_call 48; refine c.mono ?_; rintro e w3 ⟨rfl, hb3⟩)
  go_ret
  exact ⟨rfl, (H1.out.step hb3).below⟩
set_option maxRecDepth 100000 in
set_option maxHeartbeats 2000000 in
theorem fits_ok (d : Nat) (hd : d + 1 ≤ 32) (ih : FitC d) : ∀ (x : Ex) (w0 w : World) (s : Value) (b L : Nat), 1 ≤ L → L ≤ 200 → St w0 x s → Below w0.heap.size w0 w → w0.heap.size ≤ b → w.heap[b]? = some (.cells #[.int .i64 (L : Int)] 3 (0, 0)) → TabR w0 → TabJ w0 → fieldsOk x.op x.n x.name x.args.length = true →
    Calls Tryd.prog 27 #[exV x s, .int .i64 ((d + 1 : Nat) : Int), .pointer (some ⟨b, 0, none⟩)] w fun e w' => e = .returned (.bool (szL (sz d) L 1 x.args).isSome) ∧ Below b w w' ∧ ∀ k, szL (sz d) L 1 x.args = some k → Lf w0 w b ((L : Int) - (k : Int)) w' := by
  intro x w0 w s b L h1 hL hS hB hb hc hR hJ hf
  obtain ⟨ao, cap, sl, rfl, _, _, _, hlen, _, hcs, hss⟩ := hS.out
  have l0 : Lf w0 w b (L : Int) (w.alloc (.cells #[.int .u8 (x.op : Int), .int .i64 x.n, .string x.name, .slice ao x.args.length cap] 25)) := Lf.step ⟨hB, Below.refl _ _, hc⟩ ((Below.refl _ _).alloc (Nat.le_refl _) _)
  have l1 := l0.set hb ((L : Int) - 1)
  obtain ⟨y0, y1⟩ := l0.at
  obtain ⟨y2, _⟩ := l1.at
  have c := hasIts x.op x.n x.name ao x.args.length cap _ (hR.below l1.base) (hJ.below l1.base)
  rw [hf] at c
  have H1 := hid l1
  have hd0 : (((d + 1 : Nat) : Int) == 0) = false := by simp; omega
  have hD1 : ((d + 1 : Nat) : Int) - 1 = (d : Int) := by omega
  have hD2 : ((d + 1 : Nat) : Int) ≤ 32 ∧ 0 ≤ ((d + 1 : Nat) : Int) := by omega
  have hL1 : ¬ (L : Int) - 1 < 0 := by omega
  have hne : w.heap.size ≠ b := by have := (Array.getElem?_eq_some_iff.1 hc).1; omega
  have xb : ∀ j v, (#[.int .u8 (x.op : Int), .int .i64 x.n, .string x.name, .slice ao x.args.length cap] : Array Value)[j]? = some v → ((w.alloc (.cells #[.int .u8 (x.op : Int), .int .i64 x.n, .string x.name, .slice ao x.args.length cap] 25)).setCell ⟨b, 0, none⟩ (.int .i64 ((L : Int) - 1))).cell? ⟨w.heap.size, j, none⟩ = some v := fun j v h => by
    rw [World.cell?_of_block (w := w.alloc (.cells #[.int .u8 (x.op : Int), .int .i64 x.n, .string x.name, .slice ao x.args.length cap] 25)) (Below.heap_setCell _ _ _ _ hne)]
    exact box_at w _ 25 j v h
  have x0 := xb 0 _ rfl
  have x1 := xb 1 _ rfl
  have x2 := xb 2 _ rfl
  have x3 := xb 3 _ rfl
  generalize hW : (w.alloc (.cells #[.int .u8 (x.op : Int), .int .i64 x.n, .string x.name, .slice ao x.args.length cap] 25)).setCell ⟨b, 0, none⟩ (.int .i64 ((L : Int) - 1)) = W1 at *
  generalize hD : ((d + 1 : Nat) : Int) = D at *
  have HS := hid hss
  have HC := hid hcs
  have HI := hid ih
  have HR := hid hR
  have HJ := hid hJ
  obtain ⟨hD3, hD4⟩ := hD2
  clear l0 l1 hc hS hB hR hJ hD hf xb hne hss hcs ih
  go_enter Tryd.func27, Tryd.ntmps27
  go_wp2_with (go_at_call 48; refine c.mono ?_; rintro e w3 ⟨rfl, hb3⟩; have z3 := cell_kept x3 hb3; have L3 := hid (H1.out.step hb3); clear hb3 c x0 x1 x2 x3 y0 y1 y2)
  go_loopw [30] (fun i wr => ∃ k n : Nat, k ≤ x.args.length ∧ 1 ≤ n ∧ n ≤ L ∧ i = .int .i64 (k : Int) ∧ Hid (szL (sz d) L 1 x.args = szL (sz d) L n (x.args.drop k)) ∧ Hid (Lf w0 w b ((L : Int) - (n : Int)) wr)) (fun i _ => x.args.length - (intOf i).toNat)
  case atStart => exact ⟨0, 1, Nat.zero_le _, Nat.le_refl _, h1, rfl, by simp [Hid], L3⟩
  case round =>
    obtain ⟨k, n, hk, hn1, hnL, rfl, hE, hB⟩ := hrel
    by_cases hlt : k < x.args.length
    · have hlt' : (k : Int) < (x.args.length : Int) := by omega
      have hk0 : (0 : Int) ≤ (k : Int) := by omega
      obtain ⟨bb, o, rfl, hcc⟩ := HC.out.resolve_left (by omega)
      obtain ⟨a0, a1, a2, a3⟩ := hcc k hlt
      have v0 := cell_kept a0 hB.out.base
      have v1 := cell_kept a1 hB.out.base
      have v2 := cell_kept a2 hB.out.base
      have v3 := cell_kept a3 hB.out.base
      have hdr : x.args.drop k = x.args[k] :: x.args.drop (k + 1) := List.drop_eq_getElem_cons hlt
      have hE' := hE.out
      rw [hdr, szL] at hE'
      have HE := hid hE'
      have hst := HS.out k hlt
      clear a0 a1 a2 a3 hcc hdr hE' hE
      generalize x.args[k] = y at *
      obtain ⟨sv, hsv⟩ : ∃ sv, sl k = sv := ⟨_, rfl⟩
      rw [hsv] at v3 hst
      obtain ⟨ak, ck, _, rfl, _⟩ := hst.out
      clear hsv
      have lA : Lf w0 w b ((L : Int) - (n : Int)) (wr.alloc (.cells #[.int .u8 (y.op : Int), .int .i64 y.n, .string y.name, .slice ak y.args.length ck] 25)) := hB.out.step ((Below.refl _ _).alloc (Nat.le_refl _) _)
      have hlL : ((L - n : Nat) : Int) = (L : Int) - (n : Int) := by omega
      have cc := HI.out y w0 _ _ b (L - n) (by omega) hst lA.base hb (by rw [hlL]; exact lA.cell) HR.out HJ.out
      have LA := hid lA
      clear lA hst
      cases hz : sz d (L - n) y with
      | none =>
        rw [hz] at cc HE
        have hnone : Hid (szL (sz d) L 1 x.args = none) := HE.out
        go_wp2_with (go_at_call 27; refine cc.mono ?_; rintro e w4 ⟨rfl, hb4, _⟩)
        go_ret
        exact ⟨by rw [hnone.out]; rfl, LA.out.below.trans hb4, fun k h => by rw [hnone.out] at h; cases h⟩
      | some m =>
        rw [hz] at cc HE
        have hm := sz_le _ _ _ _ hz
        have HM : Hid ((((L - n : Nat) : Int) - (m : Int)) = (L : Int) - ((n + m : Nat) : Int)) := by unfold Hid; omega
        go_wp2_with (go_at_call 27; refine cc.mono ?_; rintro e w4 ⟨rfl, hb4, hl4⟩; have L4 := hid (hl4 m rfl); clear hl4)
        go_roundw
        case rel =>
          have l4 := L4.out
          rw [HM.out] at l4
          exact ⟨k + 1, n + m, by omega, by omega, by omega, by go_num, HE.out, ⟨l4.base, LA.out.below.trans l4.below, l4.cell⟩⟩
        case measure => simp [intOf]; omega
    · have hlt' : ¬ (k : Int) < (x.args.length : Int) := by omega
      have hdr : x.args.drop k = [] := List.drop_eq_nil_of_le (by omega)
      have hE' := hE.out
      rw [hdr, szL] at hE'
      have HE := hid hE'
      clear hE' hdr hE
      go_wp2
      go_ret
      exact ⟨by rw [HE.out]; rfl, hB.out.below, fun j h => by rw [HE.out] at h; injection h with h; subst h; exact hB.out⟩
/-- fits. -/
theorem fits_any : ∀ (d : Nat), d ≤ 32 → FitC d
  | 0, _ => fits_zero
  | d + 1, hd => by
    intro x w0 w s b L hL hS hB hb hc hR hJ
    have ih := fits_any d (by omega)
    by_cases h0 : L = 0
    · subst h0
      have e : sz (d + 1) 0 x = none := by rw [sz, if_pos (.inl rfl)]
      rw [e]
      exact (fits_none d hd x w0 w s b hS hB hb hc).mono fun e w' ⟨h1, h2⟩ => ⟨h1, h2, fun k h => by cases h⟩
    · cases hf : fieldsOk x.op x.n x.name x.args.length with
      | false =>
        have e : sz (d + 1) L x = none := by rw [sz, if_pos (.inr hf)]
        rw [e]
        exact (fits_bad d hd x w0 w s b L (by omega) hL hS hB hb hc hR hJ hf).mono fun e w' ⟨h1, h2⟩ => ⟨h1, h2, fun k h => by cases h⟩
      | true =>
        have e : sz (d + 1) L x = szL (sz d) L 1 x.args := by rw [sz, if_neg (by rw [hf]; simp [h0])]
        rw [e]
        exact fits_ok d hd ih x w0 w s b L (by omega) hL hS hB hb hc hR hJ hf
set_option maxRecDepth 100000 in
/-- Check. -/
theorem check (x : Ex) (w : World) (s : Value) (hS : St w x s) (hR : TabR w) (hJ : TabJ w) : Calls Tryd.prog 11 #[exV x s] w fun e w' => e = .returned (.bool (chk x)) ∧ Below w.heap.size w w' := by
  obtain ⟨ao, cap, sl, rfl, _⟩ := hS.out
  have b1 := (Below.refl w.heap.size w).alloc (Nat.le_refl _) (.cells #[.int .u8 (x.op : Int), .int .i64 x.n, .string x.name, .slice ao x.args.length cap] 25)
  have b2 := bstep b1 ((Below.refl _ _).alloc (Nat.le_refl _) (.cells #[.int .i64 200] 3))
  have c := fits_any 32 (Nat.le_refl _) x w _ _ (w.heap.size + 1) 200 (Nat.le_refl _) hS b2 (by omega) (by
    have h := heap_alloc_new (w.alloc (.cells #[.int .u8 (x.op : Int), .int .i64 x.n, .string x.name, .slice ao x.args.length cap] 25)) (.cells #[.int .i64 200] 3)
    have e : (w.alloc (.cells #[.int .u8 (x.op : Int), .int .i64 x.n, .string x.name, .slice ao x.args.length cap] 25)).heap.size = w.heap.size + 1 := by simp
    rw [e] at h
    exact h) hR hJ
  have H2 := hid b2
  clear hS hR hJ b1 b2
  go_enter Tryd.func11, Tryd.ntmps11
  go_wp2_with (go_at_call 27; refine c.mono ?_; rintro e w3 ⟨rfl, hb3, _⟩)
  go_ret
  exact ⟨rfl, H2.out.trans (hb3.mono (by omega))⟩
end Go.Proofs.YtkieljleopbhoaaDoor.Lex
namespace Go.Proofs.YtkieljleopbhoaaDoor.Lex
open Go.RowKit
/-- The rank of an operator. -/
def rkOf (op : Nat) : Nat := match jOf op with
  | some r => r.rank
  | none => if op = 17 then 0 else if op = 4 ∨ op = 5 ∨ op = 19 then 6 else 7
/-- In a place that asks for a rank. -/
def put (least rank : Nat) (s : List UInt8) : List UInt8 := if rank < least then 40 :: (s ++ [41]) else s
/-- Behind a minus. -/
def negW (s : List UInt8) : List UInt8 := if Lib.hasPrefix s [45] then 45 :: 32 :: s else 45 :: s
def yesNo (b : Bool) : List UInt8 := if b then [116, 114, 117, 101] else [102, 97, 108, 115, 101]
/-- As it is written. -/
def wr : Ex → List UInt8
  | .mk op n nm [] => if op = 1 then Lib.itoa n else if op = 2 then yesNo (n == 1) else nm.data.toList
  | .mk op _ _ [a] => if op = 4 then negW (put 6 (rkOf a.op) (wr a)) else if op = 5 then [110, 111, 116, 32] ++ put 6 (rkOf a.op) (wr a) else [112, 114, 101, 32] ++ put 6 (rkOf a.op) (wr a)
  | .mk op _ _ [a, b] => put ((jOf op).getD j0).first (rkOf a.op) (wr a) ++ [32] ++ ((jOf op).getD j0).text.data.toList ++ [32] ++ put ((jOf op).getD j0).second (rkOf b.op) (wr b)
  | .mk _ _ _ [a, b, c] => [105, 102, 32] ++ put 0 (rkOf a.op) (wr a) ++ [32, 116, 104, 101, 110, 32] ++ put 0 (rkOf b.op) (wr b) ++ [32, 101, 108, 115, 101, 32] ++ put 0 (rkOf c.op) (wr c)
  | .mk _ _ _ _ => []
theorem wr_leaf {x : Ex} (h : x.args = []) : wr x = if x.op = 1 then Lib.itoa x.n else if x.op = 2 then yesNo (x.n == 1) else x.name.data.toList := by
  obtain ⟨o, n, s, l⟩ := x; cases h; rw [wr]
theorem wr_one {x a : Ex} (h : x.args = [a]) : wr x = if x.op = 4 then negW (put 6 (rkOf a.op) (wr a)) else if x.op = 5 then [110, 111, 116, 32] ++ put 6 (rkOf a.op) (wr a) else [112, 114, 101, 32] ++ put 6 (rkOf a.op) (wr a) := by
  obtain ⟨o, n, s, l⟩ := x; cases h; rw [wr]
theorem wr_two {x a b : Ex} (h : x.args = [a, b]) : wr x = put ((jOf x.op).getD j0).first (rkOf a.op) (wr a) ++ [32] ++ ((jOf x.op).getD j0).text.data.toList ++ [32] ++ put ((jOf x.op).getD j0).second (rkOf b.op) (wr b) := by
  obtain ⟨o, n, s, l⟩ := x; cases h; rw [wr]
theorem wr_three {x a b c : Ex} (h : x.args = [a, b, c]) : wr x = [105, 102, 32] ++ put 0 (rkOf a.op) (wr a) ++ [32, 116, 104, 101, 110, 32] ++ put 0 (rkOf b.op) (wr b) ++ [32, 101, 108, 115, 101, 32] ++ put 0 (rkOf c.op) (wr c) := by
  obtain ⟨o, n, s, l⟩ := x; cases h; rw [wr]
theorem sz_parts {d M k : Nat} {x : Ex} (h : sz (d + 1) M x = some k) : 1 ≤ M ∧ fieldsOk x.op x.n x.name x.args.length = true ∧ szL (sz d) M 1 x.args = some k := by
  rw [sz] at h
  split at h
  · cases h
  · next hn => exact ⟨by omega, by cases e : fieldsOk x.op x.n x.name x.args.length with | true => rfl | false => exact (hn (.inr e)).elim, h⟩
theorem szL_nil {f : Nat → Ex → Option Nat} {M n k : Nat} (h : szL f M n [] = some k) : k = n := by simp only [szL, Option.some.injEq] at h; exact h.symm
theorem szL_cons {f : Nat → Ex → Option Nat} {M n k : Nat} {a : Ex} {l : List Ex} (h : szL f M n (a :: l) = some k) : ∃ ka, f (M - n) a = some ka ∧ szL f M (n + ka) l = some k := by
  simp only [szL] at h
  cases e : f (M - n) a with
  | none => rw [e] at h; cases h
  | some ka => rw [e] at h; exact ⟨ka, rfl, h⟩
/-- What it is, if its fields are fine. -/
theorem fields_cases {op : Nat} {n : Int} {nm : ByteArray} {len : Nat} (h : fieldsOk op n nm len = true) :
    (op = 1 ∧ 0 ≤ n ∧ len = 0) ∨ (op = 2 ∧ (n = 0 ∨ n = 1) ∧ len = 0) ∨ (op = 3 ∧ isName nm = true ∧ len = 0) ∨ ((op = 4 ∨ op = 5 ∨ op = 19) ∧ len = 1) ∨ (op = 17 ∧ len = 3) ∨ ((∃ r, jOf op = some r) ∧ len = 2) := by
  unfold fieldsOk at h
  by_cases h1 : op = 1
  · rw [if_pos h1] at h; simp only [Bool.and_eq_true, decide_eq_true_eq] at h; exact .inl ⟨h1, h.1, h.2.2⟩
  · rw [if_neg h1] at h
    by_cases h2 : op = 2
    · rw [if_pos h2] at h; simp only [Bool.and_eq_true, Bool.or_eq_true, decide_eq_true_eq] at h; exact .inr (.inl ⟨h2, h.1, h.2.2⟩)
    · rw [if_neg h2] at h
      by_cases h3 : op = 3
      · rw [if_pos h3] at h; simp only [Bool.and_eq_true, decide_eq_true_eq] at h; exact .inr (.inr (.inl ⟨h3, h.2.1, h.2.2⟩))
      · rw [if_neg h3] at h
        simp only [Bool.and_eq_true, decide_eq_true_eq] at h
        obtain ⟨hp, _, _, hl⟩ := h
        unfold parts at hp hl
        by_cases h4 : op = 4 ∨ op = 5 ∨ op = 19
        · rw [if_pos h4] at hl; exact .inr (.inr (.inr (.inl ⟨h4, hl⟩)))
        · rw [if_neg h4] at hl hp
          by_cases h5 : op = 17
          · rw [if_pos h5] at hl; exact .inr (.inr (.inr (.inr (.inl ⟨h5, hl⟩))))
          · rw [if_neg h5] at hl hp
            cases hj : jOf op with
            | none => rw [hj] at hp; simp at hp
            | some r => rw [hj] at hl; exact .inr (.inr (.inr (.inr (.inr ⟨⟨r, rfl⟩, hl⟩))))
theorem len0 {l : List Ex} (h : l.length = 0) : l = [] := List.eq_nil_of_length_eq_zero h
theorem len1 {l : List Ex} (h : l.length = 1) : ∃ a, l = [a] := by match l, h with | [a], _ => exact ⟨a, rfl⟩
theorem len2 {l : List Ex} (h : l.length = 2) : ∃ a b, l = [a, b] := by match l, h with | [a, b], _ => exact ⟨a, b, rfl⟩
theorem len3 {l : List Ex} (h : l.length = 3) : ∃ a b c, l = [a, b, c] := by match l, h with | [a, b, c], _ => exact ⟨a, b, c, rfl⟩
theorem put_len (a b : Nat) (s : List UInt8) : (put a b s).length ≤ s.length + 2 := by unfold put; split <;> simp
theorem neg_len (s : List UInt8) : (negW s).length ≤ s.length + 2 := by unfold negW; split <;> simp
theorem yes_len (b : Bool) : (yesNo b).length ≤ 5 := by cases b <;> decide
theorem dec_len : ∀ (k u : Nat), u < 10 ^ (k + 1) → (Lib.decDigits u).length ≤ k + 1
  | 0, u, h => by rw [Lib.decDigits, dif_pos (by omega)]; simp
  | k + 1, u, h => by
    rw [Lib.decDigits]
    split
    · simp
    · have := dec_len k (u / 10) (by rw [Nat.div_lt_iff_lt_mul (by omega)]; rw [Nat.pow_succ] at h; exact h)
      simp; omega
theorem itoa_len {n : Int} (h0 : 0 ≤ n) (h1 : n ≤ 9223372036854775807) : (Lib.itoa n).length ≤ 19 := by
  unfold Lib.itoa
  rw [if_neg (by omega)]
  exact dec_len 18 n.toNat (by have : (10 : Nat) ^ (18 + 1) = 10000000000000000000 := by decide
                               omega)
theorem j_len {op : Nat} {r : J} (h : jOf op = some r) : r.text.data.toList.length ≤ 3 ∧ r.first ≤ 7 ∧ r.second ≤ 7 ∧ r.text.size ≤ 3 := by
  have : ∀ r ∈ JT, r.text.data.toList.length ≤ 3 ∧ r.first ≤ 7 ∧ r.second ≤ 7 ∧ r.text.size ≤ 3 := by decide
  exact this r (List.mem_of_find?_eq_some h)
theorem name_len {s : ByteArray} (h : isName s = true) : s.size ≤ 40 := by
  unfold isName at h
  simp only [Bool.and_eq_true, decide_eq_true_eq] at h
  exact h.2.1
theorem St.part {w : World} {x : Ex} {s : Value} (h : St w x s) (i : Nat) (hi : i < x.args.length) : ∃ t, St w x.args[i] t := by
  obtain ⟨_, _, sl, _, _, _, _, _, _, _, hs⟩ := h.out
  exact ⟨_, hs i hi⟩
theorem St.arg0 {w : World} {x a : Ex} {s : Value} {l : List Ex} (h : St w x s) (he : x.args = a :: l) : ∃ t, St w a t := by
  obtain ⟨t, ht⟩ := h.part 0 (by rw [he]; simp)
  exact ⟨t, by simpa [he] using ht⟩
theorem St.arg1 {w : World} {x a b : Ex} {s : Value} {l : List Ex} (h : St w x s) (he : x.args = a :: b :: l) : ∃ t, St w b t := by
  obtain ⟨t, ht⟩ := h.part 1 (by rw [he]; simp)
  exact ⟨t, by simpa [he] using ht⟩
theorem St.arg2 {w : World} {x a b c : Ex} {s : Value} {l : List Ex} (h : St w x s) (he : x.args = a :: b :: c :: l) : ∃ t, St w c t := by
  obtain ⟨t, ht⟩ := h.part 2 (by rw [he]; simp)
  exact ⟨t, by simpa [he] using ht⟩
/-- How long it is. -/
theorem wr_len : ∀ (d M : Nat) (x : Ex) (k : Nat) (w : World) (s : Value), sz d M x = some k → St w x s → (wr x).length + 2 ≤ 64 * k
  | 0, M, x, k, w, s, h, _ => by simp [sz] at h
  | d + 1, M, x, k, w, s, h, hS => by
    obtain ⟨hM, hf, hl⟩ := sz_parts h
    obtain ⟨_, _, _, _, _, hn, _⟩ := hS.out
    rcases fields_cases hf with ⟨h1, h2, h3⟩ | ⟨h1, h2, h3⟩ | ⟨h1, h2, h3⟩ | ⟨h1, h3⟩ | ⟨h1, h3⟩ | ⟨⟨r, hr⟩, h3⟩
    · have e := len0 h3
      rw [e] at hl
      have := szL_nil hl
      have := itoa_len h2 hn.2
      rw [wr_leaf e, if_pos h1]; omega
    · have e := len0 h3
      rw [e] at hl
      have := szL_nil hl
      have := yes_len (x.n == 1)
      rw [wr_leaf e, if_neg (by omega), if_pos h1]; omega
    · have e := len0 h3
      rw [e] at hl
      have := szL_nil hl
      have := name_len h2
      rw [wr_leaf e, if_neg (by omega), if_neg (by omega), ← Lib.size_eq]; omega
    · obtain ⟨a, e⟩ := len1 h3
      rw [e] at hl
      obtain ⟨ka, ha, hl⟩ := szL_cons hl
      have := szL_nil hl
      obtain ⟨t, ht⟩ := hS.arg0 e
      have := wr_len d _ a ka w t ha ht
      have := put_len 6 (rkOf a.op) (wr a)
      have := neg_len (put 6 (rkOf a.op) (wr a))
      rw [wr_one e]
      split
      · omega
      · split <;> simp only [List.length_append, List.length_cons, List.length_nil] <;> omega
    · obtain ⟨a, b, c, e⟩ := len3 h3
      rw [e] at hl
      obtain ⟨ka, ha, hl⟩ := szL_cons hl
      obtain ⟨kb, hb, hl⟩ := szL_cons hl
      obtain ⟨kc, hc, hl⟩ := szL_cons hl
      have := szL_nil hl
      obtain ⟨ta, hta⟩ := hS.arg0 e
      obtain ⟨tb, htb⟩ := hS.arg1 e
      obtain ⟨tc, htc⟩ := hS.arg2 e
      have := wr_len d _ a ka w ta ha hta
      have := wr_len d _ b kb w tb hb htb
      have := wr_len d _ c kc w tc hc htc
      have := put_len 0 (rkOf a.op) (wr a)
      have := put_len 0 (rkOf b.op) (wr b)
      have := put_len 0 (rkOf c.op) (wr c)
      rw [wr_three e]
      simp only [List.length_append, List.length_cons, List.length_nil]
      omega
    · obtain ⟨a, b, e⟩ := len2 h3
      rw [e] at hl
      obtain ⟨ka, ha, hl⟩ := szL_cons hl
      obtain ⟨kb, hb, hl⟩ := szL_cons hl
      have := szL_nil hl
      obtain ⟨ta, hta⟩ := hS.arg0 e
      obtain ⟨tb, htb⟩ := hS.arg1 e
      have := wr_len d _ a ka w ta ha hta
      have := wr_len d _ b kb w tb hb htb
      obtain ⟨hj, _⟩ := j_len hr
      rw [wr_two e, hr]
      have := put_len ((some r).getD j0).first (rkOf a.op) (wr a)
      have := put_len ((some r).getD j0).second (rkOf b.op) (wr b)
      simp only [List.length_append, List.length_cons, List.length_nil, Option.getD_some] at *
      omega
end Go.Proofs.YtkieljleopbhoaaDoor.Lex
