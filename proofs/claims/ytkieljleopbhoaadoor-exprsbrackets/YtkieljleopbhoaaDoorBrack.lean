/-
  The three signs of one, and brackets: the contracts over those of one, part, pass.
-/
import Derived.Test.YtkieljleopbhoaaDoorOne
namespace Go.Proofs.YtkieljleopbhoaaDoor.Lex
open Go.ChangeShapes Go.WideShapes Go.ChangeAt Go.RowKit Go.Joins
/-- What comes of a call, handed on from a box. -/
theorem Post.boxed {r mp : Nat} {v : Value} {ts : List Mark} {p q : Nat} {x : Ex} {s : Value} {w w2 : World} (h : Rdr r mp v ts p w) (b0 : Below w.heap.size w (w.alloc (.cells #[.int .u8 0, .int .i64 0, .string ⟨#[]⟩, .slice none 0 0] 25))) (g2 : (w.alloc (.cells #[.int .u8 0, .int .i64 0, .string ⟨#[]⟩, .slice none 0 0] 25)).grownBy w2 (some r)) (st : StP (fun b => (w.alloc (.cells #[.int .u8 0, .int .i64 0, .string ⟨#[]⟩, .slice none 0 0] 25)).heap.size ≤ b) w2 x s) (h2 : Rdr r mp v ts q w2) (d : Array Value) :
    w.grownBy (w2.setRow w.heap.size d) (some r) ∧ StP (fun b => w.heap.size ≤ b) (w2.setRow w.heap.size d) x s ∧ Rdr r mp v ts q (w2.setRow w.heap.size d) := by
  refine ⟨grown_setRow (grown_on (grown_below b0 _) g2) d, ?_, h.setRow h2 d⟩
  refine StP.carryN (fun b hb hl => ?_) (fun b _ hb => ?_) _ x _ (Nat.le_refl _) st
  · simp at hb
    exact setRow_other _ _ _ _ (by omega)
  · simp at hb
    show w.heap.size ≤ b
    omega
theorem box_there {w w2 : World} {r : Nat} {c : Array Value} {t : TypeId} (hr : r < w.heap.size) (g : (w.alloc (.cells c t)).grownBy w2 (some r)) : w2.heap[w.heap.size]? = some (.cells c t (0, 0)) := by
  rw [g.block _ (by simp) (fun e => by injection e; omega)]
  exact heap_alloc_new w _
set_option maxRecDepth 100000 in
set_option maxHeartbeats 1000000 in
theorem neg_ok (r mp : Nat) (v : Value) (ts : List Mark) (p q : Nat) (x : Ex) (w : World) (h : Rdr r mp v ts p w)
    (c : ∀ W, Below w.heap.size w W → Calls Tryd.prog 61 #[.pointer (some ⟨r, 0, none⟩), .int .u8 4] W (Post r mp v ts W (.ok (x, q)))) : Calls Tryd.prog 60 #[.pointer (some ⟨r, 0, none⟩)] w (Post r mp v ts w (.ok (x, q))) := by
  have b0 := (Below.refl w.heap.size w).alloc (Nat.le_refl _) (.cells #[.int .u8 0, .int .i64 0, .string ⟨#[]⟩, .slice none 0 0] 25)
  have B0 := hid b0
  have H := hid h
  clear h b0
  go_enter Tryd.func60, Tryd.ntmps60
  go_wp2_with (first
    | (go_at_call 61; refine (c _ B0.out).mono ?_; rintro e w2 ⟨g2, s, rfl, st, h2⟩; obtain ⟨ao, cap, rfl⟩ := st.form; have hbx := box_there H.out.lt g2; have Q := hid (Post.boxed H.out B0.out g2 st h2 (ex4 x (.slice ao x.args.length cap))); clear g2 st h2 c)
    | (refine wpList_store_row rfl 25 _ _ rfl w.heap.size (ex4 x (.slice ao x.args.length cap)) rfl rfl 25 _ hbx info25 rfl (by simp [Value.oneCell', ex4]) ?_))
  exact bodyPost_ret (results_cell_row rfl _ _ w.heap.size 25 (ex4 x (.slice ao x.args.length cap)) (0, 0) _ rfl (setRow_heap _ _ _ _ _ _ hbx) Tryd.underlying25 rfl info25) rfl ⟨Q.out.1, _, rfl, Q.out.2.1, Q.out.2.2⟩
set_option maxRecDepth 100000 in
set_option maxHeartbeats 1000000 in
theorem neg_bad (r mp : Nat) (v : Value) (ts : List Mark) (n q : Nat) (w : World)
    (c : ∀ W, Below w.heap.size w W → Calls Tryd.prog 61 #[.pointer (some ⟨r, 0, none⟩), .int .u8 4] W (Post r mp v ts W (.error (n, q)))) : Calls Tryd.prog 60 #[.pointer (some ⟨r, 0, none⟩)] w (Post r mp v ts w (.error (n, q))) := by
  have b0 := (Below.refl w.heap.size w).alloc (Nat.le_refl _) (.cells #[.int .u8 0, .int .i64 0, .string ⟨#[]⟩, .slice none 0 0] 25)
  have B0 := hid b0
  clear b0
  go_enter Tryd.func60, Tryd.ntmps60
  go_wp2_with (go_at_call 61; refine (c _ B0.out).mono ?_; rintro e w2 ⟨g2, rfl, h2⟩; have G2 := hid g2; have H2 := hid h2; clear g2 h2 c)
  exact ⟨rfl, grown_on (grown_below B0.out _) G2.out, rfl, H2.out⟩
set_option maxRecDepth 100000 in
set_option maxHeartbeats 1000000 in
theorem not_ok (r mp : Nat) (v : Value) (ts : List Mark) (p q : Nat) (x : Ex) (w : World) (h : Rdr r mp v ts p w)
    (c : ∀ W, Below w.heap.size w W → Calls Tryd.prog 61 #[.pointer (some ⟨r, 0, none⟩), .int .u8 5] W (Post r mp v ts W (.ok (x, q)))) : Calls Tryd.prog 62 #[.pointer (some ⟨r, 0, none⟩)] w (Post r mp v ts w (.ok (x, q))) := by
  have b0 := (Below.refl w.heap.size w).alloc (Nat.le_refl _) (.cells #[.int .u8 0, .int .i64 0, .string ⟨#[]⟩, .slice none 0 0] 25)
  have B0 := hid b0
  have H := hid h
  clear h b0
  go_enter Tryd.func62, Tryd.ntmps62
  go_wp2_with (first
    | (go_at_call 61; refine (c _ B0.out).mono ?_; rintro e w2 ⟨g2, s, rfl, st, h2⟩; obtain ⟨ao, cap, rfl⟩ := st.form; have hbx := box_there H.out.lt g2; have Q := hid (Post.boxed H.out B0.out g2 st h2 (ex4 x (.slice ao x.args.length cap))); clear g2 st h2 c)
    | (refine wpList_store_row rfl 25 _ _ rfl w.heap.size (ex4 x (.slice ao x.args.length cap)) rfl rfl 25 _ hbx info25 rfl (by simp [Value.oneCell', ex4]) ?_))
  exact bodyPost_ret (results_cell_row rfl _ _ w.heap.size 25 (ex4 x (.slice ao x.args.length cap)) (0, 0) _ rfl (setRow_heap _ _ _ _ _ _ hbx) Tryd.underlying25 rfl info25) rfl ⟨Q.out.1, _, rfl, Q.out.2.1, Q.out.2.2⟩
set_option maxRecDepth 100000 in
set_option maxHeartbeats 1000000 in
theorem not_bad (r mp : Nat) (v : Value) (ts : List Mark) (n q : Nat) (w : World)
    (c : ∀ W, Below w.heap.size w W → Calls Tryd.prog 61 #[.pointer (some ⟨r, 0, none⟩), .int .u8 5] W (Post r mp v ts W (.error (n, q)))) : Calls Tryd.prog 62 #[.pointer (some ⟨r, 0, none⟩)] w (Post r mp v ts w (.error (n, q))) := by
  have b0 := (Below.refl w.heap.size w).alloc (Nat.le_refl _) (.cells #[.int .u8 0, .int .i64 0, .string ⟨#[]⟩, .slice none 0 0] 25)
  have B0 := hid b0
  clear b0
  go_enter Tryd.func62, Tryd.ntmps62
  go_wp2_with (go_at_call 61; refine (c _ B0.out).mono ?_; rintro e w2 ⟨g2, rfl, h2⟩; have G2 := hid g2; have H2 := hid h2; clear g2 h2 c)
  exact ⟨rfl, grown_on (grown_below B0.out _) G2.out, rfl, H2.out⟩
set_option maxRecDepth 100000 in
set_option maxHeartbeats 1000000 in
theorem pre_ok (r mp : Nat) (v : Value) (ts : List Mark) (p q : Nat) (x : Ex) (w : World) (h : Rdr r mp v ts p w)
    (c : ∀ W, Below w.heap.size w W → Calls Tryd.prog 61 #[.pointer (some ⟨r, 0, none⟩), .int .u8 19] W (Post r mp v ts W (.ok (x, q)))) : Calls Tryd.prog 63 #[.pointer (some ⟨r, 0, none⟩)] w (Post r mp v ts w (.ok (x, q))) := by
  have b0 := (Below.refl w.heap.size w).alloc (Nat.le_refl _) (.cells #[.int .u8 0, .int .i64 0, .string ⟨#[]⟩, .slice none 0 0] 25)
  have B0 := hid b0
  have H := hid h
  clear h b0
  go_enter Tryd.func63, Tryd.ntmps63
  go_wp2_with (first
    | (go_at_call 61; refine (c _ B0.out).mono ?_; rintro e w2 ⟨g2, s, rfl, st, h2⟩; obtain ⟨ao, cap, rfl⟩ := st.form; have hbx := box_there H.out.lt g2; have Q := hid (Post.boxed H.out B0.out g2 st h2 (ex4 x (.slice ao x.args.length cap))); clear g2 st h2 c)
    | (refine wpList_store_row rfl 25 _ _ rfl w.heap.size (ex4 x (.slice ao x.args.length cap)) rfl rfl 25 _ hbx info25 rfl (by simp [Value.oneCell', ex4]) ?_))
  exact bodyPost_ret (results_cell_row rfl _ _ w.heap.size 25 (ex4 x (.slice ao x.args.length cap)) (0, 0) _ rfl (setRow_heap _ _ _ _ _ _ hbx) Tryd.underlying25 rfl info25) rfl ⟨Q.out.1, _, rfl, Q.out.2.1, Q.out.2.2⟩
set_option maxRecDepth 100000 in
set_option maxHeartbeats 1000000 in
theorem pre_bad (r mp : Nat) (v : Value) (ts : List Mark) (n q : Nat) (w : World)
    (c : ∀ W, Below w.heap.size w W → Calls Tryd.prog 61 #[.pointer (some ⟨r, 0, none⟩), .int .u8 19] W (Post r mp v ts W (.error (n, q)))) : Calls Tryd.prog 63 #[.pointer (some ⟨r, 0, none⟩)] w (Post r mp v ts w (.error (n, q))) := by
  have b0 := (Below.refl w.heap.size w).alloc (Nat.le_refl _) (.cells #[.int .u8 0, .int .i64 0, .string ⟨#[]⟩, .slice none 0 0] 25)
  have B0 := hid b0
  clear b0
  go_enter Tryd.func63, Tryd.ntmps63
  go_wp2_with (go_at_call 61; refine (c _ B0.out).mono ?_; rintro e w2 ⟨g2, rfl, h2⟩; have G2 := hid g2; have H2 := hid h2; clear g2 h2 c)
  exact ⟨rfl, grown_on (grown_below B0.out _) G2.out, rfl, H2.out⟩
set_option maxRecDepth 100000 in
set_option maxHeartbeats 1000000 in
theorem brackets_bad (r mp : Nat) (v : Value) (ts : List Mark) (p n q : Nat) (w : World) (h : Rdr r mp v ts p w) (hp : p < ts.length)
    (cp : ∀ W, w.grownBy W (some r) → Rdr r mp v ts (p + 1) W → Calls Tryd.prog 65 #[.pointer (some ⟨r, 0, none⟩), .int .i64 0] W (Post r mp v ts W (.error (n, q)))) :
    Calls Tryd.prog 59 #[.pointer (some ⟨r, 0, none⟩)] w (Post r mp v ts w (.error (n, q))) := by
  have b0 := (Below.refl w.heap.size w).alloc (Nat.le_refl _) (.cells #[.int .u8 0, .int .i64 0, .string ⟨#[]⟩, .slice none 0 0] 25)
  obtain ⟨y0, y1, hg, hr⟩ := moved (h.step b0) hp
  have hfew : (p : Int) < 140737488355328 := by have := h.few; omega
  have HG := hid (grown_on (grown_below b0 (some r)) hg)
  have HR := hid hr
  clear h hp hg hr b0
  go_enter Tryd.func59, Tryd.ntmps59
  go_wp2_with (go_at_call 65; refine (cp _ HG.out HR.out).mono ?_; rintro e w2 ⟨g2, rfl, h2⟩; have G2 := hid g2; have H2 := hid h2; clear g2 h2 cp)
  exact ⟨rfl, grown_on HG.out G2.out, rfl, H2.out⟩
set_option maxRecDepth 100000 in
set_option maxHeartbeats 1000000 in
theorem brackets_open (r mp : Nat) (v : Value) (ts : List Mark) (p q : Nat) (x : Ex) (w : World) (h : Rdr r mp v ts p w) (hp : p < ts.length)
    (cp : ∀ W, w.grownBy W (some r) → Rdr r mp v ts (p + 1) W → Calls Tryd.prog 65 #[.pointer (some ⟨r, 0, none⟩), .int .i64 0] W (Post r mp v ts W (.ok (x, q))))
    (hm : isMk (markAt ts q) 3 ⟨#[41]⟩ = false) :
    Calls Tryd.prog 59 #[.pointer (some ⟨r, 0, none⟩)] w (Post r mp v ts w (.error (5, q))) := by
  have b0 := (Below.refl w.heap.size w).alloc (Nat.le_refl _) (.cells #[.int .u8 0, .int .i64 0, .string ⟨#[]⟩, .slice none 0 0] 25)
  obtain ⟨y0, y1, hg, hr⟩ := moved (h.step b0) hp
  have hfew : (p : Int) < 140737488355328 := by have := h.few; omega
  have HG := hid (grown_on (grown_below b0 (some r)) hg)
  have HR := hid hr
  have c3 := fun W hW => pass_bad 3 ⟨#[41]⟩ r mp v ts q W hW hm
  simp only [Int.cast_ofNat_Int] at c3
  clear h hp hg hr b0 hm
  go_enter Tryd.func59, Tryd.ntmps59
  go_wp2_with (first
    | (go_at_call 65; refine (cp _ HG.out HR.out).mono ?_; rintro e w2 ⟨g2, s, rfl, st, h2⟩; obtain ⟨ao, cap, rfl⟩ := st.form; have b3 := (Below.refl w2.heap.size w2).alloc (Nat.le_refl _) (.cells (ex4 x (.slice ao x.args.length cap)) 25); have G2 := hid (grown_on (grown_on HG.out g2) (grown_below b3 _)); have H2 := hid (h2.step b3); clear g2 h2 st b3 cp)
    | (go_at_call 82; refine (c3 _ H2.out).mono ?_; rintro e w4 ⟨rfl, b4⟩; have B4 := hid b4; clear b4 c3))
  exact ⟨rfl, grown_on G2.out (grown_below B4.out _), rfl, H2.out.step B4.out⟩
set_option maxRecDepth 100000 in
set_option maxHeartbeats 1000000 in
theorem brackets_ok (r mp : Nat) (v : Value) (ts : List Mark) (p q : Nat) (x : Ex) (w : World) (h : Rdr r mp v ts p w) (hp : p < ts.length)
    (cp : ∀ W, w.grownBy W (some r) → Rdr r mp v ts (p + 1) W → Calls Tryd.prog 65 #[.pointer (some ⟨r, 0, none⟩), .int .i64 0] W (Post r mp v ts W (.ok (x, q))))
    (hm : isMk (markAt ts q) 3 ⟨#[41]⟩ = true) :
    Calls Tryd.prog 59 #[.pointer (some ⟨r, 0, none⟩)] w (Post r mp v ts w (.ok (x, q + 1))) := by
  have b0 := (Below.refl w.heap.size w).alloc (Nat.le_refl _) (.cells #[.int .u8 0, .int .i64 0, .string ⟨#[]⟩, .slice none 0 0] 25)
  obtain ⟨y0, y1, hg, hr⟩ := moved (h.step b0) hp
  have hfew : (p : Int) < 140737488355328 := by have := h.few; omega
  have HG := hid (grown_on (grown_below b0 (some r)) hg)
  have HR := hid hr
  have H := hid h
  have c3 := fun W hW => pass_ok 3 (by omega) ⟨#[41]⟩ r mp v ts q W hW hm
  simp only [Int.cast_ofNat_Int] at c3
  clear h hp hg hr b0 hm
  go_enter Tryd.func59, Tryd.ntmps59
  go_wp2_with (first
    | (go_at_call 65; refine (cp _ HG.out HR.out).mono ?_; rintro e w2 ⟨g2, s, rfl, st, h2⟩; obtain ⟨ao, cap, rfl⟩ := st.form; have b3 := (Below.refl w2.heap.size w2).alloc (Nat.le_refl _) (.cells (ex4 x (.slice ao x.args.length cap)) 25); have hbx := box_kept H.out.lt g2; have HBX := hid ((b3.block _ (Array.getElem?_eq_some_iff.1 hbx).1).trans hbx); have HL := hid (Array.getElem?_eq_some_iff.1 hbx).1; have ST := hid st; have B3 := hid b3; have G2 := hid (grown_on (grown_on HG.out g2) (grown_below b3 _)); have H2 := hid (h2.step b3); clear g2 h2 st b3 cp hbx)
    | (go_at_call 82; refine (c3 _ H2.out).mono ?_; rintro e w4 ⟨rfl, g4, h4⟩; have hbx4 := (g4.block _ (Array.getElem?_eq_some_iff.1 HBX.out).1 (fun e => by injection e; have := H.out.lt; omega)).trans HBX.out; have hx4 := (g4.block _ (Array.getElem?_eq_some_iff.1 (heap_alloc_new w2 _)).1 (fun e => by injection e; have := H.out.lt; have := HL.out; omega)).trans (heap_alloc_new w2 _); have G4 := hid g4; have H4 := hid h4; clear g4 h4 c3)
    | (refine wpList_load_row rfl 25 _ rfl w2.heap.size rfl 25 (ex4 x (.slice ao x.args.length cap)) (0, 0) _ hx4 Tryd.underlying25 rfl info25 ?_)
    | (refine wpList_store_row rfl 25 _ _ rfl w.heap.size (ex4 x (.slice ao x.args.length cap)) rfl rfl 25 _ hbx4 info25 rfl (by simp [Value.oneCell', ex4]) ?_))
  refine bodyPost_ret (results_cell_row rfl _ _ w.heap.size 25 (ex4 x (.slice ao x.args.length cap)) (0, 0) _ rfl (setRow_heap _ _ _ _ _ _ hbx4) Tryd.underlying25 rfl info25) rfl ⟨grown_setRow (grown_on G2.out G4.out) _, _, rfl, ?_, H.out.setRow H4.out _⟩
  refine StP.carryN (fun b hb hl => ?_) (fun b _ hb => ?_) _ x _ (Nat.le_refl _) ST.out
  · simp [World.setCell] at hb
    refine (setRow_other _ _ _ _ (by omega)).trans ((G4.out.block b (by have := B3.out.size; omega) (fun e => by injection e; have := H.out.lt; omega)).trans (B3.out.block b hl))
  · simp [World.setCell] at hb
    show w.heap.size ≤ b
    omega
end Go.Proofs.YtkieljleopbhoaaDoor.Lex
