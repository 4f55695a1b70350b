/-
  What a reader's step answers: the contracts of no, pass, name, number.
-/
import Derived.Test.YtkieljleopbhoaaDoorLeaves
import Derived.WalkSmall
import Derived.WalkMore
namespace Go.Proofs.YtkieljleopbhoaaDoor.Lex
open Go.ChangeShapes Go.WideShapes Go.ChangeAt Go.RowKit Go.Joins
set_option maxRecDepth 100000 in
set_option maxHeartbeats 1000000 in
theorem no_at (r mp : Nat) (v : Value) (ts : List Mark) (p : Nat) (w : World) (h : Rdr r mp v ts p w) (hp : p < ts.length) : Calls Tryd.prog 57 #[.pointer (some ⟨r, 0, none⟩)] w (Post r mp v ts w (.ok (⟨2, 0, ByteArray.empty, []⟩, p + 1))) := by
  obtain ⟨W1, hW1, hbx, y0, y1, hg, hr⟩ := stepped h hp #[.int .u8 0, .int .i64 0, .string ⟨#[]⟩, .slice none 0 0] #[.int .u8 2, .int .i64 0, .string ⟨#[]⟩, .slice none 0 0] 25
  have hfew : (p : Int) < 140737488355328 := by have := h.few; omega
  have HG := hid hg
  have HR := hid hr
  clear h hp hg hr
  go_enter Tryd.func57, Tryd.ntmps57
  go_wp2_with (refine wpList_store_row rfl 25 _ _ rfl w.heap.size #[.int .u8 2, .int .i64 0, .string ⟨#[]⟩, .slice none 0 0] rfl rfl 25 _ hbx info25 rfl (by simp [Value.oneCell']) ?_)
  refine bodyPost_ret (results_cell_row rfl _ _ w.heap.size 25 #[.int .u8 2, .int .i64 0, .string ⟨#[]⟩, .slice none 0 0] (0, 0) _ rfl (setRow_heap _ _ _ _ _ _ hbx) Tryd.underlying25 rfl info25) rfl ⟨HG.out, _, rfl, ?_, HR.out⟩
  exact StP.leaf 2 0 _ (by omega) (by omega) (by decide)
/-- Is a mark this kind and text? -/
def isMk (m : Mark) (kind : Nat) (text : ByteArray) : Bool := m.kind == kind && m.text.toList == text.toList
theorem isMk_no {m : Mark} {kind : Nat} {text : ByteArray} (h : isMk m kind text = false) : (¬ (m.kind : Int) = (kind : Int)) ∨ ((m.kind : Int) = (kind : Int) ∧ ¬ m.text.toList = text.toList) := by
  unfold isMk at h
  by_cases e : m.kind = kind
  · refine .inr ⟨by omega, ?_⟩
    rw [e] at h
    simpa using h
  · exact .inl (by omega)
theorem isMk_yes {m : Mark} {kind : Nat} {text : ByteArray} (h : isMk m kind text = true) : (m.kind : Int) = (kind : Int) ∧ m.text.toList = text.toList := by
  unfold isMk at h
  have := h
  simp at this
  exact ⟨by omega, this.2⟩
set_option maxRecDepth 100000 in
set_option maxHeartbeats 1000000 in
theorem pass_bad (kind : Nat) (text : ByteArray) (r mp : Nat) (v : Value) (ts : List Mark) (p : Nat) (w : World) (h : Rdr r mp v ts p w) (hm : isMk (markAt ts p) kind text = false) : Calls Tryd.prog 82 #[.pointer (some ⟨r, 0, none⟩), .int .u8 (kind : Int), .string text] w fun e w' => e = panicE 5 ∧ Below w.heap.size w w' := by
  have c := peek r mp v ts p w h
  generalize markAt ts p = m at *
  clear h
  rcases isMk_no hm with h1 | ⟨h1, h2⟩ <;> clear hm
  · go_enter Tryd.func82, Tryd.ntmps82
    go_wp2_with (go_at_call 80; refine c.mono ?_; rintro e w2 ⟨rfl, b2⟩; have B2 := hid b2; clear b2 c)
    exact ⟨rfl, rfl, B2.out⟩
  · go_enter Tryd.func82, Tryd.ntmps82
    go_wp2_with (go_at_call 80; refine c.mono ?_; rintro e w2 ⟨rfl, b2⟩; have B2 := hid b2; clear b2 c)
    exact ⟨rfl, rfl, B2.out⟩
/-- The place goes on by one. -/
theorem moved {r mp : Nat} {v : Value} {ts : List Mark} {p : Nat} {w : World} (h : Rdr r mp v ts p w) (hp : p < ts.length) : w.cell? ⟨r, 1, none⟩ = some (.int .i64 (p : Int)) ∧ w.frozen? ⟨r, 1, none⟩ = false ∧ w.grownBy (w.setCell ⟨r, 1, none⟩ (.int .i64 ((p : Int) + 1))) (some r) ∧ Rdr r mp v ts (p + 1) (w.setCell ⟨r, 1, none⟩ (.int .i64 ((p : Int) + 1))) := by
  have h2 := h.move (p + 1) (by omega)
  refine ⟨h.at1.1, h.at1.2, ⟨rfl, rfl, rfl, by simp [World.setCell], fun k hk hkr => ?_⟩, h2⟩
  have hkr' : k ≠ r := fun e => hkr (by rw [e])
  rw [Below.heap_setCell _ _ _ _ hkr']
theorem grown_below {w w1 : World} (h : Below w.heap.size w w1) (r : Option Nat) : w.grownBy w1 r := ⟨h.os, h.tape, h.output, h.size, fun k hk _ => h.block k hk⟩
theorem grown_on {a b c : World} {r : Option Nat} (h : a.grownBy b r) (k : b.grownBy c r) : a.grownBy c r :=
  ⟨k.os.trans h.os, k.tape.trans h.tape, k.output.trans h.output, Nat.le_trans h.size k.size, fun i hi hr => (k.block i (Nat.lt_of_lt_of_le hi h.size) hr).trans (h.block i hi hr)⟩
theorem markAt_lt {ts : List Mark} {p : Nat} (hl : p ≤ ts.length) (h : (markAt ts p).kind ≠ 0) : p < ts.length := by
  by_cases e : p < ts.length
  · exact e
  · exfalso
    apply h
    unfold markAt
    rw [List.getD_eq_getElem?_getD, List.getElem?_eq_none (by omega)]
    rfl
set_option maxRecDepth 100000 in
set_option maxHeartbeats 1000000 in
theorem pass_ok (kind : Nat) (hk : kind ≠ 0) (text : ByteArray) (r mp : Nat) (v : Value) (ts : List Mark) (p : Nat) (w : World) (h : Rdr r mp v ts p w) (hm : isMk (markAt ts p) kind text = true) : Calls Tryd.prog 82 #[.pointer (some ⟨r, 0, none⟩), .int .u8 (kind : Int), .string text] w fun e w' => e = .returned (.tuple #[]) ∧ w.grownBy w' (some r) ∧ Rdr r mp v ts (p + 1) w' := by
  have c := peek r mp v ts p w h
  obtain ⟨h1, h2⟩ := isMk_yes hm
  have hp : p < ts.length := markAt_lt h.le (by omega)
  have hfew : (p : Int) < 140737488355328 := by have := h.few; omega
  clear hm hk
  generalize markAt ts p = m at *
  have H := hid h
  have HP := hid hp
  clear h hp
  go_enter Tryd.func82, Tryd.ntmps82
  go_wp2_with (go_at_call 80; refine c.mono ?_; rintro e w2 ⟨rfl, b2⟩; obtain ⟨y0, y1, hg, hr⟩ := moved (H.out.step b2) HP.out; have B2 := hid b2; have HG := hid hg; have HR := hid hr; clear b2 c hg hr)
  exact bodyPost_end (by simp [results]) rfl ⟨rfl, grown_on (grown_below B2.out _) HG.out, HR.out⟩
/-- Behind a box: the place goes on by one, other memory is made, and the box is written. -/
theorem boxed_on {r mp : Nat} {v : Value} {ts : List Mark} {p : Nat} {w : World} (h : Rdr r mp v ts p w) (hp : p < ts.length) (c : Array Value) (t : TypeId) (w2 : World) (b : Below (w.alloc (.cells c t)).heap.size (w.alloc (.cells c t)) w2) :
    w2.cell? ⟨r, 1, none⟩ = some (.int .i64 (p : Int)) ∧ w2.frozen? ⟨r, 1, none⟩ = false ∧ ∀ W4, Below (w2.setCell ⟨r, 1, none⟩ (.int .i64 ((p : Int) + 1))).heap.size (w2.setCell ⟨r, 1, none⟩ (.int .i64 ((p : Int) + 1))) W4 →
      W4.heap[w.heap.size]? = some (.cells c t (0, 0)) ∧ ∀ d, w.grownBy (W4.setRow w.heap.size d) (some r) ∧ Rdr r mp v ts (p + 1) (W4.setRow w.heap.size d) := by
  have hb := (Below.refl w.heap.size w).alloc (Nat.le_refl _) (.cells c t)
  have b02 := bstep hb b
  have h2 := h.step b02
  obtain ⟨y0, y1, hg, hr⟩ := moved h2 hp
  have hlt := h.lt
  have hne : w.heap.size ≠ r := by omega
  have hsz : w.heap.size < w2.heap.size := by have := b.size; simp at this; omega
  refine ⟨y0, y1, fun W4 b4 => ?_⟩
  have hr4 := hr.step b4
  have e4 : W4.heap[w.heap.size]? = some (.cells c t (0, 0)) := by
    rw [b4.block _ (by simp [World.setCell]; exact hsz), Below.heap_setCell _ _ _ _ hne, b.block _ (by simp)]
    exact heap_alloc_new w _
  refine ⟨e4, fun d => ⟨?_, ?_⟩⟩
  · have g := grown_on (grown_on (grown_below b02 (some r)) hg) (grown_below b4 _)
    exact ⟨g.os, g.tape, g.output, by have := g.size; simpa [World.setRow] using this, fun k hk hkr => (setRow_other _ _ _ _ (by omega)).trans (g.block k hk hkr)⟩
  · refine ⟨(setRow_other _ _ _ _ (by omega)).trans hr4.cell, ?_, hr4.le, hr4.few, hr4.far, hr4.own⟩
    obtain ⟨a, cap, rfl, hc⟩ := h.toks
    refine hr4.toks.carry fun a' n c' ev hl => setRow_other _ _ _ _ ?_
    intro he
    injection ev with e1 e2 e3
    rcases hc with h0 | ⟨g, o, hg, hcc⟩
    · have := h.le; omega
    · rw [hg] at e1
      injection e1 with e1
      have hlt2 : g < w.heap.size := World.block_lt_of_cell? w ⟨g, o + 0 * 3, none⟩ (hcc 0 (by omega)).1
      rw [← e1] at he
      simp only at he
      omega
set_option maxRecDepth 100000 in
set_option maxHeartbeats 1000000 in
theorem name_bad (r mp : Nat) (v : Value) (ts : List Mark) (p : Nat) (w : World) (h : Rdr r mp v ts p w) (hT : TabR w) (hn : isName (markAt ts p).text = false) : Calls Tryd.prog 55 #[.pointer (some ⟨r, 0, none⟩)] w (Post r mp v ts w (.error (5, p))) := by
  have b0 := (Below.refl w.heap.size w).alloc (Nat.le_refl _) (.cells #[.int .u8 0, .int .i64 0, .string ⟨#[]⟩, .slice none 0 0] 25)
  have c := fun W hW => peek r mp v ts p W (h.step hW)
  have cn := fun W hW => name (markAt ts p).text W (hT.below hW)
  generalize markAt ts p = m at *
  have H := hid h
  have B0 := hid b0
  clear h hT b0
  go_enter Tryd.func55, Tryd.ntmps55
  go_wp2_with (go_at_call 80; refine (c _ B0.out).mono ?_; rintro e w2 ⟨rfl, b2⟩; have B2 := hid (bstep B0.out b2); clear b2 c)
  rename_i K hK
  refine (show K (Act.put _ (some 6) (Value.string m.text)) w2 from ?_)
  go_wp2_with (first
    | (go_at_call 71; refine (cn _ B2.out).mono ?_; rw [hn]; rintro e w3 ⟨rfl, b3⟩; have B3 := hid (bstep B2.out b3); clear b3 cn))
  exact ⟨rfl, grown_below B3.out _, rfl, H.out.step B3.out⟩
set_option maxRecDepth 100000 in
set_option maxHeartbeats 1000000 in
theorem name_ok (r mp : Nat) (v : Value) (ts : List Mark) (p : Nat) (w : World) (h : Rdr r mp v ts p w) (hp : p < ts.length) (hT : TabR w) (hn : isName (markAt ts p).text = true) : Calls Tryd.prog 55 #[.pointer (some ⟨r, 0, none⟩)] w (Post r mp v ts w (.ok (⟨3, 0, (markAt ts p).text, []⟩, p + 1))) := by
  have b0 := (Below.refl w.heap.size w).alloc (Nat.le_refl _) (.cells #[.int .u8 0, .int .i64 0, .string ⟨#[]⟩, .slice none 0 0] 25)
  have c := fun W hW => peek r mp v ts p W (h.step hW)
  have cn := fun W hW => name (markAt ts p).text W (hT.below hW)
  have hs : (markAt ts p).text.size ≤ 40 := by
    unfold isName at hn
    simp at hn
    omega
  have cc := fun W => clone (markAt ts p).text W (by omega)
  have K := hid (boxed_on h hp #[.int .u8 0, .int .i64 0, .string ⟨#[]⟩, .slice none 0 0] 25)
  have hfew : (p : Int) < 140737488355328 := by have := h.few; omega
  generalize markAt ts p = m at *
  have B0 := hid b0
  have HS := hid hs
  clear h hT b0 hp hs
  go_enter Tryd.func55, Tryd.ntmps55
  go_wp2_with (go_at_call 80; refine (c _ B0.out).mono ?_; rintro e w2 ⟨rfl, b2⟩; have B2 := hid b2; clear b2 c)
  rename_i K hK
  refine (show K (Act.put _ (some 6) (Value.string m.text)) w2 from ?_)
  go_wp2_with (first
    | (go_at_call 71; refine (cn _ (bstep B0.out B2.out)).mono ?_; rw [hn]; rintro e w3 ⟨rfl, b3⟩; obtain ⟨y0, y1, k4⟩ := K.out w3 (bstep B2.out b3); have K4 := hid k4; clear b3 cn K k4)
    | (go_at_call 38; refine (cc _).mono ?_; rintro e w4 ⟨rfl, b4⟩; obtain ⟨hbx, k5⟩ := K4.out w4 b4; have K5 := hid k5; clear b4 K4 cc k5)
    | (refine wpList_store_row rfl 25 _ _ rfl w.heap.size #[.int .u8 3, .int .i64 0, .string m.text, .slice none 0 0] rfl rfl 25 _ hbx info25 rfl (by simp [Value.oneCell']) ?_))
  refine bodyPost_ret (results_cell_row rfl _ _ w.heap.size 25 #[.int .u8 3, .int .i64 0, .string m.text, .slice none 0 0] (0, 0) _ rfl (setRow_heap _ _ _ _ _ _ hbx) Tryd.underlying25 rfl info25) rfl ⟨(K5.out _).1, _, rfl, ?_, (K5.out _).2⟩
  exact StP.leaf 3 0 _ (by omega) (by omega) (by have := HS.out; omega)
theorem numN_range (s : ByteArray) : -9223372036854775808 ≤ numN s ∧ numN s ≤ 9223372036854775807 := by
  unfold numN
  split
  · omega
  · cases e : mag 0 s.data.toList with
    | none => simp [outN]
    | some k =>
      have := mag_top _ 0 k (by omega) e
      simp only [outN]
      omega
theorem numE_nat (s : ByteArray) : ((numE s).toNat : Int) = numE s := by
  have : 0 ≤ numE s := by
    unfold numE
    split
    · omega
    · cases mag 0 s.data.toList <;> simp [outE]
  omega
set_option maxRecDepth 100000 in
set_option maxHeartbeats 1000000 in
theorem number_bad (r mp : Nat) (v : Value) (ts : List Mark) (p : Nat) (w : World) (h : Rdr r mp v ts p w) (tp : TypeId) (pv : Value) (hvar : w.var? Tryd.prog "strconv.ErrRange" = some #[.iface tp pv]) (hs : (markAt ts p).text.size ≤ 1048576) (hn : ¬ numE (markAt ts p).text = 0) : Calls Tryd.prog 58 #[.pointer (some ⟨r, 0, none⟩)] w (Post r mp v ts w (.error ((numE (markAt ts p).text).toNat, p))) := by
  have b0 := (Below.refl w.heap.size w).alloc (Nat.le_refl _) (.cells #[.int .u8 0, .int .i64 0, .string ⟨#[]⟩, .slice none 0 0] 25)
  have c := fun W hW => peek r mp v ts p W (h.step hW)
  have cn := fun W hW => number (markAt ts p).text W hs tp pv (varAt hvar hW)
  have en := hid (numE_nat (markAt ts p).text)
  generalize markAt ts p = m at *
  generalize numE m.text = E at *
  have H := hid h
  have B0 := hid b0
  clear h hvar hs b0
  go_enter Tryd.func58, Tryd.ntmps58
  go_wp2_with (go_at_call 80; refine (c _ B0.out).mono ?_; rintro e w2 ⟨rfl, b2⟩; have B2 := hid (bstep B0.out b2); clear b2 c)
  rename_i K hK
  refine (show K (Act.put _ (some 8) (Value.string m.text)) w2 from ?_)
  go_wp2_with (go_at_call 81; refine (cn _ B2.out).mono ?_; rintro e w3 ⟨rfl, b3⟩; have B3 := hid (bstep B2.out b3); clear b3 cn)
  refine ⟨rfl, grown_below B3.out _, ?_, H.out.step B3.out⟩
  rw [panicE, en.out]
set_option maxRecDepth 100000 in
set_option maxHeartbeats 1000000 in
theorem number_ok (r mp : Nat) (v : Value) (ts : List Mark) (p : Nat) (w : World) (h : Rdr r mp v ts p w) (hp : p < ts.length) (tp : TypeId) (pv : Value) (hvar : w.var? Tryd.prog "strconv.ErrRange" = some #[.iface tp pv]) (hs : (markAt ts p).text.size ≤ 1048576) (hn : numE (markAt ts p).text = 0) : Calls Tryd.prog 58 #[.pointer (some ⟨r, 0, none⟩)] w (Post r mp v ts w (.ok (⟨1, numN (markAt ts p).text, ByteArray.empty, []⟩, p + 1))) := by
  have b0 := (Below.refl w.heap.size w).alloc (Nat.le_refl _) (.cells #[.int .u8 0, .int .i64 0, .string ⟨#[]⟩, .slice none 0 0] 25)
  have c := fun W hW => peek r mp v ts p W (h.step hW)
  have cn := fun W hW => number (markAt ts p).text W hs tp pv (varAt hvar hW)
  have K := hid (boxed_on h hp #[.int .u8 0, .int .i64 0, .string ⟨#[]⟩, .slice none 0 0] 25)
  have hfew : (p : Int) < 140737488355328 := by have := h.few; omega
  generalize markAt ts p = m at *
  rw [hn] at cn
  have HN := hid (numN_range m.text)
  generalize numN m.text = N at *
  have B0 := hid b0
  clear h hvar hs b0 hp hn
  go_enter Tryd.func58, Tryd.ntmps58
  go_wp2_with (go_at_call 80; refine (c _ B0.out).mono ?_; rintro e w2 ⟨rfl, b2⟩; have B2 := hid b2; clear b2 c)
  rename_i K' hK
  refine (show K' (Act.put _ (some 8) (Value.string m.text)) w2 from ?_)
  go_wp2_with (first
    | (go_at_call 81; refine (cn _ (bstep B0.out B2.out)).mono ?_; rintro e w3 ⟨rfl, b3⟩; obtain ⟨y0, y1, k4⟩ := K.out w3 (bstep B2.out b3); obtain ⟨hbx, k5⟩ := k4 _ (Below.refl _ _); have K5 := hid k5; clear b3 cn K k4 k5)
    | (refine wpList_store_row rfl 25 _ _ rfl w.heap.size #[.int .u8 1, .int .i64 N, .string ⟨#[]⟩, .slice none 0 0] rfl rfl 25 _ hbx info25 rfl (by simp [Value.oneCell']) ?_))
  refine bodyPost_ret (results_cell_row rfl _ _ w.heap.size 25 #[.int .u8 1, .int .i64 N, .string ⟨#[]⟩, .slice none 0 0] (0, 0) _ rfl (setRow_heap _ _ _ _ _ _ hbx) Tryd.underlying25 rfl info25) rfl ⟨(K5.out _).1, _, rfl, ?_, (K5.out _).2⟩
  exact StP.leaf 1 N _ (by omega) HN.out (by decide)
end Go.Proofs.YtkieljleopbhoaaDoor.Lex
