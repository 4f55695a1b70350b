/-
  What a reader's step answers: the contracts of no, pass, name, number.
  An operator of one, read: the contract of one, over that of part.
  The three signs of one, and brackets: the contracts over those of one, part, pass.
  A choice, read: the contract of choice, over those of part and pass.
  The law of the keys of atoms.
  A mark as a key.
  The map of the atoms, as its eight entries are laid in any order.
  The contract of atoms: eight entries, laid in any order.
  The reader as a plain function of the tokens: what a part is, and how it goes on.
  The plain reader: what is read is not nothing; enough steps are enough.
  The plain reader: enough steps are enough.
  What may stand in any place: the contract of atom.
  Plain mathematics of the digits of a number.
-/
import Derived.Test.YtkieljleopbhoabDoorR3
import Derived.WalkSmall
import Derived.WalkMore
import Derived.Great.BuildSlice
import Derived.DeepKeys4
import Derived.Maps.Keyed
import Derived.Deep.RegionHeld3
import Derived.BigQuiet
import Derived.Test.YtkieljleopbhoabDoorR1
namespace Go.Proofs.YtkieljleopbhoabDoor.Lex
open Go.ChangeShapes Go.WideShapes Go.ChangeAt Go.RowKit Go.Joins
set_option maxRecDepth 100000 in
set_option maxHeartbeats 1000000 in
theorem no_at (r mp : Nat) (v : Value) (ts : List Mark) (p : Nat) (w : World) (h : Rdr r mp v ts p w) (hp : p < ts.length) : Calls Tryd.prog 34 #[.pointer (some ⟨r, 0, none⟩)] w (Post r mp v ts w (.ok (⟨2, 0, ByteArray.empty, []⟩, p + 1))) := by
  obtain ⟨W1, hW1, hbx, y0, y1, hg, hr⟩ := stepped h hp #[.int .u8 0, .int .i64 0, .string ⟨#[]⟩, .slice none 0 0] #[.int .u8 2, .int .i64 0, .string ⟨#[]⟩, .slice none 0 0] 26
  have hfew : (p : Int) < 140737488355328 := by have := h.few; omega
  have HG := hid hg
  have HR := hid hr
  clear h hp hg hr
  go_enter Tryd.func34, Tryd.ntmps34
  go_wp2_with (refine wpList_store_row rfl 26 _ _ rfl w.heap.size #[.int .u8 2, .int .i64 0, .string ⟨#[]⟩, .slice none 0 0] rfl rfl 26 _ hbx info25 rfl (by simp [Value.oneCell']) ?_)
  refine bodyPost_ret (results_cell_row rfl _ _ w.heap.size 26 #[.int .u8 2, .int .i64 0, .string ⟨#[]⟩, .slice none 0 0] (0, 0) _ rfl (setRow_heap _ _ _ _ _ _ hbx) Tryd.underlying26 rfl info25) rfl ⟨HG.out, _, rfl, ?_, HR.out⟩
  exact StP.leaf 2 0 _ (by omega) (by omega) (by decide)
/-- Is a mark this kind and text? -/
def isMk (m : Mark) (kind : Nat) (text : ByteArray) : Bool := m.kind == kind && m.text.toList == text.toList
theorem isMk_no {m : Mark} {kind : Nat} {text : ByteArray} (h : isMk m kind text = false) : (¬ (m.kind : Int) = (kind : Int)) ∨ ((m.kind : Int) = (kind : Int) ∧ ¬ m.text.toList = text.toList) := by
  unfold isMk at h
  by_cases e : m.kind = kind
  · refine .inr ⟨by omega, ?_⟩
    rw [e] at h
    simpa using h
  · exact .inl (by omega)
theorem isMk_yes {m : Mark} {kind : Nat} {text : ByteArray} (h : isMk m kind text = true) : (m.kind : Int) = (kind : Int) ∧ m.text.toList = text.toList := by
  unfold isMk at h
  have := h
  simp at this
  exact ⟨by omega, this.2⟩
set_option maxRecDepth 100000 in
set_option maxHeartbeats 1000000 in
theorem pass_bad (kind : Nat) (text : ByteArray) (r mp : Nat) (v : Value) (ts : List Mark) (p : Nat) (w : World) (h : Rdr r mp v ts p w) (hm : isMk (markAt ts p) kind text = false) : Calls Tryd.prog 62 #[.pointer (some ⟨r, 0, none⟩), .int .u8 (kind : Int), .string text] w fun e w' => e = panicE 5 ∧ Below w.heap.size w w' := by
  have c := peek r mp v ts p w h
  generalize markAt ts p = m at *
  clear h
  rcases isMk_no hm with h1 | ⟨h1, h2⟩ <;> clear hm
  · go_enter Tryd.func62, Tryd.ntmps62
    go_wp2_with (go_at_call 59; refine c.mono ?_; rintro e w2 ⟨rfl, b2⟩; have B2 := hid b2; clear b2 c)
    exact ⟨rfl, rfl, B2.out⟩
  · go_enter Tryd.func62, Tryd.ntmps62
    go_wp2_with (go_at_call 59; refine c.mono ?_; rintro e w2 ⟨rfl, b2⟩; have B2 := hid b2; clear b2 c)
    exact ⟨rfl, rfl, B2.out⟩
/-- The place goes on by one. -/
theorem moved {r mp : Nat} {v : Value} {ts : List Mark} {p : Nat} {w : World} (h : Rdr r mp v ts p w) (hp : p < ts.length) : w.cell? ⟨r, 1, none⟩ = some (.int .i64 (p : Int)) ∧ w.frozen? ⟨r, 1, none⟩ = false ∧ w.grownBy (w.setCell ⟨r, 1, none⟩ (.int .i64 ((p : Int) + 1))) (some r) ∧ Rdr r mp v ts (p + 1) (w.setCell ⟨r, 1, none⟩ (.int .i64 ((p : Int) + 1))) := by
  have h2 := h.move (p + 1) (by omega)
  refine ⟨h.at1.1, h.at1.2, ⟨rfl, rfl, rfl, by simp [World.setCell], fun k hk hkr => ?_⟩, h2⟩
  have hkr' : k ≠ r := fun e => hkr (by rw [e])
  rw [Below.heap_setCell _ _ _ _ hkr']
theorem grown_below {w w1 : World} (h : Below w.heap.size w w1) (r : Option Nat) : w.grownBy w1 r := ⟨h.os, h.tape, h.output, h.size, fun k hk _ => h.block k hk⟩
theorem grown_on {a b c : World} {r : Option Nat} (h : a.grownBy b r) (k : b.grownBy c r) : a.grownBy c r :=
  ⟨k.os.trans h.os, k.tape.trans h.tape, k.output.trans h.output, Nat.le_trans h.size k.size, fun i hi hr => (k.block i (Nat.lt_of_lt_of_le hi h.size) hr).trans (h.block i hi hr)⟩
theorem markAt_lt {ts : List Mark} {p : Nat} (hl : p ≤ ts.length) (h : (markAt ts p).kind ≠ 0) : p < ts.length := by
  by_cases e : p < ts.length
  · exact e
  · exfalso
    apply h
    unfold markAt
    rw [List.getD_eq_getElem?_getD, List.getElem?_eq_none (by omega)]
    rfl
set_option maxRecDepth 100000 in
set_option maxHeartbeats 1000000 in
theorem pass_ok (kind : Nat) (hk : kind ≠ 0) (text : ByteArray) (r mp : Nat) (v : Value) (ts : List Mark) (p : Nat) (w : World) (h : Rdr r mp v ts p w) (hm : isMk (markAt ts p) kind text = true) : Calls Tryd.prog 62 #[.pointer (some ⟨r, 0, none⟩), .int .u8 (kind : Int), .string text] w fun e w' => e = .returned (.tuple #[]) ∧ w.grownBy w' (some r) ∧ Rdr r mp v ts (p + 1) w' := by
  have c := peek r mp v ts p w h
  obtain ⟨h1, h2⟩ := isMk_yes hm
  have hp : p < ts.length := markAt_lt h.le (by omega)
  have hfew : (p : Int) < 140737488355328 := by have := h.few; omega
  clear hm hk
  generalize markAt ts p = m at *
  have H := hid h
  have HP := hid hp
  clear h hp
  go_enter Tryd.func62, Tryd.ntmps62
  go_wp2_with (go_at_call 59; refine c.mono ?_; rintro e w2 ⟨rfl, b2⟩; obtain ⟨y0, y1, hg, hr⟩ := moved (H.out.step b2) HP.out; have B2 := hid b2; have HG := hid hg; have HR := hid hr; clear b2 c hg hr)
  exact bodyPost_end (by simp [results]) rfl ⟨rfl, grown_on (grown_below B2.out _) HG.out, HR.out⟩
/-- Behind a box: the place goes on by one, other memory is made, and the box is written. -/
theorem boxed_on {r mp : Nat} {v : Value} {ts : List Mark} {p : Nat} {w : World} (h : Rdr r mp v ts p w) (hp : p < ts.length) (c : Array Value) (t : TypeId) (w2 : World) (b : Below (w.alloc (.cells c t)).heap.size (w.alloc (.cells c t)) w2) :
    w2.cell? ⟨r, 1, none⟩ = some (.int .i64 (p : Int)) ∧ w2.frozen? ⟨r, 1, none⟩ = false ∧ ∀ W4, Below (w2.setCell ⟨r, 1, none⟩ (.int .i64 ((p : Int) + 1))).heap.size (w2.setCell ⟨r, 1, none⟩ (.int .i64 ((p : Int) + 1))) W4 →
      W4.heap[w.heap.size]? = some (.cells c t (0, 0)) ∧ ∀ d, w.grownBy (W4.setRow w.heap.size d) (some r) ∧ Rdr r mp v ts (p + 1) (W4.setRow w.heap.size d) := by
  have hb := (Below.refl w.heap.size w).alloc (Nat.le_refl _) (.cells c t)
  have b02 := bstep hb b
  have h2 := h.step b02
  obtain ⟨y0, y1, hg, hr⟩ := moved h2 hp
  have hlt := h.lt
  have hne : w.heap.size ≠ r := by omega
  have hsz : w.heap.size < w2.heap.size := by have := b.size; simp at this; omega
  refine ⟨y0, y1, fun W4 b4 => ?_⟩
  have hr4 := hr.step b4
  have e4 : W4.heap[w.heap.size]? = some (.cells c t (0, 0)) := by
    rw [b4.block _ (by simp [World.setCell]; exact hsz), Below.heap_setCell _ _ _ _ hne, b.block _ (by simp)]
    exact heap_alloc_new w _
  refine ⟨e4, fun d => ⟨?_, ?_⟩⟩
  · have g := grown_on (grown_on (grown_below b02 (some r)) hg) (grown_below b4 _)
    exact ⟨g.os, g.tape, g.output, by have := g.size; simpa [World.setRow] using this, fun k hk hkr => (setRow_other _ _ _ _ (by omega)).trans (g.block k hk hkr)⟩
  · refine ⟨(setRow_other _ _ _ _ (by omega)).trans hr4.cell, ?_, hr4.le, hr4.few, hr4.far, hr4.own⟩
    obtain ⟨a, cap, rfl, hc⟩ := h.toks
    refine hr4.toks.carry fun a' n c' ev hl => setRow_other _ _ _ _ ?_
    intro he
    injection ev with e1 e2 e3
    rcases hc with h0 | ⟨g, o, hg, hcc⟩
    · have := h.le; omega
    · rw [hg] at e1
      injection e1 with e1
      have hlt2 : g < w.heap.size := World.block_lt_of_cell? w ⟨g, o + 0 * 3, none⟩ (hcc 0 (by omega)).1
      rw [← e1] at he
      simp only at he
      omega
set_option maxRecDepth 100000 in
set_option maxHeartbeats 1000000 in
theorem name_bad (r mp : Nat) (v : Value) (ts : List Mark) (p : Nat) (w : World) (h : Rdr r mp v ts p w) (hT : TabR w) (hn : isName (markAt ts p).text = false) : Calls Tryd.prog 32 #[.pointer (some ⟨r, 0, none⟩)] w (Post r mp v ts w (.error (5, p))) := by
  have b0 := (Below.refl w.heap.size w).alloc (Nat.le_refl _) (.cells #[.int .u8 0, .int .i64 0, .string ⟨#[]⟩, .slice none 0 0] 26)
  have c := fun W hW => peek r mp v ts p W (h.step hW)
  have cn := fun W hW => name (markAt ts p).text W (hT.below hW)
  generalize markAt ts p = m at *
  have H := hid h
  have B0 := hid b0
  clear h hT b0
  go_enter Tryd.func32, Tryd.ntmps32
  go_wp2_with (go_at_call 59; refine (c _ B0.out).mono ?_; rintro e w2 ⟨rfl, b2⟩; have B2 := hid (bstep B0.out b2); clear b2 c)
  rename_i K hK
  refine (show K (Act.put _ (some 6) (Value.string m.text)) w2 from ?_)
  go_wp2_with (first
    | (go_at_call 60; refine (cn _ B2.out).mono ?_; rw [hn]; rintro e w3 ⟨rfl, b3⟩; have B3 := hid (bstep B2.out b3); clear b3 cn))
  exact ⟨rfl, grown_below B3.out _, rfl, H.out.step B3.out⟩
set_option maxRecDepth 100000 in
set_option maxHeartbeats 1000000 in
theorem name_ok (r mp : Nat) (v : Value) (ts : List Mark) (p : Nat) (w : World) (h : Rdr r mp v ts p w) (hp : p < ts.length) (hT : TabR w) (hn : isName (markAt ts p).text = true) : Calls Tryd.prog 32 #[.pointer (some ⟨r, 0, none⟩)] w (Post r mp v ts w (.ok (⟨3, 0, (markAt ts p).text, []⟩, p + 1))) := by
  have b0 := (Below.refl w.heap.size w).alloc (Nat.le_refl _) (.cells #[.int .u8 0, .int .i64 0, .string ⟨#[]⟩, .slice none 0 0] 26)
  have c := fun W hW => peek r mp v ts p W (h.step hW)
  have cn := fun W hW => name (markAt ts p).text W (hT.below hW)
  have hs : (markAt ts p).text.size ≤ 40 := by
    unfold isName at hn
    simp at hn
    omega
  have cc := fun W => clone (markAt ts p).text W (by omega)
  have K := hid (boxed_on h hp #[.int .u8 0, .int .i64 0, .string ⟨#[]⟩, .slice none 0 0] 26)
  have hfew : (p : Int) < 140737488355328 := by have := h.few; omega
  generalize markAt ts p = m at *
  have B0 := hid b0
  have HS := hid hs
  clear h hT b0 hp hs
  go_enter Tryd.func32, Tryd.ntmps32
  go_wp2_with (go_at_call 59; refine (c _ B0.out).mono ?_; rintro e w2 ⟨rfl, b2⟩; have B2 := hid b2; clear b2 c)
  rename_i K hK
  refine (show K (Act.put _ (some 6) (Value.string m.text)) w2 from ?_)
  go_wp2_with (first
    | (go_at_call 60; refine (cn _ (bstep B0.out B2.out)).mono ?_; rw [hn]; rintro e w3 ⟨rfl, b3⟩; obtain ⟨y0, y1, k4⟩ := K.out w3 (bstep B2.out b3); have K4 := hid k4; clear b3 cn K k4)
    | (go_at_call 31; refine (cc _).mono ?_; rintro e w4 ⟨rfl, b4⟩; obtain ⟨hbx, k5⟩ := K4.out w4 b4; have K5 := hid k5; clear b4 K4 cc k5)
    | (refine wpList_store_row rfl 26 _ _ rfl w.heap.size #[.int .u8 3, .int .i64 0, .string m.text, .slice none 0 0] rfl rfl 26 _ hbx info25 rfl (by simp [Value.oneCell']) ?_))
  refine bodyPost_ret (results_cell_row rfl _ _ w.heap.size 26 #[.int .u8 3, .int .i64 0, .string m.text, .slice none 0 0] (0, 0) _ rfl (setRow_heap _ _ _ _ _ _ hbx) Tryd.underlying26 rfl info25) rfl ⟨(K5.out _).1, _, rfl, ?_, (K5.out _).2⟩
  exact StP.leaf 3 0 _ (by omega) (by omega) (by have := HS.out; omega)
theorem numN_range (s : ByteArray) : -9223372036854775808 ≤ numN s ∧ numN s ≤ 9223372036854775807 := by
  unfold numN
  split
  · omega
  · cases e : mag 0 s.data.toList with
    | none => simp [outN]
    | some k =>
      have := mag_top _ 0 k (by omega) e
      simp only [outN]
      omega
theorem numE_nat (s : ByteArray) : ((numE s).toNat : Int) = numE s := by
  have : 0 ≤ numE s := by
    unfold numE
    split
    · omega
    · cases mag 0 s.data.toList <;> simp [outE]
  omega
set_option maxRecDepth 100000 in
set_option maxHeartbeats 1000000 in
theorem number_bad (r mp : Nat) (v : Value) (ts : List Mark) (p : Nat) (w : World) (h : Rdr r mp v ts p w) (tp : TypeId) (pv : Value) (hvar : w.var? Tryd.prog "strconv.ErrRange" = some #[.iface tp pv]) (hs : (markAt ts p).text.size ≤ 1048576) (hn : ¬ numE (markAt ts p).text = 0) : Calls Tryd.prog 35 #[.pointer (some ⟨r, 0, none⟩)] w (Post r mp v ts w (.error ((numE (markAt ts p).text).toNat, p))) := by
  have b0 := (Below.refl w.heap.size w).alloc (Nat.le_refl _) (.cells #[.int .u8 0, .int .i64 0, .string ⟨#[]⟩, .slice none 0 0] 26)
  have c := fun W hW => peek r mp v ts p W (h.step hW)
  have cn := fun W hW => number (markAt ts p).text W hs tp pv (varAt hvar hW)
  have en := hid (numE_nat (markAt ts p).text)
  generalize markAt ts p = m at *
  generalize numE m.text = E at *
  have H := hid h
  have B0 := hid b0
  clear h hvar hs b0
  go_enter Tryd.func35, Tryd.ntmps35
  go_wp2_with (go_at_call 59; refine (c _ B0.out).mono ?_; rintro e w2 ⟨rfl, b2⟩; have B2 := hid (bstep B0.out b2); clear b2 c)
  rename_i K hK
  refine (show K (Act.put _ (some 8) (Value.string m.text)) w2 from ?_)
  go_wp2_with (go_at_call 61; refine (cn _ B2.out).mono ?_; rintro e w3 ⟨rfl, b3⟩; have B3 := hid (bstep B2.out b3); clear b3 cn)
  refine ⟨rfl, grown_below B3.out _, ?_, H.out.step B3.out⟩
  rw [panicE, en.out]
set_option maxRecDepth 100000 in
set_option maxHeartbeats 1000000 in
theorem number_ok (r mp : Nat) (v : Value) (ts : List Mark) (p : Nat) (w : World) (h : Rdr r mp v ts p w) (hp : p < ts.length) (tp : TypeId) (pv : Value) (hvar : w.var? Tryd.prog "strconv.ErrRange" = some #[.iface tp pv]) (hs : (markAt ts p).text.size ≤ 1048576) (hn : numE (markAt ts p).text = 0) : Calls Tryd.prog 35 #[.pointer (some ⟨r, 0, none⟩)] w (Post r mp v ts w (.ok (⟨1, numN (markAt ts p).text, ByteArray.empty, []⟩, p + 1))) := by
  have b0 := (Below.refl w.heap.size w).alloc (Nat.le_refl _) (.cells #[.int .u8 0, .int .i64 0, .string ⟨#[]⟩, .slice none 0 0] 26)
  have c := fun W hW => peek r mp v ts p W (h.step hW)
  have cn := fun W hW => number (markAt ts p).text W hs tp pv (varAt hvar hW)
  have K := hid (boxed_on h hp #[.int .u8 0, .int .i64 0, .string ⟨#[]⟩, .slice none 0 0] 26)
  have hfew : (p : Int) < 140737488355328 := by have := h.few; omega
  generalize markAt ts p = m at *
  rw [hn] at cn
  have HN := hid (numN_range m.text)
  generalize numN m.text = N at *
  have B0 := hid b0
  clear h hvar hs b0 hp hn
  go_enter Tryd.func35, Tryd.ntmps35
  go_wp2_with (go_at_call 59; refine (c _ B0.out).mono ?_; rintro e w2 ⟨rfl, b2⟩; have B2 := hid b2; clear b2 c)
  rename_i K' hK
  refine (show K' (Act.put _ (some 8) (Value.string m.text)) w2 from ?_)
  go_wp2_with (first
    | (go_at_call 61; refine (cn _ (bstep B0.out B2.out)).mono ?_; rintro e w3 ⟨rfl, b3⟩; obtain ⟨y0, y1, k4⟩ := K.out w3 (bstep B2.out b3); obtain ⟨hbx, k5⟩ := k4 _ (Below.refl _ _); have K5 := hid k5; clear b3 cn K k4 k5)
    | (refine wpList_store_row rfl 26 _ _ rfl w.heap.size #[.int .u8 1, .int .i64 N, .string ⟨#[]⟩, .slice none 0 0] rfl rfl 26 _ hbx info25 rfl (by simp [Value.oneCell']) ?_))
  refine bodyPost_ret (results_cell_row rfl _ _ w.heap.size 26 #[.int .u8 1, .int .i64 N, .string ⟨#[]⟩, .slice none 0 0] (0, 0) _ rfl (setRow_heap _ _ _ _ _ _ hbx) Tryd.underlying26 rfl info25) rfl ⟨(K5.out _).1, _, rfl, ?_, (K5.out _).2⟩
  exact StP.leaf 1 N _ (by omega) HN.out (by decide)
end Go.Proofs.YtkieljleopbhoabDoor.Lex
namespace Go.Proofs.YtkieljleopbhoabDoor.Lex
open Go.ChangeShapes Go.WideShapes Go.ChangeAt Go.RowKit Go.Joins
theorem StP.form {ok : Nat → Prop} {w : World} {x : Ex} {s : Value} (h : StP ok w x s) : ∃ ao cap, s = .slice ao x.args.length cap := by
  obtain ⟨ao, cap, _, hs, _⟩ := h.out
  exact ⟨ao, cap, hs⟩
abbrev z25 : Value := .agg #[.int .u8 0, .int .i64 0, .string ⟨#[]⟩, .slice none 0 0]
theorem inf25 : ∃ ie, Tryd.prog.info? 26 = some ie ∧ ie.zero = some z25 ∧ ie.size = 4 := by
  have h : (Tryd.prog.info? 26).map (fun i => (i.zero, i.size)) = some (some z25, 4) := by kernel_rfl
  obtain ⟨ie, h1, h2⟩ := Option.map_eq_some_iff.1 h
  injection h2 with h2 h3
  exact ⟨ie, h1, h2, h3⟩
abbrev ex4 (x : Ex) (s : Value) : Array Value := #[.int .u8 (x.op : Int), .int .i64 x.n, .string x.name, s]
theorem fill1 (x : Ex) (ao : Option Addr) (n cap : Nat) : Instr.fill (fun i => some (i * 4, 4)) ((Array.range (1 * 4)).map (z25.cells[· % z25.cells.size]!)) [(0, exV x (.slice ao n cap))] = some (ex4 x (.slice ao n cap)) := by
  have e : ((Array.range (1 * 4)).map (z25.cells[· % z25.cells.size]!)) = #[.int .u8 0, .int .i64 0, .string ⟨#[]⟩, .slice none 0 0] := by kernel_rfl
  rw [e]
  simp [Instr.fill]
  exact ⟨⟨rfl, Nat.le_refl 4⟩, rfl⟩
set_option maxRecDepth 100000 in
set_option maxHeartbeats 1000000 in
theorem one_bad (r mp : Nat) (v : Value) (ts : List Mark) (p op n q : Nat) (w : World) (h : Rdr r mp v ts p w) (hp : p < ts.length)
    (cp : ∀ W, w.grownBy W (some r) → Rdr r mp v ts (p + 1) W → Calls Tryd.prog 42 #[.pointer (some ⟨r, 0, none⟩), .int .i64 6] W (Post r mp v ts W (.error (n, q)))) :
    Calls Tryd.prog 38 #[.pointer (some ⟨r, 0, none⟩), .int .u8 (op : Int)] w (Post r mp v ts w (.error (n, q))) := by
  have b0 := (Below.refl w.heap.size w).alloc (Nat.le_refl _) (.cells #[.int .u8 0, .int .i64 0, .string ⟨#[]⟩, .slice none 0 0] 26)
  obtain ⟨y0, y1, hg, hr⟩ := moved (h.step b0) hp
  have hfew : (p : Int) < 140737488355328 := by have := h.few; omega
  have HG := hid (grown_on (grown_below b0 (some r)) hg)
  have HR := hid hr
  clear h hp hg hr b0
  go_enter Tryd.func38, Tryd.ntmps38
  go_wp2_with (go_at_call 42; refine (cp _ HG.out HR.out).mono ?_; rintro e w2 ⟨g2, rfl, h2⟩; have G2 := hid g2; have H2 := hid h2; clear g2 h2 cp)
  exact ⟨rfl, grown_on HG.out G2.out, rfl, H2.out⟩
/-- Tokens lie ahead of what is made behind them. -/
theorem Rdr.setRow {r mp : Nat} {v : Value} {ts : List Mark} {p q : Nat} {w W : World} (h : Rdr r mp v ts p w) (h2 : Rdr r mp v ts q W) (d : Array Value) : Rdr r mp v ts q (W.setRow w.heap.size d) := by
  have hlt := h.lt
  refine ⟨(setRow_other _ _ _ _ (by omega)).trans h2.cell, ?_, h2.le, h2.few, h2.far, h2.own⟩
  obtain ⟨a, cap, rfl, hc⟩ := h.toks
  rcases hc with h0 | ⟨g, o, hg, hcc⟩
  · obtain ⟨a2, cap2, e2, _⟩ := h2.toks
    exact ⟨a2, cap2, e2, .inl h0⟩
  · by_cases h0 : ts.length = 0
    · obtain ⟨a2, cap2, e2, _⟩ := h2.toks
      exact ⟨a2, cap2, e2, .inl h0⟩
    · refine h2.toks.carry fun a' n c' ev hl => setRow_other _ _ _ _ ?_
      intro he
      injection ev with e1 e2 e3
      rw [hg] at e1
      injection e1 with e1
      have hlt2 : g < w.heap.size := World.block_lt_of_cell? w ⟨g, o + 0 * 3, none⟩ (hcc 0 (by omega)).1
      rw [← e1] at he
      simp only at he
      omega
theorem grown_setRow {w W : World} {r : Option Nat} (g : w.grownBy W r) (d : Array Value) : w.grownBy (W.setRow w.heap.size d) r :=
  ⟨g.os, g.tape, g.output, by have := g.size; simpa [World.setRow] using this, fun k hk hkr => (setRow_other _ _ _ _ (by omega)).trans (g.block k hk hkr)⟩
/-- A box stays where others are written. -/
theorem box_kept {w w2 : World} {r : Nat} {c : Array Value} {t : TypeId} {u : Value} (hr : r < w.heap.size) (g : ((w.alloc (.cells c t)).setCell ⟨r, 1, none⟩ u).grownBy w2 (some r)) : w2.heap[w.heap.size]? = some (.cells c t (0, 0)) := by
  rw [g.block _ (by simp [World.setCell]) (fun e => by injection e; omega), Below.heap_setCell _ _ _ _ (by show w.heap.size ≠ r; omega)]
  exact heap_alloc_new w _
/-- What has one part, in new memory. -/
theorem StP.one {ok : Nat → Prop} {W : World} {x : Ex} {s : Value} (op : Nat) (hop : op < 256) (g : Nat) (hg : ok g) (hst : StP ok W x s) (hc : W.heap[g]? = some (.cells (ex4 x s) 26 (0, 0))) : StP ok W ⟨op, 0, ByteArray.empty, [x]⟩ (.slice (some ⟨g, 0, none⟩) 1 1) := by
  refine StP.intro ⟨op, 0, ByteArray.empty, [x]⟩ (some ⟨g, 0, none⟩) 1 (fun _ => s) hop (by simp) (by show ByteArray.empty.size ≤ _; decide) (by simp) (by simp) (.inr ⟨g, 0, rfl, hg, fun i hi => ?_⟩) (fun i hi => ?_)
  · obtain rfl : i = 0 := by simpa using hi
    refine ⟨?_, ?_, ?_, ?_⟩ <;> (rw [cell_of_row _ _ _ _ 26 (0, 0) hc]; rfl)
  · obtain rfl : i = 0 := by simpa using hi
    exact hst
set_option maxRecDepth 100000 in
set_option maxHeartbeats 1000000 in
theorem one_ok (r mp : Nat) (v : Value) (ts : List Mark) (p op q : Nat) (x : Ex) (w : World) (h : Rdr r mp v ts p w) (hp : p < ts.length) (hop : op < 256)
    (cp : ∀ W, w.grownBy W (some r) → Rdr r mp v ts (p + 1) W → Calls Tryd.prog 42 #[.pointer (some ⟨r, 0, none⟩), .int .i64 6] W (Post r mp v ts W (.ok (x, q)))) :
    Calls Tryd.prog 38 #[.pointer (some ⟨r, 0, none⟩), .int .u8 (op : Int)] w (Post r mp v ts w (.ok (⟨op, 0, ByteArray.empty, [x]⟩, q))) := by
  have b0 := (Below.refl w.heap.size w).alloc (Nat.le_refl _) (.cells #[.int .u8 0, .int .i64 0, .string ⟨#[]⟩, .slice none 0 0] 26)
  obtain ⟨y0, y1, hg, hr⟩ := moved (h.step b0) hp
  have hfew : (p : Int) < 140737488355328 := by have := h.few; omega
  have HG := hid (grown_on (grown_below b0 (some r)) hg)
  have HR := hid hr
  have H := hid h
  have HOP := hid hop
  clear h hp hg hr b0 hop
  go_enter Tryd.func38, Tryd.ntmps38
  go_wp2_with (fail)
  refine (cp _ HG.out HR.out).mono ?_
  rintro e w2 ⟨g2, s, rfl, st, h2⟩
  obtain ⟨ao, cap, rfl⟩ := st.form
  have hbx := box_kept H.out.lt g2
  have b3 := (Below.refl w2.heap.size w2).alloc (Nat.le_refl _) (.cells (ex4 x (.slice ao x.args.length cap)) 26)
  have hbx3 := (b3.block _ (Array.getElem?_eq_some_iff.1 hbx).1).trans hbx
  have hlt2 := (Array.getElem?_eq_some_iff.1 hbx).1
  have G2 := hid (grown_on (grown_on HG.out g2) (grown_below b3 _))
  have H2 := hid (h2.step b3)
  have ST := hid st
  have B3 := hid b3
  have HL := hid hlt2
  clear g2 h2 st cp b3 hbx hlt2 y0 y1
  rename_i K hK
  refine hK _ _ ?_
  clear hK K
  obtain ⟨ie, hie, hz, hsz⟩ := inf25
  refine wpList_buildSlice rfl 24 26 1 _ rfl (ex4 x (.slice ao x.args.length cap)) ie z25 Tryd.underlying24 hie hz (by rw [hsz]; decide) (by rw [hsz]; decide) (by rw [hsz]; simp only [List.map_toArray, List.map_cons, List.map_nil]; exact fill1 x ao x.args.length cap) ?_
  clear hie hz hsz
  go_wp2_with (refine wpList_store_row rfl 26 _ _ rfl w.heap.size #[.int .u8 (op : Int), .int .i64 0, .string ⟨#[]⟩, .slice (some ⟨w2.heap.size, 0, none⟩) 1 1] rfl rfl 26 _ hbx3 info25 rfl (by simp [Value.oneCell']) ?_)
  refine bodyPost_ret (results_cell_row rfl _ _ w.heap.size 26 #[.int .u8 (op : Int), .int .i64 0, .string ⟨#[]⟩, .slice (some ⟨w2.heap.size, 0, none⟩) 1 1] (0, 0) _ rfl (setRow_heap _ _ _ _ _ _ hbx3) Tryd.underlying26 rfl info25) rfl ⟨grown_setRow G2.out _, _, rfl, ?_, H.out.setRow H2.out _⟩
  refine StP.one op HOP.out w2.heap.size (by have := HL.out; omega) ?_ ((setRow_other _ _ _ _ (by have := HL.out; omega)).trans (heap_alloc_new w2 _))
  refine StP.carryN (fun b hb hl => ?_) (fun b _ hb => ?_) _ x _ (Nat.le_refl _) ST.out
  · simp [World.setCell] at hb
    exact (setRow_other _ _ _ _ (by omega)).trans (B3.out.block b hl)
  · simp [World.setCell] at hb
    show w.heap.size ≤ b
    omega
end Go.Proofs.YtkieljleopbhoabDoor.Lex
namespace Go.Proofs.YtkieljleopbhoabDoor.Lex
open Go.ChangeShapes Go.WideShapes Go.ChangeAt Go.RowKit Go.Joins
/-- What comes of a call, handed on from a box. -/
theorem Post.boxed {r mp : Nat} {v : Value} {ts : List Mark} {p q : Nat} {x : Ex} {s : Value} {w w2 : World} (h : Rdr r mp v ts p w) (b0 : Below w.heap.size w (w.alloc (.cells #[.int .u8 0, .int .i64 0, .string ⟨#[]⟩, .slice none 0 0] 26))) (g2 : (w.alloc (.cells #[.int .u8 0, .int .i64 0, .string ⟨#[]⟩, .slice none 0 0] 26)).grownBy w2 (some r)) (st : StP (fun b => (w.alloc (.cells #[.int .u8 0, .int .i64 0, .string ⟨#[]⟩, .slice none 0 0] 26)).heap.size ≤ b) w2 x s) (h2 : Rdr r mp v ts q w2) (d : Array Value) :
    w.grownBy (w2.setRow w.heap.size d) (some r) ∧ StP (fun b => w.heap.size ≤ b) (w2.setRow w.heap.size d) x s ∧ Rdr r mp v ts q (w2.setRow w.heap.size d) := by
  refine ⟨grown_setRow (grown_on (grown_below b0 _) g2) d, ?_, h.setRow h2 d⟩
  refine StP.carryN (fun b hb hl => ?_) (fun b _ hb => ?_) _ x _ (Nat.le_refl _) st
  · simp at hb
    exact setRow_other _ _ _ _ (by omega)
  · simp at hb
    show w.heap.size ≤ b
    omega
theorem box_there {w w2 : World} {r : Nat} {c : Array Value} {t : TypeId} (hr : r < w.heap.size) (g : (w.alloc (.cells c t)).grownBy w2 (some r)) : w2.heap[w.heap.size]? = some (.cells c t (0, 0)) := by
  rw [g.block _ (by simp) (fun e => by injection e; omega)]
  exact heap_alloc_new w _
set_option maxRecDepth 100000 in
set_option maxHeartbeats 1000000 in
theorem neg_ok (r mp : Nat) (v : Value) (ts : List Mark) (p q : Nat) (x : Ex) (w : World) (h : Rdr r mp v ts p w)
    (c : ∀ W, Below w.heap.size w W → Calls Tryd.prog 38 #[.pointer (some ⟨r, 0, none⟩), .int .u8 4] W (Post r mp v ts W (.ok (x, q)))) : Calls Tryd.prog 37 #[.pointer (some ⟨r, 0, none⟩)] w (Post r mp v ts w (.ok (x, q))) := by
  have b0 := (Below.refl w.heap.size w).alloc (Nat.le_refl _) (.cells #[.int .u8 0, .int .i64 0, .string ⟨#[]⟩, .slice none 0 0] 26)
  have B0 := hid b0
  have H := hid h
  clear h b0
  go_enter Tryd.func37, Tryd.ntmps37
  go_wp2_with (first
    | (go_at_call 38; refine (c _ B0.out).mono ?_; rintro e w2 ⟨g2, s, rfl, st, h2⟩; obtain ⟨ao, cap, rfl⟩ := st.form; have hbx := box_there H.out.lt g2; have Q := hid (Post.boxed H.out B0.out g2 st h2 (ex4 x (.slice ao x.args.length cap))); clear g2 st h2 c)
    | (refine wpList_store_row rfl 26 _ _ rfl w.heap.size (ex4 x (.slice ao x.args.length cap)) rfl rfl 26 _ hbx info25 rfl (by simp [Value.oneCell', ex4]) ?_))
  exact bodyPost_ret (results_cell_row rfl _ _ w.heap.size 26 (ex4 x (.slice ao x.args.length cap)) (0, 0) _ rfl (setRow_heap _ _ _ _ _ _ hbx) Tryd.underlying26 rfl info25) rfl ⟨Q.out.1, _, rfl, Q.out.2.1, Q.out.2.2⟩
set_option maxRecDepth 100000 in
set_option maxHeartbeats 1000000 in
theorem neg_bad (r mp : Nat) (v : Value) (ts : List Mark) (n q : Nat) (w : World)
    (c : ∀ W, Below w.heap.size w W → Calls Tryd.prog 38 #[.pointer (some ⟨r, 0, none⟩), .int .u8 4] W (Post r mp v ts W (.error (n, q)))) : Calls Tryd.prog 37 #[.pointer (some ⟨r, 0, none⟩)] w (Post r mp v ts w (.error (n, q))) := by
  have b0 := (Below.refl w.heap.size w).alloc (Nat.le_refl _) (.cells #[.int .u8 0, .int .i64 0, .string ⟨#[]⟩, .slice none 0 0] 26)
  have B0 := hid b0
  clear b0
  go_enter Tryd.func37, Tryd.ntmps37
  go_wp2_with (go_at_call 38; refine (c _ B0.out).mono ?_; rintro e w2 ⟨g2, rfl, h2⟩; have G2 := hid g2; have H2 := hid h2; clear g2 h2 c)
  exact ⟨rfl, grown_on (grown_below B0.out _) G2.out, rfl, H2.out⟩
set_option maxRecDepth 100000 in
set_option maxHeartbeats 1000000 in
theorem not_ok (r mp : Nat) (v : Value) (ts : List Mark) (p q : Nat) (x : Ex) (w : World) (h : Rdr r mp v ts p w)
    (c : ∀ W, Below w.heap.size w W → Calls Tryd.prog 38 #[.pointer (some ⟨r, 0, none⟩), .int .u8 5] W (Post r mp v ts W (.ok (x, q)))) : Calls Tryd.prog 39 #[.pointer (some ⟨r, 0, none⟩)] w (Post r mp v ts w (.ok (x, q))) := by
  have b0 := (Below.refl w.heap.size w).alloc (Nat.le_refl _) (.cells #[.int .u8 0, .int .i64 0, .string ⟨#[]⟩, .slice none 0 0] 26)
  have B0 := hid b0
  have H := hid h
  clear h b0
  go_enter Tryd.func39, Tryd.ntmps39
  go_wp2_with (first
    | (go_at_call 38; refine (c _ B0.out).mono ?_; rintro e w2 ⟨g2, s, rfl, st, h2⟩; obtain ⟨ao, cap, rfl⟩ := st.form; have hbx := box_there H.out.lt g2; have Q := hid (Post.boxed H.out B0.out g2 st h2 (ex4 x (.slice ao x.args.length cap))); clear g2 st h2 c)
    | (refine wpList_store_row rfl 26 _ _ rfl w.heap.size (ex4 x (.slice ao x.args.length cap)) rfl rfl 26 _ hbx info25 rfl (by simp [Value.oneCell', ex4]) ?_))
  exact bodyPost_ret (results_cell_row rfl _ _ w.heap.size 26 (ex4 x (.slice ao x.args.length cap)) (0, 0) _ rfl (setRow_heap _ _ _ _ _ _ hbx) Tryd.underlying26 rfl info25) rfl ⟨Q.out.1, _, rfl, Q.out.2.1, Q.out.2.2⟩
set_option maxRecDepth 100000 in
set_option maxHeartbeats 1000000 in
theorem not_bad (r mp : Nat) (v : Value) (ts : List Mark) (n q : Nat) (w : World)
    (c : ∀ W, Below w.heap.size w W → Calls Tryd.prog 38 #[.pointer (some ⟨r, 0, none⟩), .int .u8 5] W (Post r mp v ts W (.error (n, q)))) : Calls Tryd.prog 39 #[.pointer (some ⟨r, 0, none⟩)] w (Post r mp v ts w (.error (n, q))) := by
  have b0 := (Below.refl w.heap.size w).alloc (Nat.le_refl _) (.cells #[.int .u8 0, .int .i64 0, .string ⟨#[]⟩, .slice none 0 0] 26)
  have B0 := hid b0
  clear b0
  go_enter Tryd.func39, Tryd.ntmps39
  go_wp2_with (go_at_call 38; refine (c _ B0.out).mono ?_; rintro e w2 ⟨g2, rfl, h2⟩; have G2 := hid g2; have H2 := hid h2; clear g2 h2 c)
  exact ⟨rfl, grown_on (grown_below B0.out _) G2.out, rfl, H2.out⟩
set_option maxRecDepth 100000 in
set_option maxHeartbeats 1000000 in
theorem pre_ok (r mp : Nat) (v : Value) (ts : List Mark) (p q : Nat) (x : Ex) (w : World) (h : Rdr r mp v ts p w)
    (c : ∀ W, Below w.heap.size w W → Calls Tryd.prog 38 #[.pointer (some ⟨r, 0, none⟩), .int .u8 19] W (Post r mp v ts W (.ok (x, q)))) : Calls Tryd.prog 40 #[.pointer (some ⟨r, 0, none⟩)] w (Post r mp v ts w (.ok (x, q))) := by
  have b0 := (Below.refl w.heap.size w).alloc (Nat.le_refl _) (.cells #[.int .u8 0, .int .i64 0, .string ⟨#[]⟩, .slice none 0 0] 26)
  have B0 := hid b0
  have H := hid h
  clear h b0
  go_enter Tryd.func40, Tryd.ntmps40
  go_wp2_with (first
    | (go_at_call 38; refine (c _ B0.out).mono ?_; rintro e w2 ⟨g2, s, rfl, st, h2⟩; obtain ⟨ao, cap, rfl⟩ := st.form; have hbx := box_there H.out.lt g2; have Q := hid (Post.boxed H.out B0.out g2 st h2 (ex4 x (.slice ao x.args.length cap))); clear g2 st h2 c)
    | (refine wpList_store_row rfl 26 _ _ rfl w.heap.size (ex4 x (.slice ao x.args.length cap)) rfl rfl 26 _ hbx info25 rfl (by simp [Value.oneCell', ex4]) ?_))
  exact bodyPost_ret (results_cell_row rfl _ _ w.heap.size 26 (ex4 x (.slice ao x.args.length cap)) (0, 0) _ rfl (setRow_heap _ _ _ _ _ _ hbx) Tryd.underlying26 rfl info25) rfl ⟨Q.out.1, _, rfl, Q.out.2.1, Q.out.2.2⟩
set_option maxRecDepth 100000 in
set_option maxHeartbeats 1000000 in
theorem pre_bad (r mp : Nat) (v : Value) (ts : List Mark) (n q : Nat) (w : World)
    (c : ∀ W, Below w.heap.size w W → Calls Tryd.prog 38 #[.pointer (some ⟨r, 0, none⟩), .int .u8 19] W (Post r mp v ts W (.error (n, q)))) : Calls Tryd.prog 40 #[.pointer (some ⟨r, 0, none⟩)] w (Post r mp v ts w (.error (n, q))) := by
  have b0 := (Below.refl w.heap.size w).alloc (Nat.le_refl _) (.cells #[.int .u8 0, .int .i64 0, .string ⟨#[]⟩, .slice none 0 0] 26)
  have B0 := hid b0
  clear b0
  go_enter Tryd.func40, Tryd.ntmps40
  go_wp2_with (go_at_call 38; refine (c _ B0.out).mono ?_; rintro e w2 ⟨g2, rfl, h2⟩; have G2 := hid g2; have H2 := hid h2; clear g2 h2 c)
  exact ⟨rfl, grown_on (grown_below B0.out _) G2.out, rfl, H2.out⟩
set_option maxRecDepth 100000 in
set_option maxHeartbeats 1000000 in
theorem brackets_bad (r mp : Nat) (v : Value) (ts : List Mark) (p n q : Nat) (w : World) (h : Rdr r mp v ts p w) (hp : p < ts.length)
    (cp : ∀ W, w.grownBy W (some r) → Rdr r mp v ts (p + 1) W → Calls Tryd.prog 42 #[.pointer (some ⟨r, 0, none⟩), .int .i64 0] W (Post r mp v ts W (.error (n, q)))) :
    Calls Tryd.prog 36 #[.pointer (some ⟨r, 0, none⟩)] w (Post r mp v ts w (.error (n, q))) := by
  have b0 := (Below.refl w.heap.size w).alloc (Nat.le_refl _) (.cells #[.int .u8 0, .int .i64 0, .string ⟨#[]⟩, .slice none 0 0] 26)
  obtain ⟨y0, y1, hg, hr⟩ := moved (h.step b0) hp
  have hfew : (p : Int) < 140737488355328 := by have := h.few; omega
  have HG := hid (grown_on (grown_below b0 (some r)) hg)
  have HR := hid hr
  clear h hp hg hr b0
  go_enter Tryd.func36, Tryd.ntmps36
  go_wp2_with (go_at_call 42; refine (cp _ HG.out HR.out).mono ?_; rintro e w2 ⟨g2, rfl, h2⟩; have G2 := hid g2; have H2 := hid h2; clear g2 h2 cp)
  exact ⟨rfl, grown_on HG.out G2.out, rfl, H2.out⟩
set_option maxRecDepth 100000 in
set_option maxHeartbeats 1000000 in
theorem brackets_open (r mp : Nat) (v : Value) (ts : List Mark) (p q : Nat) (x : Ex) (w : World) (h : Rdr r mp v ts p w) (hp : p < ts.length)
    (cp : ∀ W, w.grownBy W (some r) → Rdr r mp v ts (p + 1) W → Calls Tryd.prog 42 #[.pointer (some ⟨r, 0, none⟩), .int .i64 0] W (Post r mp v ts W (.ok (x, q))))
    (hm : isMk (markAt ts q) 3 ⟨#[41]⟩ = false) :
    Calls Tryd.prog 36 #[.pointer (some ⟨r, 0, none⟩)] w (Post r mp v ts w (.error (5, q))) := by
  have b0 := (Below.refl w.heap.size w).alloc (Nat.le_refl _) (.cells #[.int .u8 0, .int .i64 0, .string ⟨#[]⟩, .slice none 0 0] 26)
  obtain ⟨y0, y1, hg, hr⟩ := moved (h.step b0) hp
  have hfew : (p : Int) < 140737488355328 := by have := h.few; omega
  have HG := hid (grown_on (grown_below b0 (some r)) hg)
  have HR := hid hr
  have c3 := fun W hW => pass_bad 3 ⟨#[41]⟩ r mp v ts q W hW hm
  simp only [Int.cast_ofNat_Int] at c3
  clear h hp hg hr b0 hm
  go_enter Tryd.func36, Tryd.ntmps36
  go_wp2_with (first
    | (go_at_call 42; refine (cp _ HG.out HR.out).mono ?_; rintro e w2 ⟨g2, s, rfl, st, h2⟩; obtain ⟨ao, cap, rfl⟩ := st.form; have b3 := (Below.refl w2.heap.size w2).alloc (Nat.le_refl _) (.cells (ex4 x (.slice ao x.args.length cap)) 26); have G2 := hid (grown_on (grown_on HG.out g2) (grown_below b3 _)); have H2 := hid (h2.step b3); clear g2 h2 st b3 cp)
    | (go_at_call 62; refine (c3 _ H2.out).mono ?_; rintro e w4 ⟨rfl, b4⟩; have B4 := hid b4; clear b4 c3))
  exact ⟨rfl, grown_on G2.out (grown_below B4.out _), rfl, H2.out.step B4.out⟩
set_option maxRecDepth 100000 in
set_option maxHeartbeats 1000000 in
theorem brackets_ok (r mp : Nat) (v : Value) (ts : List Mark) (p q : Nat) (x : Ex) (w : World) (h : Rdr r mp v ts p w) (hp : p < ts.length)
    (cp : ∀ W, w.grownBy W (some r) → Rdr r mp v ts (p + 1) W → Calls Tryd.prog 42 #[.pointer (some ⟨r, 0, none⟩), .int .i64 0] W (Post r mp v ts W (.ok (x, q))))
    (hm : isMk (markAt ts q) 3 ⟨#[41]⟩ = true) :
    Calls Tryd.prog 36 #[.pointer (some ⟨r, 0, none⟩)] w (Post r mp v ts w (.ok (x, q + 1))) := by
  have b0 := (Below.refl w.heap.size w).alloc (Nat.le_refl _) (.cells #[.int .u8 0, .int .i64 0, .string ⟨#[]⟩, .slice none 0 0] 26)
  obtain ⟨y0, y1, hg, hr⟩ := moved (h.step b0) hp
  have hfew : (p : Int) < 140737488355328 := by have := h.few; omega
  have HG := hid (grown_on (grown_below b0 (some r)) hg)
  have HR := hid hr
  have H := hid h
  have c3 := fun W hW => pass_ok 3 (by omega) ⟨#[41]⟩ r mp v ts q W hW hm
  simp only [Int.cast_ofNat_Int] at c3
  clear h hp hg hr b0 hm
  go_enter Tryd.func36, Tryd.ntmps36
  go_wp2_with (first
    | (go_at_call 42; refine (cp _ HG.out HR.out).mono ?_; rintro e w2 ⟨g2, s, rfl, st, h2⟩; obtain ⟨ao, cap, rfl⟩ := st.form; have b3 := (Below.refl w2.heap.size w2).alloc (Nat.le_refl _) (.cells (ex4 x (.slice ao x.args.length cap)) 26); have hbx := box_kept H.out.lt g2; have HBX := hid ((b3.block _ (Array.getElem?_eq_some_iff.1 hbx).1).trans hbx); have HL := hid (Array.getElem?_eq_some_iff.1 hbx).1; have ST := hid st; have B3 := hid b3; have G2 := hid (grown_on (grown_on HG.out g2) (grown_below b3 _)); have H2 := hid (h2.step b3); clear g2 h2 st b3 cp hbx)
    | (go_at_call 62; refine (c3 _ H2.out).mono ?_; rintro e w4 ⟨rfl, g4, h4⟩; have hbx4 := (g4.block _ (Array.getElem?_eq_some_iff.1 HBX.out).1 (fun e => by injection e; have := H.out.lt; omega)).trans HBX.out; have hx4 := (g4.block _ (Array.getElem?_eq_some_iff.1 (heap_alloc_new w2 _)).1 (fun e => by injection e; have := H.out.lt; have := HL.out; omega)).trans (heap_alloc_new w2 _); have G4 := hid g4; have H4 := hid h4; clear g4 h4 c3)
    | (refine wpList_load_row rfl 26 _ rfl w2.heap.size rfl 26 (ex4 x (.slice ao x.args.length cap)) (0, 0) _ hx4 Tryd.underlying26 rfl info25 ?_)
    | (refine wpList_store_row rfl 26 _ _ rfl w.heap.size (ex4 x (.slice ao x.args.length cap)) rfl rfl 26 _ hbx4 info25 rfl (by simp [Value.oneCell', ex4]) ?_))
  refine bodyPost_ret (results_cell_row rfl _ _ w.heap.size 26 (ex4 x (.slice ao x.args.length cap)) (0, 0) _ rfl (setRow_heap _ _ _ _ _ _ hbx4) Tryd.underlying26 rfl info25) rfl ⟨grown_setRow (grown_on G2.out G4.out) _, _, rfl, ?_, H.out.setRow H4.out _⟩
  refine StP.carryN (fun b hb hl => ?_) (fun b _ hb => ?_) _ x _ (Nat.le_refl _) ST.out
  · simp [World.setCell] at hb
    refine (setRow_other _ _ _ _ (by omega)).trans ((G4.out.block b (by have := B3.out.size; omega) (fun e => by injection e; have := H.out.lt; omega)).trans (B3.out.block b hl))
  · simp [World.setCell] at hb
    show w.heap.size ≤ b
    omega
end Go.Proofs.YtkieljleopbhoabDoor.Lex
namespace Go.Proofs.YtkieljleopbhoabDoor.Lex
open Go.ChangeShapes Go.WideShapes Go.ChangeAt Go.RowKit Go.Joins
theorem kept {W W' : World} {r k : Nat} {o : Obj} (h : W.heap[k]? = some o) (g : W.grownBy W' (some r)) (hk : r < k) : W'.heap[k]? = some o :=
  (g.block k (Array.getElem?_eq_some_iff.1 h).1 (fun e => by injection e; omega)).trans h
/-- A part that was read, in a row of its own behind a place. -/
structure Keep (N : Nat) (W : World) (b : Nat) (x : Ex) (s : Value) : Prop where
  row : W.heap[b]? = some (.cells (ex4 x s) 26 (0, 0))
  st : StP (fun k => N < k) W x s
  lt : N < b
theorem Keep.grown {N : Nat} {W W' : World} {b : Nat} {x : Ex} {s : Value} {r : Nat} (h : Keep N W b x s) (g : W.grownBy W' (some r)) (hr : r < N) : Keep N W' b x s :=
  ⟨kept h.row g (by have := h.lt; omega), h.st.carry fun k hk hl => g.block k hl (fun e => by injection e; omega), h.lt⟩
theorem Keep.new {N : Nat} {W0 w2 : World} {x : Ex} {s : Value} (h : StP (fun b => W0.heap.size ≤ b) w2 x s) (hN : N < W0.heap.size) (hl : W0.heap.size ≤ w2.heap.size) : Keep N (w2.alloc (.cells (ex4 x s) 26)) w2.heap.size x s :=
  ⟨heap_alloc_new w2 _, StP.carryN (fun k _ hk => Below.heap_alloc _ _ _ hk) (fun k _ hk => by show N < k; have : W0.heap.size ≤ k := hk; omega) _ x s (Nat.le_refl _) h, by omega⟩
theorem fold4 (c : Array Value) (o : Nat) (a b d e : Value) : Array.foldl (fun cs (x : Value × Nat) => cs.setIfInBounds (o + x.snd) x.fst) c (#[a, b, d, e].zipIdx) = (((c.setIfInBounds (o + 0) a).setIfInBounds (o + 1) b).setIfInBounds (o + 2) d).setIfInBounds (o + 3) e := by rfl
theorem fill3 (x y z : Ex) (a b c : Option Addr) (l m n i j k : Nat) : Instr.fill (fun i => some (i * 4, 4)) ((Array.range (3 * 4)).map (z25.cells[· % z25.cells.size]!)) [(0, exV x (.slice a l i)), (1, exV y (.slice b m j)), (2, exV z (.slice c n k))] = some (ex4 x (.slice a l i) ++ ex4 y (.slice b m j) ++ ex4 z (.slice c n k)) := by
  have e : ((Array.range (3 * 4)).map (z25.cells[· % z25.cells.size]!)) = #[.int .u8 0, .int .i64 0, .string ⟨#[]⟩, .slice none 0 0, .int .u8 0, .int .i64 0, .string ⟨#[]⟩, .slice none 0 0, .int .u8 0, .int .i64 0, .string ⟨#[]⟩, .slice none 0 0] := by kernel_rfl
  rw [e]
  simp only [Instr.fill, show (exV x (.slice a l i)).cells = ex4 x (.slice a l i) from rfl, show (exV y (.slice b m j)).cells = ex4 y (.slice b m j) from rfl, show (exV z (.slice c n k)).cells = ex4 z (.slice c n k) from rfl, ex4, fold4]
  simp
/-- What has three parts, in new memory. -/
theorem StP.three {ok : Nat → Prop} {W : World} {x y z : Ex} {s t u : Value} (op : Nat) (hop : op < 256) (g : Nat) (hg : ok g) (hx : StP ok W x s) (hy : StP ok W y t) (hz : StP ok W z u) (hc : W.heap[g]? = some (.cells (ex4 x s ++ ex4 y t ++ ex4 z u) 26 (0, 0))) : StP ok W ⟨op, 0, ByteArray.empty, [x, y, z]⟩ (.slice (some ⟨g, 0, none⟩) 3 3) := by
  refine StP.intro ⟨op, 0, ByteArray.empty, [x, y, z]⟩ (some ⟨g, 0, none⟩) 3 (fun i => [s, t, u].getD i s) hop (by simp) (by show ByteArray.empty.size ≤ _; decide) (by simp) (by simp) (.inr ⟨g, 0, rfl, hg, fun i hi => ?_⟩) (fun i hi => ?_)
  · have hi3 : i < 3 := hi
    rcases (by omega : i = 0 ∨ i = 1 ∨ i = 2) with rfl | rfl | rfl <;> refine ⟨?_, ?_, ?_, ?_⟩ <;> (rw [cell_of_row _ _ _ _ 26 (0, 0) hc]; rfl)
  · have hi3 : i < 3 := hi
    rcases (by omega : i = 0 ∨ i = 1 ∨ i = 2) with rfl | rfl | rfl
    · exact hx
    · exact hy
    · exact hz
set_option maxRecDepth 100000 in
set_option maxHeartbeats 2000000 in
theorem choice_ok (r mp : Nat) (v : Value) (ts : List Mark) (p : Nat) (w : World) (h : Rdr r mp v ts p w) (hp : p < ts.length) (x1 : Ex) (q1 : Nat)
    (cp1 : ∀ W, w.grownBy W (some r) → Rdr r mp v ts (p + 1) W → Calls Tryd.prog 42 #[.pointer (some ⟨r, 0, none⟩), .int .i64 0] W (Post r mp v ts W (.ok (x1, q1))))
    (hm1 : isMk (markAt ts q1) 1 ⟨#[116, 104, 101, 110]⟩ = true) (x2 : Ex) (q2 : Nat)
    (cp2 : ∀ W, w.grownBy W (some r) → Rdr r mp v ts (q1 + 1) W → Calls Tryd.prog 42 #[.pointer (some ⟨r, 0, none⟩), .int .i64 0] W (Post r mp v ts W (.ok (x2, q2))))
    (hm2 : isMk (markAt ts q2) 1 ⟨#[101, 108, 115, 101]⟩ = true) (x3 : Ex) (q3 : Nat)
    (cp3 : ∀ W, w.grownBy W (some r) → Rdr r mp v ts (q2 + 1) W → Calls Tryd.prog 42 #[.pointer (some ⟨r, 0, none⟩), .int .i64 0] W (Post r mp v ts W (.ok (x3, q3)))) :
    Calls Tryd.prog 63 #[.pointer (some ⟨r, 0, none⟩)] w (Post r mp v ts w (.ok (⟨17, 0, ByteArray.empty, [x1, x2, x3]⟩, q3))) := by
  have b0 := (Below.refl w.heap.size w).alloc (Nat.le_refl _) (.cells #[.int .u8 0, .int .i64 0, .string ⟨#[]⟩, .slice none 0 0] 26)
  obtain ⟨y0, y1, hg, hr⟩ := moved (h.step b0) hp
  have hfew : (p : Int) < 140737488355328 := by have := h.few; omega
  have HG := hid (grown_on (grown_below b0 (some r)) hg)
  have HR := hid hr
  have H := hid h
  have HS := hid (show w.heap.size < ((w.alloc (.cells #[.int .u8 0, .int .i64 0, .string ⟨#[]⟩, .slice none 0 0] 26)).setCell ⟨r, 1, none⟩ (.int .i64 ((p : Int) + 1))).heap.size by simp [World.setCell])
  have HX := hid (show ((w.alloc (.cells #[.int .u8 0, .int .i64 0, .string ⟨#[]⟩, .slice none 0 0] 26)).setCell ⟨r, 1, none⟩ (.int .i64 ((p : Int) + 1))).heap[w.heap.size]? = _ from box_kept h.lt (World.grownBy.refl _ _))
  have c1 := fun W hW => pass_ok 1 (by omega) ⟨#[116, 104, 101, 110]⟩ r mp v ts q1 W hW hm1
  simp only [Int.cast_ofNat_Int] at c1
  have c2 := fun W hW => pass_ok 1 (by omega) ⟨#[101, 108, 115, 101]⟩ r mp v ts q2 W hW hm2
  simp only [Int.cast_ofNat_Int] at c2
  clear h hp hg hr b0 hm1 hm2
  go_enter Tryd.func63, Tryd.ntmps63
  go_wp2_with (first
    | (go_at_call 42; refine (cp1 _ HG.out HR.out).mono ?_; rintro e u1 ⟨g2, s1, rfl, st, h2⟩; obtain ⟨ao1, cap1, rfl⟩ := st.form; have b3 := (Below.refl u1.heap.size u1).alloc (Nat.le_refl _) (.cells (ex4 x1 (.slice ao1 x1.args.length cap1)) 26); have KK1 := hid (Keep.new st HS.out g2.size); have gg := grown_on g2 (grown_below b3 (some r)); have GA1 := hid (grown_on HG.out gg); have XA1 := hid (kept HX.out gg H.out.lt); have SA1 := hid (Nat.lt_of_lt_of_le HS.out gg.size); have RA1 := hid (h2.step b3); clear g2 h2 st b3 gg cp1)
    | (go_at_call 62; refine (c1 _ RA1.out).mono ?_; rintro e t1 ⟨rfl, gg, h4⟩; have GP1 := hid (grown_on GA1.out gg); have XP1 := hid (kept XA1.out gg H.out.lt); have SP1 := hid (Nat.lt_of_lt_of_le SA1.out gg.size); have RP1 := hid h4; have KK1 := hid (KK1.out.grown gg H.out.lt); clear gg h4 c1)
    | (go_at_call 42; refine (cp2 _ GP1.out RP1.out).mono ?_; rintro e u2 ⟨g2, s2, rfl, st, h2⟩; obtain ⟨ao2, cap2, rfl⟩ := st.form; have b3 := (Below.refl u2.heap.size u2).alloc (Nat.le_refl _) (.cells (ex4 x2 (.slice ao2 x2.args.length cap2)) 26); have KK2 := hid (Keep.new st SP1.out g2.size); have gg := grown_on g2 (grown_below b3 (some r)); have GA2 := hid (grown_on GP1.out gg); have XA2 := hid (kept XP1.out gg H.out.lt); have SA2 := hid (Nat.lt_of_lt_of_le SP1.out gg.size); have RA2 := hid (h2.step b3); have KK1 := hid (KK1.out.grown gg H.out.lt); clear g2 h2 st b3 gg cp2)
    | (go_at_call 62; refine (c2 _ RA2.out).mono ?_; rintro e t2 ⟨rfl, gg, h4⟩; have GP2 := hid (grown_on GA2.out gg); have XP2 := hid (kept XA2.out gg H.out.lt); have SP2 := hid (Nat.lt_of_lt_of_le SA2.out gg.size); have RP2 := hid h4; have KK1 := hid (KK1.out.grown gg H.out.lt); have KK2 := hid (KK2.out.grown gg H.out.lt); clear gg h4 c2)
    | (go_at_call 42; refine (cp3 _ GP2.out RP2.out).mono ?_; rintro e u3 ⟨g2, s3, rfl, st, h2⟩; obtain ⟨ao3, cap3, rfl⟩ := st.form; have b3 := (Below.refl u3.heap.size u3).alloc (Nat.le_refl _) (.cells (ex4 x3 (.slice ao3 x3.args.length cap3)) 26); have KK3 := hid (Keep.new st SP2.out g2.size); have gg := grown_on g2 (grown_below b3 (some r)); have GA3 := hid (grown_on GP2.out gg); have XA3 := hid (kept XP2.out gg H.out.lt); have SA3 := hid (Nat.lt_of_lt_of_le SP2.out gg.size); have RA3 := hid (h2.step b3); have KK1 := hid (KK1.out.grown gg H.out.lt); have KK2 := hid (KK2.out.grown gg H.out.lt); clear g2 h2 st b3 gg cp3)
    | (refine wpList_load_row rfl 26 _ rfl u1.heap.size rfl 26 (ex4 x1 (.slice ao1 x1.args.length cap1)) (0, 0) _ KK1.out.row Tryd.underlying26 rfl info25 ?_)
    | (refine wpList_load_row rfl 26 _ rfl u2.heap.size rfl 26 (ex4 x2 (.slice ao2 x2.args.length cap2)) (0, 0) _ KK2.out.row Tryd.underlying26 rfl info25 ?_)
    | (refine wpList_load_row rfl 26 _ rfl u3.heap.size rfl 26 (ex4 x3 (.slice ao3 x3.args.length cap3)) (0, 0) _ KK3.out.row Tryd.underlying26 rfl info25 ?_)
    | (obtain ⟨ie, hie, hz, hsz⟩ := inf25; refine wpList_buildSlice rfl 24 26 3 _ rfl (ex4 x1 (.slice ao1 x1.args.length cap1) ++ ex4 x2 (.slice ao2 x2.args.length cap2) ++ ex4 x3 (.slice ao3 x3.args.length cap3)) ie z25 Tryd.underlying24 hie hz (by rw [hsz]; decide) (by rw [hsz]; decide) (by rw [hsz]; simp only [List.map_toArray, List.map_cons, List.map_nil]; exact fill3 x1 x2 x3 ao1 ao2 ao3 _ _ _ _ _ _) ?_; clear hie hz hsz; have hbx7 := kept XA3.out (grown_below ((Below.refl _ _).alloc (Nat.le_refl _) (.cells (ex4 x1 (.slice ao1 x1.args.length cap1) ++ ex4 x2 (.slice ao2 x2.args.length cap2) ++ ex4 x3 (.slice ao3 x3.args.length cap3)) 26)) (some r)) H.out.lt)
    | (refine wpList_store_row rfl 26 _ _ rfl w.heap.size #[.int .u8 17, .int .i64 0, .string ⟨#[]⟩, .slice (some ⟨u3.heap.size + 1, 0, none⟩) 3 3] rfl rfl 26 _ hbx7 info25 rfl (by simp [Value.oneCell']) ?_))
  have b7 := (Below.refl (u3.alloc (.cells (ex4 x3 (.slice ao3 x3.args.length cap3)) 26)).heap.size (u3.alloc (.cells (ex4 x3 (.slice ao3 x3.args.length cap3)) 26))).alloc (Nat.le_refl _) (.cells (ex4 x1 (.slice ao1 x1.args.length cap1) ++ ex4 x2 (.slice ao2 x2.args.length cap2) ++ ex4 x3 (.slice ao3 x3.args.length cap3)) 26)
  have hl3 := KK3.out.lt
  have hc := heap_alloc_new (u3.alloc (.cells (ex4 x3 (.slice ao3 x3.args.length cap3)) 26)) (.cells (ex4 x1 (.slice ao1 x1.args.length cap1) ++ ex4 x2 (.slice ao2 x2.args.length cap2) ++ ex4 x3 (.slice ao3 x3.args.length cap3)) 26)
  rw [show (u3.alloc (.cells (ex4 x3 (.slice ao3 x3.args.length cap3)) 26)).heap.size = u3.heap.size + 1 by simp] at hc
  have cr : ∀ (x : Ex) (s : Value), StP (fun k => w.heap.size < k) (u3.alloc (.cells (ex4 x3 (.slice ao3 x3.args.length cap3)) 26)) x s → StP (fun k => w.heap.size ≤ k) (((u3.alloc (.cells (ex4 x3 (.slice ao3 x3.args.length cap3)) 26)).alloc (.cells (ex4 x1 (.slice ao1 x1.args.length cap1) ++ ex4 x2 (.slice ao2 x2.args.length cap2) ++ ex4 x3 (.slice ao3 x3.args.length cap3)) 26)).setRow w.heap.size #[.int .u8 17, .int .i64 0, .string ⟨#[]⟩, .slice (some ⟨u3.heap.size + 1, 0, none⟩) 3 3]) x s := fun x s hs =>
    StP.carryN (fun b hb hl => (setRow_other _ _ _ _ (by omega)).trans (b7.block b hl)) (fun b _ hb => Nat.le_of_lt hb) _ x s (Nat.le_refl _) hs
  refine bodyPost_ret (results_cell_row rfl _ _ w.heap.size 26 #[.int .u8 17, .int .i64 0, .string ⟨#[]⟩, .slice (some ⟨u3.heap.size + 1, 0, none⟩) 3 3] (0, 0) _ rfl (setRow_heap _ _ _ _ _ _ hbx7) Tryd.underlying26 rfl info25) rfl ⟨grown_setRow (grown_on GA3.out (grown_below b7 _)) _, _, rfl, ?_, H.out.setRow (RA3.out.step b7) _⟩
  exact StP.three 17 (by omega) (u3.heap.size + 1) (by show w.heap.size ≤ u3.heap.size + 1; omega) (cr _ _ KK1.out.st) (cr _ _ KK2.out.st) (cr _ _ KK3.out.st) ((setRow_other _ _ _ _ (by omega)).trans hc)
set_option maxRecDepth 100000 in
set_option maxHeartbeats 2000000 in
theorem choice_bad1 (r mp : Nat) (v : Value) (ts : List Mark) (p : Nat) (w : World) (h : Rdr r mp v ts p w) (hp : p < ts.length) (n q : Nat)
    (cp1 : ∀ W, w.grownBy W (some r) → Rdr r mp v ts (p + 1) W → Calls Tryd.prog 42 #[.pointer (some ⟨r, 0, none⟩), .int .i64 0] W (Post r mp v ts W (.error (n, q)))) :
    Calls Tryd.prog 63 #[.pointer (some ⟨r, 0, none⟩)] w (Post r mp v ts w (.error (n, q))) := by
  have b0 := (Below.refl w.heap.size w).alloc (Nat.le_refl _) (.cells #[.int .u8 0, .int .i64 0, .string ⟨#[]⟩, .slice none 0 0] 26)
  obtain ⟨y0, y1, hg, hr⟩ := moved (h.step b0) hp
  have hfew : (p : Int) < 140737488355328 := by have := h.few; omega
  have HG := hid (grown_on (grown_below b0 (some r)) hg)
  have HR := hid hr
  have H := hid h
  have HS := hid (show w.heap.size < ((w.alloc (.cells #[.int .u8 0, .int .i64 0, .string ⟨#[]⟩, .slice none 0 0] 26)).setCell ⟨r, 1, none⟩ (.int .i64 ((p : Int) + 1))).heap.size by simp [World.setCell])
  have HX := hid (show ((w.alloc (.cells #[.int .u8 0, .int .i64 0, .string ⟨#[]⟩, .slice none 0 0] 26)).setCell ⟨r, 1, none⟩ (.int .i64 ((p : Int) + 1))).heap[w.heap.size]? = _ from box_kept h.lt (World.grownBy.refl _ _))
  clear h hp hg hr b0
  go_enter Tryd.func63, Tryd.ntmps63
  go_wp2_with (first
    | (go_at_call 42; refine (cp1 _ HG.out HR.out).mono ?_; rintro e u1 ⟨gb, rfl, hb⟩; have GB := hid (grown_on HG.out gb); have HB := hid hb; clear gb hb cp1))
  exact ⟨rfl, GB.out, rfl, HB.out⟩
set_option maxRecDepth 100000 in
set_option maxHeartbeats 2000000 in
theorem choice_bad2 (r mp : Nat) (v : Value) (ts : List Mark) (p : Nat) (w : World) (h : Rdr r mp v ts p w) (hp : p < ts.length) (x1 : Ex) (q1 : Nat)
    (cp1 : ∀ W, w.grownBy W (some r) → Rdr r mp v ts (p + 1) W → Calls Tryd.prog 42 #[.pointer (some ⟨r, 0, none⟩), .int .i64 0] W (Post r mp v ts W (.ok (x1, q1))))
    (hm1 : isMk (markAt ts q1) 1 ⟨#[116, 104, 101, 110]⟩ = false) :
    Calls Tryd.prog 63 #[.pointer (some ⟨r, 0, none⟩)] w (Post r mp v ts w (.error (5, q1))) := by
  have b0 := (Below.refl w.heap.size w).alloc (Nat.le_refl _) (.cells #[.int .u8 0, .int .i64 0, .string ⟨#[]⟩, .slice none 0 0] 26)
  obtain ⟨y0, y1, hg, hr⟩ := moved (h.step b0) hp
  have hfew : (p : Int) < 140737488355328 := by have := h.few; omega
  have HG := hid (grown_on (grown_below b0 (some r)) hg)
  have HR := hid hr
  have H := hid h
  have HS := hid (show w.heap.size < ((w.alloc (.cells #[.int .u8 0, .int .i64 0, .string ⟨#[]⟩, .slice none 0 0] 26)).setCell ⟨r, 1, none⟩ (.int .i64 ((p : Int) + 1))).heap.size by simp [World.setCell])
  have HX := hid (show ((w.alloc (.cells #[.int .u8 0, .int .i64 0, .string ⟨#[]⟩, .slice none 0 0] 26)).setCell ⟨r, 1, none⟩ (.int .i64 ((p : Int) + 1))).heap[w.heap.size]? = _ from box_kept h.lt (World.grownBy.refl _ _))
  have c1 := fun W hW => pass_bad 1 ⟨#[116, 104, 101, 110]⟩ r mp v ts q1 W hW hm1
  simp only [Int.cast_ofNat_Int] at c1
  clear h hp hg hr b0 hm1
  go_enter Tryd.func63, Tryd.ntmps63
  go_wp2_with (first
    | (go_at_call 42; refine (cp1 _ HG.out HR.out).mono ?_; rintro e u1 ⟨g2, s1, rfl, st, h2⟩; obtain ⟨ao1, cap1, rfl⟩ := st.form; have b3 := (Below.refl u1.heap.size u1).alloc (Nat.le_refl _) (.cells (ex4 x1 (.slice ao1 x1.args.length cap1)) 26); have KK1 := hid (Keep.new st HS.out g2.size); have gg := grown_on g2 (grown_below b3 (some r)); have GA1 := hid (grown_on HG.out gg); have XA1 := hid (kept HX.out gg H.out.lt); have SA1 := hid (Nat.lt_of_lt_of_le HS.out gg.size); have RA1 := hid (h2.step b3); clear g2 h2 st b3 gg cp1)
    | (go_at_call 62; refine (c1 _ RA1.out).mono ?_; rintro e t1 ⟨rfl, b4⟩; have B4 := hid b4; clear b4 c1))
  exact ⟨rfl, grown_on GA1.out (grown_below B4.out _), rfl, RA1.out.step B4.out⟩
set_option maxRecDepth 100000 in
set_option maxHeartbeats 2000000 in
theorem choice_bad3 (r mp : Nat) (v : Value) (ts : List Mark) (p : Nat) (w : World) (h : Rdr r mp v ts p w) (hp : p < ts.length) (x1 : Ex) (q1 : Nat)
    (cp1 : ∀ W, w.grownBy W (some r) → Rdr r mp v ts (p + 1) W → Calls Tryd.prog 42 #[.pointer (some ⟨r, 0, none⟩), .int .i64 0] W (Post r mp v ts W (.ok (x1, q1))))
    (hm1 : isMk (markAt ts q1) 1 ⟨#[116, 104, 101, 110]⟩ = true) (n q : Nat)
    (cp2 : ∀ W, w.grownBy W (some r) → Rdr r mp v ts (q1 + 1) W → Calls Tryd.prog 42 #[.pointer (some ⟨r, 0, none⟩), .int .i64 0] W (Post r mp v ts W (.error (n, q)))) :
    Calls Tryd.prog 63 #[.pointer (some ⟨r, 0, none⟩)] w (Post r mp v ts w (.error (n, q))) := by
  have b0 := (Below.refl w.heap.size w).alloc (Nat.le_refl _) (.cells #[.int .u8 0, .int .i64 0, .string ⟨#[]⟩, .slice none 0 0] 26)
  obtain ⟨y0, y1, hg, hr⟩ := moved (h.step b0) hp
  have hfew : (p : Int) < 140737488355328 := by have := h.few; omega
  have HG := hid (grown_on (grown_below b0 (some r)) hg)
  have HR := hid hr
  have H := hid h
  have HS := hid (show w.heap.size < ((w.alloc (.cells #[.int .u8 0, .int .i64 0, .string ⟨#[]⟩, .slice none 0 0] 26)).setCell ⟨r, 1, none⟩ (.int .i64 ((p : Int) + 1))).heap.size by simp [World.setCell])
  have HX := hid (show ((w.alloc (.cells #[.int .u8 0, .int .i64 0, .string ⟨#[]⟩, .slice none 0 0] 26)).setCell ⟨r, 1, none⟩ (.int .i64 ((p : Int) + 1))).heap[w.heap.size]? = _ from box_kept h.lt (World.grownBy.refl _ _))
  have c1 := fun W hW => pass_ok 1 (by omega) ⟨#[116, 104, 101, 110]⟩ r mp v ts q1 W hW hm1
  simp only [Int.cast_ofNat_Int] at c1
  clear h hp hg hr b0 hm1
  go_enter Tryd.func63, Tryd.ntmps63
  go_wp2_with (first
    | (go_at_call 42; refine (cp1 _ HG.out HR.out).mono ?_; rintro e u1 ⟨g2, s1, rfl, st, h2⟩; obtain ⟨ao1, cap1, rfl⟩ := st.form; have b3 := (Below.refl u1.heap.size u1).alloc (Nat.le_refl _) (.cells (ex4 x1 (.slice ao1 x1.args.length cap1)) 26); have KK1 := hid (Keep.new st HS.out g2.size); have gg := grown_on g2 (grown_below b3 (some r)); have GA1 := hid (grown_on HG.out gg); have XA1 := hid (kept HX.out gg H.out.lt); have SA1 := hid (Nat.lt_of_lt_of_le HS.out gg.size); have RA1 := hid (h2.step b3); clear g2 h2 st b3 gg cp1)
    | (go_at_call 62; refine (c1 _ RA1.out).mono ?_; rintro e t1 ⟨rfl, gg, h4⟩; have GP1 := hid (grown_on GA1.out gg); have XP1 := hid (kept XA1.out gg H.out.lt); have SP1 := hid (Nat.lt_of_lt_of_le SA1.out gg.size); have RP1 := hid h4; have KK1 := hid (KK1.out.grown gg H.out.lt); clear gg h4 c1)
    | (go_at_call 42; refine (cp2 _ GP1.out RP1.out).mono ?_; rintro e u2 ⟨gb, rfl, hb⟩; have GB := hid (grown_on GP1.out gb); have HB := hid hb; clear gb hb cp2))
  exact ⟨rfl, GB.out, rfl, HB.out⟩
set_option maxRecDepth 100000 in
set_option maxHeartbeats 2000000 in
theorem choice_bad4 (r mp : Nat) (v : Value) (ts : List Mark) (p : Nat) (w : World) (h : Rdr r mp v ts p w) (hp : p < ts.length) (x1 : Ex) (q1 : Nat)
    (cp1 : ∀ W, w.grownBy W (some r) → Rdr r mp v ts (p + 1) W → Calls Tryd.prog 42 #[.pointer (some ⟨r, 0, none⟩), .int .i64 0] W (Post r mp v ts W (.ok (x1, q1))))
    (hm1 : isMk (markAt ts q1) 1 ⟨#[116, 104, 101, 110]⟩ = true) (x2 : Ex) (q2 : Nat)
    (cp2 : ∀ W, w.grownBy W (some r) → Rdr r mp v ts (q1 + 1) W → Calls Tryd.prog 42 #[.pointer (some ⟨r, 0, none⟩), .int .i64 0] W (Post r mp v ts W (.ok (x2, q2))))
    (hm2 : isMk (markAt ts q2) 1 ⟨#[101, 108, 115, 101]⟩ = false) :
    Calls Tryd.prog 63 #[.pointer (some ⟨r, 0, none⟩)] w (Post r mp v ts w (.error (5, q2))) := by
  have b0 := (Below.refl w.heap.size w).alloc (Nat.le_refl _) (.cells #[.int .u8 0, .int .i64 0, .string ⟨#[]⟩, .slice none 0 0] 26)
  obtain ⟨y0, y1, hg, hr⟩ := moved (h.step b0) hp
  have hfew : (p : Int) < 140737488355328 := by have := h.few; omega
  have HG := hid (grown_on (grown_below b0 (some r)) hg)
  have HR := hid hr
  have H := hid h
  have HS := hid (show w.heap.size < ((w.alloc (.cells #[.int .u8 0, .int .i64 0, .string ⟨#[]⟩, .slice none 0 0] 26)).setCell ⟨r, 1, none⟩ (.int .i64 ((p : Int) + 1))).heap.size by simp [World.setCell])
  have HX := hid (show ((w.alloc (.cells #[.int .u8 0, .int .i64 0, .string ⟨#[]⟩, .slice none 0 0] 26)).setCell ⟨r, 1, none⟩ (.int .i64 ((p : Int) + 1))).heap[w.heap.size]? = _ from box_kept h.lt (World.grownBy.refl _ _))
  have c1 := fun W hW => pass_ok 1 (by omega) ⟨#[116, 104, 101, 110]⟩ r mp v ts q1 W hW hm1
  simp only [Int.cast_ofNat_Int] at c1
  have c2 := fun W hW => pass_bad 1 ⟨#[101, 108, 115, 101]⟩ r mp v ts q2 W hW hm2
  simp only [Int.cast_ofNat_Int] at c2
  clear h hp hg hr b0 hm1 hm2
  go_enter Tryd.func63, Tryd.ntmps63
  go_wp2_with (first
    | (go_at_call 42; refine (cp1 _ HG.out HR.out).mono ?_; rintro e u1 ⟨g2, s1, rfl, st, h2⟩; obtain ⟨ao1, cap1, rfl⟩ := st.form; have b3 := (Below.refl u1.heap.size u1).alloc (Nat.le_refl _) (.cells (ex4 x1 (.slice ao1 x1.args.length cap1)) 26); have KK1 := hid (Keep.new st HS.out g2.size); have gg := grown_on g2 (grown_below b3 (some r)); have GA1 := hid (grown_on HG.out gg); have XA1 := hid (kept HX.out gg H.out.lt); have SA1 := hid (Nat.lt_of_lt_of_le HS.out gg.size); have RA1 := hid (h2.step b3); clear g2 h2 st b3 gg cp1)
    | (go_at_call 62; refine (c1 _ RA1.out).mono ?_; rintro e t1 ⟨rfl, gg, h4⟩; have GP1 := hid (grown_on GA1.out gg); have XP1 := hid (kept XA1.out gg H.out.lt); have SP1 := hid (Nat.lt_of_lt_of_le SA1.out gg.size); have RP1 := hid h4; have KK1 := hid (KK1.out.grown gg H.out.lt); clear gg h4 c1)
    | (go_at_call 42; refine (cp2 _ GP1.out RP1.out).mono ?_; rintro e u2 ⟨g2, s2, rfl, st, h2⟩; obtain ⟨ao2, cap2, rfl⟩ := st.form; have b3 := (Below.refl u2.heap.size u2).alloc (Nat.le_refl _) (.cells (ex4 x2 (.slice ao2 x2.args.length cap2)) 26); have KK2 := hid (Keep.new st SP1.out g2.size); have gg := grown_on g2 (grown_below b3 (some r)); have GA2 := hid (grown_on GP1.out gg); have XA2 := hid (kept XP1.out gg H.out.lt); have SA2 := hid (Nat.lt_of_lt_of_le SP1.out gg.size); have RA2 := hid (h2.step b3); have KK1 := hid (KK1.out.grown gg H.out.lt); clear g2 h2 st b3 gg cp2)
    | (go_at_call 62; refine (c2 _ RA2.out).mono ?_; rintro e t2 ⟨rfl, b4⟩; have B4 := hid b4; clear b4 c2))
  exact ⟨rfl, grown_on GA2.out (grown_below B4.out _), rfl, RA2.out.step B4.out⟩
set_option maxRecDepth 100000 in
set_option maxHeartbeats 2000000 in
theorem choice_bad5 (r mp : Nat) (v : Value) (ts : List Mark) (p : Nat) (w : World) (h : Rdr r mp v ts p w) (hp : p < ts.length) (x1 : Ex) (q1 : Nat)
    (cp1 : ∀ W, w.grownBy W (some r) → Rdr r mp v ts (p + 1) W → Calls Tryd.prog 42 #[.pointer (some ⟨r, 0, none⟩), .int .i64 0] W (Post r mp v ts W (.ok (x1, q1))))
    (hm1 : isMk (markAt ts q1) 1 ⟨#[116, 104, 101, 110]⟩ = true) (x2 : Ex) (q2 : Nat)
    (cp2 : ∀ W, w.grownBy W (some r) → Rdr r mp v ts (q1 + 1) W → Calls Tryd.prog 42 #[.pointer (some ⟨r, 0, none⟩), .int .i64 0] W (Post r mp v ts W (.ok (x2, q2))))
    (hm2 : isMk (markAt ts q2) 1 ⟨#[101, 108, 115, 101]⟩ = true) (n q : Nat)
    (cp3 : ∀ W, w.grownBy W (some r) → Rdr r mp v ts (q2 + 1) W → Calls Tryd.prog 42 #[.pointer (some ⟨r, 0, none⟩), .int .i64 0] W (Post r mp v ts W (.error (n, q)))) :
    Calls Tryd.prog 63 #[.pointer (some ⟨r, 0, none⟩)] w (Post r mp v ts w (.error (n, q))) := by
  have b0 := (Below.refl w.heap.size w).alloc (Nat.le_refl _) (.cells #[.int .u8 0, .int .i64 0, .string ⟨#[]⟩, .slice none 0 0] 26)
  obtain ⟨y0, y1, hg, hr⟩ := moved (h.step b0) hp
  have hfew : (p : Int) < 140737488355328 := by have := h.few; omega
  have HG := hid (grown_on (grown_below b0 (some r)) hg)
  have HR := hid hr
  have H := hid h
  have HS := hid (show w.heap.size < ((w.alloc (.cells #[.int .u8 0, .int .i64 0, .string ⟨#[]⟩, .slice none 0 0] 26)).setCell ⟨r, 1, none⟩ (.int .i64 ((p : Int) + 1))).heap.size by simp [World.setCell])
  have HX := hid (show ((w.alloc (.cells #[.int .u8 0, .int .i64 0, .string ⟨#[]⟩, .slice none 0 0] 26)).setCell ⟨r, 1, none⟩ (.int .i64 ((p : Int) + 1))).heap[w.heap.size]? = _ from box_kept h.lt (World.grownBy.refl _ _))
  have c1 := fun W hW => pass_ok 1 (by omega) ⟨#[116, 104, 101, 110]⟩ r mp v ts q1 W hW hm1
  simp only [Int.cast_ofNat_Int] at c1
  have c2 := fun W hW => pass_ok 1 (by omega) ⟨#[101, 108, 115, 101]⟩ r mp v ts q2 W hW hm2
  simp only [Int.cast_ofNat_Int] at c2
  clear h hp hg hr b0 hm1 hm2
  go_enter Tryd.func63, Tryd.ntmps63
  go_wp2_with (first
    | (go_at_call 42; refine (cp1 _ HG.out HR.out).mono ?_; rintro e u1 ⟨g2, s1, rfl, st, h2⟩; obtain ⟨ao1, cap1, rfl⟩ := st.form; have b3 := (Below.refl u1.heap.size u1).alloc (Nat.le_refl _) (.cells (ex4 x1 (.slice ao1 x1.args.length cap1)) 26); have KK1 := hid (Keep.new st HS.out g2.size); have gg := grown_on g2 (grown_below b3 (some r)); have GA1 := hid (grown_on HG.out gg); have XA1 := hid (kept HX.out gg H.out.lt); have SA1 := hid (Nat.lt_of_lt_of_le HS.out gg.size); have RA1 := hid (h2.step b3); clear g2 h2 st b3 gg cp1)
    | (go_at_call 62; refine (c1 _ RA1.out).mono ?_; rintro e t1 ⟨rfl, gg, h4⟩; have GP1 := hid (grown_on GA1.out gg); have XP1 := hid (kept XA1.out gg H.out.lt); have SP1 := hid (Nat.lt_of_lt_of_le SA1.out gg.size); have RP1 := hid h4; have KK1 := hid (KK1.out.grown gg H.out.lt); clear gg h4 c1)
    | (go_at_call 42; refine (cp2 _ GP1.out RP1.out).mono ?_; rintro e u2 ⟨g2, s2, rfl, st, h2⟩; obtain ⟨ao2, cap2, rfl⟩ := st.form; have b3 := (Below.refl u2.heap.size u2).alloc (Nat.le_refl _) (.cells (ex4 x2 (.slice ao2 x2.args.length cap2)) 26); have KK2 := hid (Keep.new st SP1.out g2.size); have gg := grown_on g2 (grown_below b3 (some r)); have GA2 := hid (grown_on GP1.out gg); have XA2 := hid (kept XP1.out gg H.out.lt); have SA2 := hid (Nat.lt_of_lt_of_le SP1.out gg.size); have RA2 := hid (h2.step b3); have KK1 := hid (KK1.out.grown gg H.out.lt); clear g2 h2 st b3 gg cp2)
    | (go_at_call 62; refine (c2 _ RA2.out).mono ?_; rintro e t2 ⟨rfl, gg, h4⟩; have GP2 := hid (grown_on GA2.out gg); have XP2 := hid (kept XA2.out gg H.out.lt); have SP2 := hid (Nat.lt_of_lt_of_le SA2.out gg.size); have RP2 := hid h4; have KK1 := hid (KK1.out.grown gg H.out.lt); have KK2 := hid (KK2.out.grown gg H.out.lt); clear gg h4 c2)
    | (go_at_call 42; refine (cp3 _ GP2.out RP2.out).mono ?_; rintro e u3 ⟨gb, rfl, hb⟩; have GB := hid (grown_on GP2.out gb); have HB := hid hb; clear gb hb cp3))
  exact ⟨rfl, GB.out, rfl, HB.out⟩
end Go.Proofs.YtkieljleopbhoabDoor.Lex
namespace Go.Proofs.YtkieljleopbhoabDoor.Lex
open Go.ChangeShapes Go.WideShapes Go.ChangeAt Go.RowKit Go.Joins Go.WideMaps Go.WideElems Go.Maps
theorem row81 : (75 : TypeId) < Tryd.prog.types.size := of_decide_eq_true (by kernel_rfl)
theorem wide81 : (match Tryd.prog.underlying 75 with | some (.array _ _) | some (.struct _) => true | _ => false) = true := by kernel_rfl
theorem deep81 : Tryd.prog.keyTypeAt 3 75 = true := by kernel_rfl
set_option maxRecDepth 100000 in
theorem law81 : KeyLaw Tryd.prog 75 := deep_law_laid laidOut (m := 3) (by omega) row81 deep81 wide81
theorem keyed81 : Keyed Tryd.prog 75 := Keyed.of_law law81
end Go.Proofs.YtkieljleopbhoabDoor.Lex
namespace Go.Proofs.YtkieljleopbhoabDoor.Lex
open Go.ChangeShapes Go.WideShapes Go.ChangeAt Go.RowKit Go.Joins Go.WideMaps Go.WideElems Go.Maps
theorem size_types : ∃ n, Tryd.prog.types.size + 1 = n + 2 := ⟨Tryd.prog.types.size - 1, by have : 0 < Tryd.prog.types.size := of_decide_eq_true (by kernel_rfl); omega⟩
theorem keyT81 : Tryd.prog.keyType 75 = true := by kernel_rfl
theorem lits5 (n : Nat) (k : Nat) (hk : k < 256) : Tryd.prog.keyLits (n + 1) 5 [.int .u8 (k : Int)] = some [.int .u8 (k : Int)] := by
  have hwf : (Lit.int .u8 (k : Int)).wf = true := by simp [Lit.wf, IntKind.min, IntKind.max, IntKind.signed, IntKind.bits]; omega
  unfold Program.keyLits
  rw [Tryd.underlying5]
  simp [hwf]
theorem lits9 (n : Nat) (s : ByteArray) (hs : s.size ≤ maxLen) : Tryd.prog.keyLits (n + 1) 9 [.string s] = some [.string s.data.toList] := by
  unfold Program.keyLits
  rw [Tryd.underlying9]
  simp [hs]
theorem key_is (m : Mark) (hk : m.kind < 256) (hs : m.text.size ≤ maxLen) : ∃ l, keyOf Tryd.prog 75 (mkV m) = some l := by
  obtain ⟨n, hn⟩ := size_types
  have hf : (mkV m).formed Tryd.prog 75 = true := by simp [Value.formed, Tryd.underlying75, cells81]
  have h5 := lits5 n m.kind hk
  have h9 := lits9 n m.text hs
  unfold keyOf
  rw [hn, Tryd.underlying75]
  simp only [keyT81, hf]
  unfold Program.keyLits
  rw [Tryd.underlying75]
  simp [Value.cells, cells81, cells5, cells9, h5, h9]
end Go.Proofs.YtkieljleopbhoabDoor.Lex
namespace Go.Proofs.YtkieljleopbhoabDoor.Lex
open Go.ChangeShapes Go.WideShapes Go.ChangeAt Go.RowKit Go.Joins Go.WideMaps Go.WideElems Go.Maps
/-- The eight atoms: a token's kind and text, and the function that reads what begins with it. -/
def aT : List (Nat × ByteArray × Nat) := [(1, ⟨#[]⟩, 32), (1, ⟨#[116, 114, 117, 101]⟩, 33), (1, ⟨#[102, 97, 108, 115, 101]⟩, 34), (2, ⟨#[]⟩, 35), (3, ⟨#[40]⟩, 36), (3, ⟨#[45]⟩, 37), (1, ⟨#[110, 111, 116]⟩, 39), (1, ⟨#[112, 114, 101]⟩, 40)]
def aR (k : Nat) : Nat × ByteArray × Nat := aT.getD k (0, ⟨#[]⟩, 0)
def aKey (k : Nat) : Value := .agg #[.int .u8 ((aR k).1 : Int), .string (aR k).2.1]
def aVal (k : Nat) : Value := .func (.func (aR k).2.2) #[] #[]
theorem cases8 {k : Nat} (h : k < 8) : k = 0 ∨ k = 1 ∨ k = 2 ∨ k = 3 ∨ k = 4 ∨ k = 5 ∨ k = 6 ∨ k = 7 := by omega
theorem aKey_mk {k : Nat} {m : Mark} (h : aKey k = mkV m) : (aR k).1 = m.kind ∧ (aR k).2.1 = m.text := by
  unfold aKey at h
  injection h with h
  simp only [Array.mk.injEq, List.cons.injEq, Value.int.injEq, Value.string.injEq, and_true, true_and] at h
  exact ⟨by omega, h.2⟩
theorem aKey_ne {i j : Nat} (hi : i < 8) (hj : j < 8) (h : i ≠ j) : aKey i ≠ aKey j := fun e => by
  have e2 := aKey_mk (m := ⟨(aR j).1, (aR j).2.1⟩) e
  simp only at e2
  rcases cases8 hi with rfl | rfl | rfl | rfl | rfl | rfl | rfl | rfl <;> rcases cases8 hj with rfl | rfl | rfl | rfl | rfl | rfl | rfl | rfl <;> first | omega | exact absurd e2.1 (by decide) | exact absurd (congrArg (fun s => s.data.toList) e2.2) (by decide)
theorem aKey_is {k : Nat} (h : k < 8) : ∃ l, keyOf Tryd.prog 75 (aKey k) = some l := key_is ⟨(aR k).1, (aR k).2.1⟩ (by rcases cases8 h with rfl | rfl | rfl | rfl | rfl | rfl | rfl | rfl <;> decide) (by rcases cases8 h with rfl | rfl | rfl | rfl | rfl | rfl | rfl | rfl <;> decide)
abbrev RA : Value → Option (DataW Unit × List MemPlace) := fun _ => some (.nil, [])
/-- Those of the eight are there that b says. -/
def AtM (b : Nat → Bool) (mp n : Nat) (w : World) : Prop := ∃ es clock, w.heap[mp]? = some (.map es clock) ∧ Fit Tryd.prog 75 RA es clock ∧ es.size + n ≤ 8 ∧
  (∀ x ∈ es.toList, ∃ k, k < 8 ∧ b k = true ∧ x.key = aKey k ∧ x.val = aVal k) ∧ ∀ k, k < 8 → b k = true → ∃ x ∈ es.toList, x.key = aKey k
def upd (b : Nat → Bool) (k : Nat) : Nat → Bool := fun i => if i = k then true else b i
theorem grown_setBlock {w : World} {b : Nat} (o : Obj) : w.grownBy (ChangeMaps.setBlock w b o) (some b) := by
  refine ⟨rfl, rfl, rfl, by simp [ChangeMaps.setBlock], fun k hk hkr => ?_⟩
  have hkr' : k ≠ b := fun e => hkr (by rw [e])
  simp only [ChangeMaps.setBlock]
  rw [Array.getElem?_setIfInBounds_ne (fun e => hkr' e.symm)]
set_option maxRecDepth 100000 in
/-- One more. -/
theorem AtM.more {b : Nat → Bool} {mp n : Nat} {w : World} (h : AtM b mp (n + 1) w) {k : Nat} (hk : k < 8) (hb : b k = false) : ∃ w', (Instr.mapUpdate 57 (.map (some mp)) (aKey k) (aVal k)).run Tryd.prog w = .ok () w' ∧ AtM (upd b k) mp n w' ∧ w.grownBy w' (some mp) := by
  obtain ⟨es, clock, hh, F, hs, h1, h2⟩ := h
  obtain ⟨l, hl⟩ := aKey_is hk
  have hno : ∀ e ∈ es.toList, e.key ≠ aKey k := fun e he => by
    obtain ⟨i, hi, hbi, e1, _⟩ := h1 e he
    rw [e1]
    exact aKey_ne hi hk (fun e2 => by rw [e2, hb] at hbi; cases hbi)
  rcases keyed81.find w hl es.toList F.keys with ⟨f1, _⟩ | ⟨j, e, _, f2, f3⟩
  · refine ⟨ChangeMaps.setBlock w mp (.map (es.push ⟨aKey k, aVal k, clock⟩) (clock + 1)), ?_, ⟨es.push ⟨aKey k, aVal k, clock⟩, clock + 1, ?_, ⟨?_, MapKept.stamped_push F.stamped hno, ?_⟩, ?_, ?_, ?_⟩, grown_setBlock _⟩
    · simp [Instr.mapUpdate, run_underlying Tryd.underlying57, MapKept.run_getObj_map hh, keyed81.check w false hl, f1, MapKept.run_setObj_map _ hh, Result.andThen, ChangeMaps.setBlock]
    · have hlt := (Array.getElem?_eq_some_iff.1 hh).1
      simp [ChangeMaps.setBlock, hlt]
    · simp; unfold maxLen; omega
    · intro x hx
      simp only [Array.toList_push, List.mem_append, List.mem_singleton] at hx
      rcases hx with hx | rfl
      · exact F.reads x hx
      · exact ⟨_, rd_mk hl rfl⟩
    · simp; omega
    · intro x hx
      simp only [Array.toList_push, List.mem_append, List.mem_singleton] at hx
      rcases hx with hx | rfl
      · obtain ⟨i, hi, hbi, e1, e2⟩ := h1 x hx
        exact ⟨i, hi, by unfold upd; rw [hbi]; simp, e1, e2⟩
      · exact ⟨k, hk, by simp [upd], rfl, rfl⟩
    · intro i hi hbi
      simp only [Array.toList_push, List.mem_append, List.mem_singleton]
      by_cases e : i = k
      · exact ⟨⟨aKey k, aVal k, clock⟩, .inr rfl, by rw [e]⟩
      · obtain ⟨x, hx, e1⟩ := h2 i hi (by unfold upd at hbi; rw [if_neg e] at hbi; exact hbi)
        exact ⟨x, .inl hx, e1⟩
  · exact (hno e (List.mem_of_getElem? f2) f3).elim
def L35 (b : Nat → Bool) : Array Bool := #[true, true, b 0, true, b 1, true, b 2, true, b 3, true, b 4, true, b 5, true, b 6, true, b 7, false, false]
def left (b : Nat → Bool) : Nat := (!b 0).toNat + (!b 1).toNat + (!b 2).toNat + (!b 3).toNat + (!b 4).toNat + (!b 5).toNat + (!b 6).toNat + (!b 7).toNat
abbrev insOp (k : Nat) (p : String) : Oper := { dst := none, op := Op.insert 57 (.tmp 1) (.tmp (2 + k)) (.func (aR k).2.2), type := 0, pos := p, after := #[⟨0, .data⟩, ⟨1 + 2 * k, .data⟩], guard := none }
/-- The operations of the map's region. -/
structure Ops35 (ops : Array Oper) : Prop where
  size : ops.size = 19
  ins : ∀ k, k < 8 → ∃ p, ops[2 + 2 * k]? = some (insOp k p)
  o17 : ∃ p af, ops[17]? = some { dst := some 10, op := Op.move (.tmp 1), type := 57, pos := p, after := af, guard := none } ∧ (∀ k, k < 8 → (⟨2 + 2 * k, .data⟩ : Edge) ∈ af) ∧ ∀ e ∈ af, e.on < 17
  o18 : ∃ p af, ops[18]? = some { dst := some 0, op := Op.assign (.tmp 10), type := 57, pos := p, after := af, guard := none } ∧ (⟨17, .data⟩ : Edge) ∈ af ∧ ∀ e ∈ af, e.on < 18
end Go.Proofs.YtkieljleopbhoabDoor.Lex
namespace Go.Proofs.YtkieljleopbhoabDoor.Lex
open Go.ChangeShapes Go.WideShapes Go.ChangeAt Go.RowKit Go.Joins Go.WideMaps Go.WideElems Go.Maps
theorem left_upd {b : Nat → Bool} {k : Nat} (hk : k < 8) (hb : b k = false) : left b = left (upd b k) + 1 := by
  rcases cases8 hk with rfl | rfl | rfl | rfl | rfl | rfl | rfl | rfl <;> simp [left, upd, hb] <;> omega
theorem left_none {b : Nat → Bool} (h : left b = 0) : ∀ k, k < 8 → b k = true := fun k hk => by
  cases e : b k with
  | true => rfl
  | false => have := left_upd hk e; omega
theorem L35_upd (b : Nat → Bool) {k : Nat} (hk : k < 8) : (L35 b).setIfInBounds (2 + 2 * k) true = L35 (upd b k) := by
  rcases cases8 hk with rfl | rfl | rfl | rfl | rfl | rfl | rfl | rfl <;> simp [L35, upd]
theorem L35_at (b : Nat → Bool) {k : Nat} (hk : k < 8) (d : Bool) : (L35 b).getD (2 + 2 * k) d = b k := by
  rcases cases8 hk with rfl | rfl | rfl | rfl | rfl | rfl | rfl | rfl <;> rfl
def all35 (x y : Bool) : Array Bool := #[true, true, true, true, true, true, true, true, true, true, true, true, true, true, true, true, true, x, y]
theorem all35_at (x y : Bool) {d : Bool} {i : Nat} (h : i < 17) : (all35 x y).getD i d = true := by
  have : i = 0 ∨ i = 1 ∨ i = 2 ∨ i = 3 ∨ i = 4 ∨ i = 5 ∨ i = 6 ∨ i = 7 ∨ i = 8 ∨ i = 9 ∨ i = 10 ∨ i = 11 ∨ i = 12 ∨ i = 13 ∨ i = 14 ∨ i = 15 ∨ i = 16 := by omega
  rcases this with rfl | rfl | rfl | rfl | rfl | rfl | rfl | rfl | rfl | rfl | rfl | rfl | rfl | rfl | rfl | rfl | rfl <;> rfl
theorem all35_at' (y : Bool) {d : Bool} {i : Nat} (h : i < 18) : (all35 true y).getD i d = true := by
  by_cases e : i < 17
  · exact all35_at _ _ e
  · obtain rfl : i = 17 := by omega
    rfl
theorem ready_18 {ops : Array Oper} (O : Ops35 ops) {i : Nat} (h : i ∈ Region.ready .any ops (all35 true false)) : i = 18 := by
  obtain ⟨h1, o, h2, _⟩ := mem_ready.1 h
  have hi : i < 19 := by have := (Array.getElem?_eq_some_iff.1 h2).1; rw [O.size] at this; exact this
  by_cases e : i < 18
  · rw [all35_at' false e] at h1; cases h1
  · omega
/-- Which may come up. -/
theorem ready35 {ops : Array Oper} (O : Ops35 ops) {b : Nat → Bool} {i : Nat} (h : i ∈ Region.ready .any ops (L35 b)) : (∃ k, k < 8 ∧ i = 2 + 2 * k ∧ b k = false) ∨ (i = 17 ∧ ∀ k, k < 8 → b k = true) := by
  obtain ⟨h1, o, h2, h3⟩ := mem_ready.1 h
  have hi : i < 19 := by have := (Array.getElem?_eq_some_iff.1 h2).1; rw [O.size] at this; exact this
  by_cases h17 : i = 17
  · subst h17
    refine .inr ⟨rfl, fun k hk => ?_⟩
    obtain ⟨p, af, e, hm, _⟩ := O.o17
    rw [e] at h2
    cases h2
    have := h3 _ (hm k hk) rfl
    rw [L35_at b hk] at this
    exact this
  · by_cases h18 : i = 18
    · subst h18
      obtain ⟨p, af, e, hm, _⟩ := O.o18
      rw [e] at h2
      cases h2
      have := h3 _ hm rfl
      cases this
    · left
      by_cases he : i % 2 = 0 ∧ 2 ≤ i
      · refine ⟨i / 2 - 1, by omega, by omega, ?_⟩
        rw [← L35_at b (k := i / 2 - 1) (by omega) true, show 2 + 2 * (i / 2 - 1) = i by omega]
        exact h1
      · exfalso
        have : i = 0 ∨ i = 1 ∨ i = 3 ∨ i = 5 ∨ i = 7 ∨ i = 9 ∨ i = 11 ∨ i = 13 ∨ i = 15 := by omega
        rcases this with rfl | rfl | rfl | rfl | rfl | rfl | rfl | rfl | rfl <;> cases h1
theorem ins_ready {ops : Array Oper} (O : Ops35 ops) {b : Nat → Bool} {k : Nat} (hk : k < 8) (hb : b k = false) : 2 + 2 * k ∈ Region.ready .any ops (L35 b) := by
  obtain ⟨p, hp⟩ := O.ins k hk
  refine mem_ready.2 ⟨by rw [L35_at b hk]; exact hb, _, hp, fun e he _ => ?_⟩
  simp only [List.mem_toArray, List.mem_cons, List.not_mem_nil, or_false] at he
  rcases he with rfl | rfl
  · rfl
  · rcases cases8 hk with rfl | rfl | rfl | rfl | rfl | rfl | rfl | rfl <;> rfl
theorem grownM {a b c : World} {r : Option Nat} (h : a.grownBy b r) (k : b.grownBy c r) : a.grownBy c r := grown_on h k
set_option maxRecDepth 100000 in
/-- The inserts, in any order, then the two last ones. -/
theorem inserts {ops : Array Oper} (O : Ops35 ops) {Q : Exit → Act → World → Prop} {a : Act} {mp : Nat} (h1 : a.eval (.tmp 1) = .map (some mp)) (hk : ∀ k, k < 8 → a.eval (.tmp (2 + k)) = aKey k) (hsz : a.tmps.size = 11) (w0 : World)
    (hQ : ∀ w, w0.grownBy w (some mp) → AtM (fun _ => true) mp 0 w → Q .normal ((a.put (some 10) (.map (some mp))).put (some 0) (.map (some mp))) w) :
    ∀ (n : Nat) (b : Nat → Bool) (w : World), left b = n → AtM b mp n w → w0.grownBy w (some mp) → wpAnyH Tryd.prog .any ops Q (fun _ => True) (n + 2) (L35 b) a w
  | 0, b, w, hn, hA, hg => by
    have hall := left_none hn
    have hA' : AtM (fun _ => true) mp 0 w := by
      obtain ⟨es, clock, e1, e2, e3, e4, e5⟩ := hA
      exact ⟨es, clock, e1, e2, e3, fun x hx => by obtain ⟨k, q1, q2, q3⟩ := e4 x hx; exact ⟨k, q1, rfl, q3⟩, fun k hk' _ => e5 k hk' (hall k hk')⟩
    have eL : L35 b = all35 false false := by
      simp [L35, all35, hall]
    obtain ⟨p17, af17, e17, _, n17⟩ := O.o17
    obtain ⟨p18, af18, e18, _, n18⟩ := O.o18
    rw [eL]
    refine ⟨fun he => ?_, fun i hi => ?_⟩
    · exfalso
      have : 17 ∈ Region.ready .any ops (all35 false false) := mem_ready.2 ⟨rfl, _, e17, fun e hm _ => all35_at _ _ (n17 e hm)⟩
      rw [he] at this
      cases this
    · have h17 : i = 17 := by
        rw [← eL] at hi
        rcases ready35 O hi with ⟨k, hk', _, hb⟩ | ⟨e, _⟩
        · rw [hall k hk'] at hb; cases hb
        · exact e
      subst h17
      refine wpOp_step e17 fun K hK => ?_
      refine if_take rfl ?_
      show Oper.upon _ _ _ _ _ _
      have e : (execOp a.eval { dst := some 10, op := Op.move (.tmp 1), type := 57, pos := p17, after := af17, guard := none }).run Tryd.prog w = .ok (.value (.map (some mp))) w := by
        simp only [execOp, h1]
        rfl
      rw [e, Oper.upon_value]
      refine hK _ _ ⟨trivial, ?_⟩
      rw [show (all35 false false).setIfInBounds 17 true = all35 true false from rfl]
      refine ⟨fun he => ?_, fun i hi => ?_⟩
      · exfalso
        have : 18 ∈ Region.ready .any ops (all35 true false) := mem_ready.2 ⟨rfl, _, e18, fun e hm _ => all35_at' _ (n18 e hm)⟩
        rw [he] at this
        cases this
      · have h18 := ready_18 O hi
        subst h18
        refine wpOp_step e18 fun K hK => ?_
        refine if_take rfl ?_
        show Oper.upon _ _ _ _ _ _
        have e10 : (a.put (some 10) (.map (some mp))).eval (.tmp 10) = .map (some mp) := by
          simp [Act.put, Act.eval, hsz]
        have e : (execOp (a.put (some 10) (.map (some mp))).eval { dst := some 0, op := Op.assign (.tmp 10), type := 57, pos := p18, after := af18, guard := none }).run Tryd.prog w = .ok (.value (.map (some mp))) w := by
          simp only [execOp, e10]
          rfl
        rw [e, Oper.upon_value]
        refine hK _ _ ⟨trivial, ?_, hQ w hg hA'⟩
        rw [List.eq_nil_iff_forall_not_mem]
        intro i hi
        obtain ⟨q1, o, q2, _⟩ := mem_ready.1 hi
        have hi19 : i < 19 := by have := (Array.getElem?_eq_some_iff.1 q2).1; rw [O.size] at this; exact this
        have : (all35 true true).getD i true = true := by
          by_cases h : i < 18
          · exact all35_at' (d := true) true h
          · obtain rfl : i = 18 := by omega
            rfl
        rw [show (all35 true false).setIfInBounds 18 true = all35 true true from rfl, this] at q1
        cases q1
  | n + 1, b, w, hn, hA, hg => by
    refine ⟨fun he => ?_, fun i hi => ?_⟩
    · exfalso
      have : ∃ k, k < 8 ∧ b k = false := by
        by_cases hc : ∃ k, k < 8 ∧ b k = false
        · exact hc
        · have : left b = 0 := by
            have hb : ∀ k, k < 8 → b k = true := fun k hk => by
              cases e : b k with
              | true => rfl
              | false => exact (hc ⟨k, hk, e⟩).elim
            simp [left, hb]
          omega
      obtain ⟨k, hk', hb⟩ := this
      have := ins_ready O hk' hb
      rw [he] at this
      cases this
    · rcases ready35 O hi with ⟨k, hk', rfl, hb⟩ | ⟨_, hall⟩
      · obtain ⟨w', hr, hA', hg'⟩ := hA.more hk' hb
        obtain ⟨p, hp⟩ := O.ins k hk'
        refine wpOp_step hp fun K hK => ?_
        refine if_take rfl ?_
        show Oper.upon _ _ _ _ _ _
        have e : (execOp a.eval (insOp k p)).run Tryd.prog w = .ok .skip w' := by
          simp only [execOp, h1, hk k hk']
          rw [show a.eval (.func (aR k).2.2) = aVal k from rfl]
          simp [hr, Result.andThen]
        rw [e, Oper.upon_skip]
        refine hK _ _ ⟨trivial, ?_⟩
        rw [L35_upd b hk']
        exact inserts O h1 hk hsz w0 hQ n (upd b k) w' (by have := left_upd hk' hb; omega) hA' (grownM hg hg')
      · have : left b = 0 := by simp [left, hall]
        omega
theorem AtM.none (mp : Nat) (w : World) (h : w.heap[mp]? = some (.map #[] 0)) : AtM (fun _ => false) mp 8 w :=
  ⟨#[], 0, h, ⟨by simp, ⟨fun _ h => by simp at h, by simp, by simp⟩, fun _ h => by simp at h⟩, by simp, fun _ h => by simp at h, fun _ _ h => by cases h⟩
set_option maxRecDepth 100000 in
set_option maxHeartbeats 1000000 in
theorem atoms (w : World) : Calls Tryd.prog 19 #[] w fun e w' => ∃ mp, e = .returned (.map (some mp)) ∧ AtM (fun _ => true) mp 0 w' ∧ w.heap.size = mp ∧ Below w.heap.size w w' := by
  have hmm := @run_makeMap Tryd.prog
  go_enter Tryd.func19, Tryd.ntmps19
  go_wp2
  refine wp_region_held_drew (S := fun _ => True) (by kernel_rfl) trivial (fun _ => ?_)
  refine wpAnyH_take (i := 1) (oi := { dst := some 2, op := Op.build 75 #[(0, Operand.const (Value.int IntKind.u8 1)), (1, Operand.const (Value.string { data := #[] }))], type := 75, pos := _, after := #[], guard := none }) (v := aKey 0) rfl (by kernel_rfl) (by kernel_rfl) (by kernel_rfl) (fun _ _ _ h => h) (Or.inl ⟨by rfl, ?_⟩) (by assumption) ?_
  · intro w hSw; (try dsimp only at hSw); go_simp; rfl
  simp only [Act.put, List.setIfInBounds_toArray, List.set_cons_zero, List.set_cons_succ]
  refine wpAnyH_take (i := 3) (oi := { dst := some 3, op := Op.build 75 #[(0, Operand.const (Value.int IntKind.u8 1)), (1, Operand.const (Value.string { data := #[116, 114, 117, 101] }))], type := 75, pos := _, after := #[], guard := none }) (v := aKey 1) rfl (by kernel_rfl) (by kernel_rfl) (by kernel_rfl) (fun _ _ _ h => h) (Or.inl ⟨by rfl, ?_⟩) (by assumption) ?_
  · intro w hSw; (try dsimp only at hSw); go_simp; rfl
  simp only [Act.put, List.setIfInBounds_toArray, List.set_cons_zero, List.set_cons_succ]
  refine wpAnyH_take (i := 5) (oi := { dst := some 4, op := Op.build 75 #[(0, Operand.const (Value.int IntKind.u8 1)), (1, Operand.const (Value.string { data := #[102, 97, 108, 115, 101] }))], type := 75, pos := _, after := #[], guard := none }) (v := aKey 2) rfl (by kernel_rfl) (by kernel_rfl) (by kernel_rfl) (fun _ _ _ h => h) (Or.inl ⟨by rfl, ?_⟩) (by assumption) ?_
  · intro w hSw; (try dsimp only at hSw); go_simp; rfl
  simp only [Act.put, List.setIfInBounds_toArray, List.set_cons_zero, List.set_cons_succ]
  refine wpAnyH_take (i := 7) (oi := { dst := some 5, op := Op.build 75 #[(0, Operand.const (Value.int IntKind.u8 2)), (1, Operand.const (Value.string { data := #[] }))], type := 75, pos := _, after := #[], guard := none }) (v := aKey 3) rfl (by kernel_rfl) (by kernel_rfl) (by kernel_rfl) (fun _ _ _ h => h) (Or.inl ⟨by rfl, ?_⟩) (by assumption) ?_
  · intro w hSw; (try dsimp only at hSw); go_simp; rfl
  simp only [Act.put, List.setIfInBounds_toArray, List.set_cons_zero, List.set_cons_succ]
  refine wpAnyH_take (i := 9) (oi := { dst := some 6, op := Op.build 75 #[(0, Operand.const (Value.int IntKind.u8 3)), (1, Operand.const (Value.string { data := #[40] }))], type := 75, pos := _, after := #[], guard := none }) (v := aKey 4) rfl (by kernel_rfl) (by kernel_rfl) (by kernel_rfl) (fun _ _ _ h => h) (Or.inl ⟨by rfl, ?_⟩) (by assumption) ?_
  · intro w hSw; (try dsimp only at hSw); go_simp; rfl
  simp only [Act.put, List.setIfInBounds_toArray, List.set_cons_zero, List.set_cons_succ]
  refine wpAnyH_take (i := 11) (oi := { dst := some 7, op := Op.build 75 #[(0, Operand.const (Value.int IntKind.u8 3)), (1, Operand.const (Value.string { data := #[45] }))], type := 75, pos := _, after := #[], guard := none }) (v := aKey 5) rfl (by kernel_rfl) (by kernel_rfl) (by kernel_rfl) (fun _ _ _ h => h) (Or.inl ⟨by rfl, ?_⟩) (by assumption) ?_
  · intro w hSw; (try dsimp only at hSw); go_simp; rfl
  simp only [Act.put, List.setIfInBounds_toArray, List.set_cons_zero, List.set_cons_succ]
  refine wpAnyH_take (i := 13) (oi := { dst := some 8, op := Op.build 75 #[(0, Operand.const (Value.int IntKind.u8 1)), (1, Operand.const (Value.string { data := #[110, 111, 116] }))], type := 75, pos := _, after := #[], guard := none }) (v := aKey 6) rfl (by kernel_rfl) (by kernel_rfl) (by kernel_rfl) (fun _ _ _ h => h) (Or.inl ⟨by rfl, ?_⟩) (by assumption) ?_
  · intro w hSw; (try dsimp only at hSw); go_simp; rfl
  simp only [Act.put, List.setIfInBounds_toArray, List.set_cons_zero, List.set_cons_succ]
  refine wpAnyH_take (i := 15) (oi := { dst := some 9, op := Op.build 75 #[(0, Operand.const (Value.int IntKind.u8 1)), (1, Operand.const (Value.string { data := #[112, 114, 101] }))], type := 75, pos := _, after := #[], guard := none }) (v := aKey 7) rfl (by kernel_rfl) (by kernel_rfl) (by kernel_rfl) (fun _ _ _ h => h) (Or.inl ⟨by rfl, ?_⟩) (by assumption) ?_
  · intro w hSw; (try dsimp only at hSw); go_simp; rfl
  simp only [Act.put, List.setIfInBounds_toArray, List.set_cons_zero, List.set_cons_succ]
  refine wpAnyH_ready (rs := [0]) (by kernel_rfl) (by simp) ?_
  refine AllReadyH.cons (o := { dst := some 1, op := Op.makeMap 57 none, type := 57, pos := _, after := #[], guard := none }) rfl (fun K hK => ?_) AllReadyH.nil
  go_simp
  go_wp2_with fail
  refine hK.out _ _ trivial (fun _ => ?_)
  clear hK K
  rename_i K hK _ _
  refine inserts (mp := w.heap.size) ⟨rfl, ?_, ⟨_, _, rfl, ?_, ?_⟩, ⟨_, _, rfl, ?_, ?_⟩⟩ rfl ?_ rfl (w.alloc (.map #[] 0)).drew (fun w2 hg hA => ?_) 8 (fun _ => false) _ rfl (AtM.none _ _ (heap_alloc_new w _)) (World.grownBy.refl _ _)
  · intro k hk; rcases cases8 hk with rfl | rfl | rfl | rfl | rfl | rfl | rfl | rfl <;> exact ⟨_, rfl⟩
  · intro k hk; rcases cases8 hk with rfl | rfl | rfl | rfl | rfl | rfl | rfl | rfl <;> simp
  · simp
  · simp
  · simp
  · intro k hk; rcases cases8 hk with rfl | rfl | rfl | rfl | rfl | rfl | rfl | rfl <;> rfl
  · refine hK _ _ ?_
    simp only [Act.put, List.setIfInBounds_toArray, List.set_cons_zero, List.set_cons_succ]
    go_wp2
    go_ret
    have b1 : Below w.heap.size w (w.alloc (.map #[] 0)).drew := below_drewN ((Below.refl _ _).alloc (Nat.le_refl _) (.map #[] 0)) 1
    exact ⟨_, rfl, hA, rfl, b1.grown hg (by simp [World.drew]) (fun k e => by cases e; exact Nat.le_refl _)⟩
end Go.Proofs.YtkieljleopbhoabDoor.Lex
namespace Go.Proofs.YtkieljleopbhoabDoor.Lex
open Go.ChangeShapes Go.WideShapes Go.ChangeAt Go.RowKit Go.Joins
/-- What comes behind what was read. -/
def Res.go (r : Res) (f : Ex → Nat → Res) : Res := match r with | .ok (x, q) => f x q | .error e => .error e
theorem Res.go_ok (x : Ex) (q : Nat) (f : Ex → Nat → Res) : Res.go (.ok (x, q)) f = f x q := rfl
theorem Res.go_error (e : Nat × Nat) (f : Ex → Nat → Res) : Res.go (.error e) f = .error e := rfl
/-- A token that must stand there. -/
def passR (ts : List Mark) (kind : Nat) (text : ByteArray) (p : Nat) (f : Nat → Res) : Res := if isMk (markAt ts p) kind text then f (p + 1) else .error (5, p)
abbrev sgn (l : List UInt8) : ByteArray := ⟨l.toArray⟩
/-- What may stand in any place; 'part' reads what stands inside of it. -/
def atomR (ts : List Mark) (part : Nat → Nat → Res) (p : Nat) : Res :=
  let m := markAt ts p
  if isMk m 1 (sgn [116, 114, 117, 101]) then .ok (⟨2, 1, ByteArray.empty, []⟩, p + 1)
  else if isMk m 1 (sgn [102, 97, 108, 115, 101]) then .ok (⟨2, 0, ByteArray.empty, []⟩, p + 1)
  else if isMk m 3 (sgn [40]) then (part 0 (p + 1)).go fun x q => passR ts 3 (sgn [41]) q fun q => .ok (x, q)
  else if isMk m 3 (sgn [45]) then (part 6 (p + 1)).go fun x q => .ok (⟨4, 0, ByteArray.empty, [x]⟩, q)
  else if isMk m 1 (sgn [110, 111, 116]) then (part 6 (p + 1)).go fun x q => .ok (⟨5, 0, ByteArray.empty, [x]⟩, q)
  else if isMk m 1 (sgn [112, 114, 101]) then (part 6 (p + 1)).go fun x q => .ok (⟨19, 0, ByteArray.empty, [x]⟩, q)
  else if m.kind = 1 then (if isName m.text then .ok (⟨3, 0, m.text, []⟩, p + 1) else .error (5, p))
  else if m.kind = 2 then (if numE m.text = 0 then .ok (⟨1, numN m.text, ByteArray.empty, []⟩, p + 1) else .error ((numE m.text).toNat, p))
  else .error (5, p)
def choiceR (ts : List Mark) (part : Nat → Nat → Res) (p : Nat) : Res :=
  (part 0 (p + 1)).go fun x q => passR ts 1 (sgn [116, 104, 101, 110]) q fun q => (part 0 q).go fun y q => passR ts 1 (sgn [101, 108, 115, 101]) q fun q => (part 0 q).go fun z q => .ok (⟨17, 0, ByteArray.empty, [x, y, z]⟩, q)
/-- A part for a place that asks for a rank (none), or how it goes on behind what has a rank (some): so many steps at most. -/
def prs (ts : List Mark) : Nat → Nat → Option (Ex × Nat) → Nat → Res
  | 0, _, _, p => .error (0, p)
  | k + 1, asked, none, p =>
    if asked = 0 ∧ isMk (markAt ts p) 1 (sgn [105, 102]) = true then choiceR ts (fun a q => prs ts k a none q) p
    else (atomR ts (fun a q => prs ts k a none q) p).go fun x q => prs ts k asked (some (x, 7)) q
  | k + 1, asked, some (x, rank), p => match jAt (markAt ts p) with
    | none => .ok (x, p)
    | some j => if j.rank < asked ∨ rank < j.first then .ok (x, p)
      else (prs ts k j.second none (p + 1)).go fun y q => prs ts k asked (some (⟨j.op, 0, ByteArray.empty, [x, y]⟩, j.rank)) q
end Go.Proofs.YtkieljleopbhoabDoor.Lex
namespace Go.Proofs.YtkieljleopbhoabDoor.Lex
theorem Res.go_inv {r : Res} {f : Ex → Nat → Res} {z : Ex × Nat} (h : r.go f = .ok z) : ∃ x q, r = .ok (x, q) ∧ f x q = .ok z := by
  unfold Res.go at h
  split at h
  · exact ⟨_, _, rfl, h⟩
  · cases h
theorem passR_inv {ts : List Mark} {kind : Nat} {text : ByteArray} {p : Nat} {f : Nat → Res} {z : Ex × Nat} (h : passR ts kind text p f = .ok z) : isMk (markAt ts p) kind text = true ∧ f (p + 1) = .ok z := by
  unfold passR at h
  split at h
  · rename_i h1; exact ⟨h1, h⟩
  · cases h
theorem atomR_far {ts : List Mark} {part : Nat → Nat → Res} (hp : ∀ a q x q', part a q = .ok (x, q') → q < q') {p q : Nat} {x : Ex} (h : atomR ts part p = .ok (x, q)) : p < q := by
  unfold atomR at h
  simp only at h
  split at h
  · cases h; omega
  split at h
  · cases h; omega
  split at h
  · obtain ⟨x1, q1, h1, h2⟩ := Res.go_inv h
    obtain ⟨_, h3⟩ := passR_inv h2
    cases h3
    have := hp _ _ _ _ h1
    omega
  iterate 3
    split at h
    · obtain ⟨x1, q1, h1, h2⟩ := Res.go_inv h
      cases h2
      have := hp _ _ _ _ h1
      omega
  split at h
  · split at h
    · cases h; omega
    · cases h
  split at h
  · split at h
    · cases h; omega
    · cases h
  · cases h
theorem choiceR_far {ts : List Mark} {part : Nat → Nat → Res} (hp : ∀ a q x q', part a q = .ok (x, q') → q < q') {p q : Nat} {x : Ex} (h : choiceR ts part p = .ok (x, q)) : p < q := by
  unfold choiceR at h
  obtain ⟨x1, q1, h1, h⟩ := Res.go_inv h
  obtain ⟨_, h⟩ := passR_inv h
  obtain ⟨x2, q2, h2, h⟩ := Res.go_inv h
  obtain ⟨_, h⟩ := passR_inv h
  obtain ⟨x3, q3, h3, h⟩ := Res.go_inv h
  cases h
  have := hp _ _ _ _ h1
  have := hp _ _ _ _ h2
  have := hp _ _ _ _ h3
  omega
/-- What is read is not nothing. -/
theorem prs_far (ts : List Mark) : ∀ k, (∀ a p x q, prs ts k a none p = .ok (x, q) → p < q) ∧ ∀ a y p x q, prs ts k a (some y) p = .ok (x, q) → p ≤ q
  | 0 => ⟨fun a p x q h => by simp [prs] at h, fun a y p x q h => by simp [prs] at h⟩
  | k + 1 => by
    obtain ⟨i1, i2⟩ := prs_far ts k
    refine ⟨fun a p x q h => ?_, fun a y p x q h => ?_⟩
    · rw [prs] at h
      split at h
      · exact choiceR_far (part := fun a q => prs ts k a none q) i1 h
      · obtain ⟨x1, q1, h1, h2⟩ := Res.go_inv h
        have := atomR_far (part := fun a q => prs ts k a none q) i1 h1
        have := i2 _ _ _ _ _ h2
        omega
    · obtain ⟨y, rank⟩ := y
      rw [prs] at h
      split at h
      · cases h; omega
      · split at h
        · cases h; omega
        · obtain ⟨x1, q1, h1, h2⟩ := Res.go_inv h
          have := i1 _ _ _ _ h1
          have := i2 _ _ _ _ _ h2
          omega
end Go.Proofs.YtkieljleopbhoabDoor.Lex
namespace Go.Proofs.YtkieljleopbhoabDoor.Lex
theorem isMk_lt {ts : List Mark} {p kind : Nat} {text : ByteArray} (hk : kind ≠ 0) (h : isMk (markAt ts p) kind text = true) : p < ts.length := by
  by_cases e : p < ts.length
  · exact e
  · exfalso
    have h1 := (isMk_yes h).1
    rw [show markAt ts p = ⟨0, ByteArray.empty⟩ by unfold markAt; rw [List.getD_eq_getElem?_getD, List.getElem?_eq_none (by omega)]; rfl] at h1
    simp at h1
    omega
theorem Res.go_congr {r r' : Res} {f f' : Ex → Nat → Res} (h : r = r') (hf : ∀ x q, r = .ok (x, q) → f x q = f' x q) : r.go f = r'.go f' := by
  subst h
  unfold Res.go
  split
  · exact hf _ _ rfl
  · rfl
theorem passR_congr {ts : List Mark} {kind : Nat} {text : ByteArray} {p : Nat} {f f' : Nat → Res} (h : f (p + 1) = f' (p + 1)) : passR ts kind text p f = passR ts kind text p f' := by
  unfold passR
  rw [h]
theorem atomR_congr {ts : List Mark} {part part' : Nat → Nat → Res} {p : Nat} (h : p < ts.length → ∀ a q, p < q → part a q = part' a q) : atomR ts part p = atomR ts part' p := by
  unfold atomR
  simp only
  split
  · rfl
  split
  · rfl
  split
  · rename_i hm; rw [h (isMk_lt (by omega) hm) 0 (p + 1) (by omega)]
  iterate 3
    split
    · rename_i hm; rw [h (isMk_lt (by omega) hm) 6 (p + 1) (by omega)]
  rfl
theorem choiceR_congr {ts : List Mark} {part part' : Nat → Nat → Res} {p : Nat} (hf : ∀ a q x q', part a q = .ok (x, q') → q < q') (h : ∀ a q, p < q → part a q = part' a q) : choiceR ts part p = choiceR ts part' p := by
  unfold choiceR
  refine Res.go_congr (h _ _ (by omega)) fun x q h1 => passR_congr ?_
  have := hf _ _ _ _ h1
  refine Res.go_congr (h _ _ (by omega)) fun y q2 h2 => passR_congr ?_
  have := hf _ _ _ _ h2
  exact Res.go_congr (h _ _ (by omega)) fun z q3 _ => rfl
theorem jAt_lt {ts : List Mark} {p : Nat} {j : J} (h : jAt (markAt ts p) = some j) : p < ts.length := by
  by_cases e : p < ts.length
  · exact e
  · exfalso
    rw [show markAt ts p = ⟨0, ByteArray.empty⟩ by unfold markAt; rw [List.getD_eq_getElem?_getD, List.getElem?_eq_none (by omega)]; rfl] at h
    have : jAt ⟨0, ByteArray.empty⟩ = none := by decide
    rw [this] at h
    cases h
/-- Enough steps are enough. -/
theorem prs_same (ts : List Mark) : ∀ k k', (∀ a p, 2 * (ts.length - p) + 2 ≤ k → 2 * (ts.length - p) + 2 ≤ k' → prs ts k a none p = prs ts k' a none p) ∧ ∀ a y p, 2 * (ts.length - p) + 1 ≤ k → 2 * (ts.length - p) + 1 ≤ k' → prs ts k a (some y) p = prs ts k' a (some y) p
  | 0, _ => ⟨fun a p h _ => by omega, fun a y p h _ => by omega⟩
  | _ + 1, 0 => ⟨fun a p _ h => by omega, fun a y p _ h => by omega⟩
  | k + 1, k' + 1 => by
    obtain ⟨i1, i2⟩ := prs_same ts k k'
    refine ⟨fun a p h h' => ?_, fun a y p h h' => ?_⟩
    · rw [prs, prs]
      split
      · rename_i hm
        have hl := isMk_lt (by omega) hm.2
        exact choiceR_congr (part := fun a q => prs ts k a none q) (part' := fun a q => prs ts k' a none q) (prs_far ts k).1 fun a q hq => i1 a q (by omega) (by omega)
      · refine Res.go_congr (atomR_congr fun hl a q hq => i1 a q (by omega) (by omega)) fun x q h1 => ?_
        have := atomR_far (part := fun a q => prs ts k a none q) (prs_far ts k).1 h1
        exact i2 _ _ _ (by omega) (by omega)
    · obtain ⟨y, rank⟩ := y
      rw [prs, prs]
      split
      · rfl
      · rename_i j hj
        have hl := jAt_lt hj
        split
        · rfl
        · refine Res.go_congr (i1 _ _ (by omega) (by omega)) fun x q h1 => ?_
          have := (prs_far ts k).1 _ _ _ _ h1
          exact i2 _ _ _ (by omega) (by omega)
end Go.Proofs.YtkieljleopbhoabDoor.Lex
namespace Go.Proofs.YtkieljleopbhoabDoor.Lex
open Go.ChangeShapes Go.WideShapes Go.ChangeAt Go.RowKit Go.Joins Go.WideMaps Go.WideElems Go.Maps
/-- What the reader needs besides. -/
structure PEnv (r mp : Nat) (w : World) : Prop where
  tabR : TabR w
  tabJ : TabJ w
  var : ∃ tp pv, w.var? Tryd.prog "strconv.ErrRange" = some #[.iface tp pv]
  am : AtM (fun _ => true) mp 0 w
  far : 6 ≤ r
  ne : mp ≠ r
theorem AtM.kept {b : Nat → Bool} {mp n : Nat} {w W : World} (h : AtM b mp n w) (hb : mp < w.heap.size → W.heap[mp]? = w.heap[mp]?) : AtM b mp n W := by
  obtain ⟨es, clock, e1, e2⟩ := h
  exact ⟨es, clock, (hb (Array.getElem?_eq_some_iff.1 e1).1).trans e1, e2⟩
theorem PEnv.grown {r mp : Nat} {w W : World} (h : PEnv r mp w) (g : w.grownBy W (some r)) : PEnv r mp W := by
  have hf := h.far
  have hb : ∀ k, k < w.heap.size → k ≠ r → W.heap[k]? = w.heap[k]? := fun k hk hkr => g.block k hk (fun e => by injection e with e; exact hkr e)
  refine ⟨?_, ?_, ?_, h.am.kept fun hl => hb mp hl h.ne, hf, h.ne⟩
  · obtain ⟨t, fz, e⟩ := h.tabR
    exact ⟨t, fz, (hb 2 (Array.getElem?_eq_some_iff.1 e).1 (by omega)).trans e⟩
  · obtain ⟨t, fz, e⟩ := h.tabJ
    exact ⟨t, fz, (hb 1 (Array.getElem?_eq_some_iff.1 e).1 (by omega)).trans e⟩
  · obtain ⟨tp, pv, e⟩ := h.var
    refine ⟨tp, pv, ?_⟩
    unfold World.var? at e ⊢
    rw [gRange] at e ⊢
    simp only [Option.bind_some] at e ⊢
    by_cases hl : 5 < w.heap.size
    · rw [hb 5 hl (by omega)]; exact e
    · rw [Array.getElem?_eq_none (by omega)] at e; cases e
theorem PEnv.below {r mp : Nat} {w W : World} (h : PEnv r mp w) (b : Below w.heap.size w W) : PEnv r mp W := h.grown (grown_below b _)
/-- Tokens that may be. -/
def TsOk (ts : List Mark) : Prop := ∀ m ∈ ts, m.kind < 256 ∧ m.text.size ≤ 1048576
theorem TsOk.at {ts : List Mark} (h : TsOk ts) (p : Nat) : (markAt ts p).kind < 256 ∧ (markAt ts p).text.size ≤ 1048576 := by
  unfold markAt
  rw [List.getD_eq_getElem?_getD]
  cases e : ts[p]? with
  | none => exact ⟨by decide, by decide⟩
  | some m => exact h m (List.mem_of_getElem? e)
theorem zeroFn (w : World) : (zeroValue 58).run Tryd.prog w = .ok .nilFunc w := by kernel_rfl
set_option maxRecDepth 100000 in
theorem AtM.look {mp : Nat} {w : World} (h : AtM (fun _ => true) mp 0 w) (m : Mark) (hk : m.kind < 256) (hs : m.text.size ≤ 1048576) :
    (∀ k, k < 8 → aKey k ≠ mkV m) ∧ (Instr.lookup 57 (.map (some mp)) (mkV m) true).run Tryd.prog w = .ok (.tuple #[.nilFunc, .bool false]) w ∨ ∃ k, k < 8 ∧ aKey k = mkV m ∧ (Instr.lookup 57 (.map (some mp)) (mkV m) true).run Tryd.prog w = .ok (.tuple #[aVal k, .bool true]) w := by
  obtain ⟨es, clock, hh, F, _, h1, h2⟩ := h
  obtain ⟨l, hl⟩ := key_is m hk (by unfold maxLen; omega)
  rcases fit_look true keyed81 Tryd.underlying57 (zeroFn w) hh F hl with ⟨e1, e2, _⟩ | ⟨e0, y, e1, e2, e3, _⟩
  · refine .inl ⟨fun k hk' e => ?_, e1⟩
    obtain ⟨x, hx, ex⟩ := h2 k hk' rfl
    exact e2 x hx (ex.trans e)
  · obtain ⟨k, hk', _, ek, ev⟩ := h1 e0 e1
    refine .inr ⟨k, hk', ek.symm.trans e2, ?_⟩
    rw [e3, ev]
    rfl
/-- A function value's call is a call of that function. -/
def Plain (F : FuncId) : Prop := ∀ (a : Array Value) (W : World), (callFunc F a).run Tryd.prog W = .ok (.enter F a) W
/-- What a reader's step answers, handed on from boxes. -/
theorem Post.behind {r mp : Nat} {v : Value} {ts : List Mark} {p q : Nat} {x : Ex} {s : Value} {w W w2 : World} (h : Rdr r mp v ts p w) (b0 : Below w.heap.size w W) (hs : w.heap.size < W.heap.size) (g2 : W.grownBy w2 (some r)) (st : StP (fun b => W.heap.size ≤ b) w2 x s) (h2 : Rdr r mp v ts q w2) (d : Array Value) :
    w.grownBy (w2.setRow w.heap.size d) (some r) ∧ StP (fun b => w.heap.size ≤ b) (w2.setRow w.heap.size d) x s ∧ Rdr r mp v ts q (w2.setRow w.heap.size d) := by
  refine ⟨grown_setRow (grown_on (grown_below b0 _) g2) d, ?_, h.setRow h2 d⟩
  refine StP.carryN (fun b hb hl => setRow_other _ _ _ _ (by have : W.heap.size ≤ b := hb; omega)) (fun b _ hb => ?_) _ x _ (Nat.le_refl _) st
  have : W.heap.size ≤ b := hb
  show w.heap.size ≤ b
  omega
set_option maxRecDepth 100000 in
set_option maxHeartbeats 1000000 in
theorem atom_first (F : FuncId) (hF : Plain F) (r mp : Nat) (v : Value) (ts : List Mark) (p : Nat) (w : World) (h : Rdr r mp v ts p w) (res : Res)
    (hl : ∀ W, w.grownBy W (some r) → (Instr.lookup 57 (.map (some mp)) (mkV (markAt ts p)) true).run Tryd.prog W = .ok (.tuple #[.func (.func F) #[] #[], .bool true]) W)
    (cf : ∀ W, Below w.heap.size w W → Calls Tryd.prog F #[.pointer (some ⟨r, 0, none⟩)] W (Post r mp v ts W res)) :
    Calls Tryd.prog 64 #[.pointer (some ⟨r, 0, none⟩)] w (Post r mp v ts w res) := by
  have b0 := (Below.refl w.heap.size w).alloc (Nat.le_refl _) (.cells #[.int .u8 0, .int .i64 0, .string ⟨#[]⟩, .slice none 0 0] 26)
  have c := fun W hW => peek r mp v ts p W (h.step hW)
  generalize markAt ts p = m at *
  have B0 := hid b0
  have H := hid h
  clear h b0
  go_enter Tryd.func64, Tryd.ntmps64
  go_wp2_with (go_at_call 59; refine (c _ B0.out).mono ?_; rintro e w2 ⟨rfl, b2⟩; have B2 := hid b2; clear b2 c)
  have b3 := (Below.refl w2.heap.size w2).alloc (Nat.le_refl _) (.cells #[.int .u8 (m.kind : Int), .string m.text] 75)
  have h3 := (H.out.step (bstep B0.out B2.out)).step b3
  have x2 : (w2.alloc (.cells #[.int .u8 (m.kind : Int), .string m.text] 75)).cell? ⟨r, 2, none⟩ = some (.map (some mp)) := by rw [cell_of_row _ _ _ _ 60 (0, 0) h3.cell]; rfl
  have hlk := fun n => hl ((w2.alloc (.cells #[.int .u8 (m.kind : Int), .string m.text] 75)).drewN n) (grown_below (below_drewN (bstep (bstep B0.out B2.out) b3) n) _)
  have hl0 := hl (w2.alloc (.cells #[.int .u8 (m.kind : Int), .string m.text] 75)) (grown_below (bstep (bstep B0.out B2.out) b3) _)
  have B3 := hid b3
  clear h3 hl b3
  go_quiet (fail)
  go_wp2
  rw [hF, Oper.upon_enter]
  have B4 := hid (below_drewN (bstep (bstep B0.out B2.out) B3.out) nq)
  have S4 := hid (show w.heap.size < ((w2.alloc (.cells #[.int .u8 (m.kind : Int), .string m.text] 75)).drewN nq).heap.size by
    have := B2.out.size
    simp at this
    show w.heap.size < (w2.alloc (.cells #[.int .u8 (m.kind : Int), .string m.text] 75)).heap.size
    simp
    omega)
  have X4 := hid (show ((w2.alloc (.cells #[.int .u8 (m.kind : Int), .string m.text] 75)).drewN nq).heap[w.heap.size]? = some (.cells #[.int .u8 0, .int .i64 0, .string ⟨#[]⟩, .slice none 0 0] 26 (0, 0)) from
    heap_drew ((B3.out.block _ (by have := B2.out.size; simp at this; omega)).trans ((B2.out.block _ (by simp)).trans (heap_alloc_new w _))) nq)
  generalize (w2.alloc (.cells #[.int .u8 (m.kind : Int), .string m.text] 75)).drewN nq = w4 at *
  refine (cf w4 B4.out).mono ?_
  clear hlk hl0 x2 B0 B2 B3 cf hF
  cases res with
  | error e =>
    obtain ⟨n, q⟩ := e
    rintro e w5 ⟨g5, rfl, h5⟩
    exact ⟨rfl, grown_on (grown_below B4.out _) g5, rfl, h5⟩
  | ok xq =>
    obtain ⟨x, q⟩ := xq
    rintro e w5 ⟨g5, s, rfl, st, h5⟩
    obtain ⟨ao, cap, rfl⟩ := st.form
    have hbx := kept X4.out g5 H.out.lt
    have Q := hid (Post.behind H.out B4.out S4.out g5 st h5 (ex4 x (.slice ao x.args.length cap)))
    clear g5 st h5
    rename_i hK1 hK
    refine hK _ _ ?_
    clear hK
    simp only [Act.put, List.setIfInBounds_toArray, List.set_cons_zero, List.set_cons_succ]
    go_wp2_with (refine wpList_store_row rfl 26 _ _ rfl w.heap.size (ex4 x (.slice ao x.args.length cap)) rfl rfl 26 _ hbx info25 rfl (by simp [Value.oneCell', ex4]) ?_)
    exact bodyPost_ret (results_cell_row rfl _ _ w.heap.size 26 (ex4 x (.slice ao x.args.length cap)) (0, 0) _ rfl (setRow_heap _ _ _ _ _ _ hbx) Tryd.underlying26 rfl info25) rfl ⟨Q.out.1, _, rfl, Q.out.2.1, Q.out.2.2⟩
set_option maxRecDepth 100000 in
set_option maxHeartbeats 1000000 in
theorem atom_second (F : FuncId) (hF : Plain F) (r mp : Nat) (v : Value) (ts : List Mark) (p : Nat) (w : World) (h : Rdr r mp v ts p w) (res : Res)
    (hl : ∀ W, w.grownBy W (some r) → (Instr.lookup 57 (.map (some mp)) (mkV (markAt ts p)) true).run Tryd.prog W = .ok (.tuple #[.nilFunc, .bool false]) W)
    (hl' : ∀ W, w.grownBy W (some r) → (Instr.lookup 57 (.map (some mp)) (mkV ⟨(markAt ts p).kind, ⟨#[]⟩⟩) true).run Tryd.prog W = .ok (.tuple #[.func (.func F) #[] #[], .bool true]) W)
    (cf : ∀ W, Below w.heap.size w W → Calls Tryd.prog F #[.pointer (some ⟨r, 0, none⟩)] W (Post r mp v ts W res)) :
    Calls Tryd.prog 64 #[.pointer (some ⟨r, 0, none⟩)] w (Post r mp v ts w res) := by
  have b0 := (Below.refl w.heap.size w).alloc (Nat.le_refl _) (.cells #[.int .u8 0, .int .i64 0, .string ⟨#[]⟩, .slice none 0 0] 26)
  have c := fun W hW => peek r mp v ts p W (h.step hW)
  generalize markAt ts p = m at *
  have B0 := hid b0
  have H := hid h
  clear h b0
  go_enter Tryd.func64, Tryd.ntmps64
  go_wp2_with (go_at_call 59; refine (c _ B0.out).mono ?_; rintro e w2 ⟨rfl, b2⟩; have B2 := hid b2; clear b2 c)
  have b3 := (Below.refl w2.heap.size w2).alloc (Nat.le_refl _) (.cells #[.int .u8 (m.kind : Int), .string m.text] 75)
  have h3 := (H.out.step (bstep B0.out B2.out)).step b3
  have x2 : (w2.alloc (.cells #[.int .u8 (m.kind : Int), .string m.text] 75)).cell? ⟨r, 2, none⟩ = some (.map (some mp)) := by rw [cell_of_row _ _ _ _ 60 (0, 0) h3.cell]; rfl
  have hlk := fun n => hl ((w2.alloc (.cells #[.int .u8 (m.kind : Int), .string m.text] 75)).drewN n) (grown_below (below_drewN (bstep (bstep B0.out B2.out) b3) n) _)
  have hl0 := hl (w2.alloc (.cells #[.int .u8 (m.kind : Int), .string m.text] 75)) (grown_below (bstep (bstep B0.out B2.out) b3) _)
  have hlk' := fun n => hl' ((w2.alloc (.cells #[.int .u8 (m.kind : Int), .string m.text] 75)).drewN n) (grown_below (below_drewN (bstep (bstep B0.out B2.out) b3) n) _)
  have B3 := hid b3
  clear h3 hl hl' b3
  go_quiet (fail)
  go_wp2
  generalize nq = n1 at *
  have x2' : ((w2.alloc (.cells #[.int .u8 (m.kind : Int), .string m.text] 75)).drewN n1).cell? ⟨r, 2, none⟩ = some (.map (some mp)) := x2
  go_quiet (fail)
  go_wp2
  rw [hF, Oper.upon_enter]
  have B4 := hid (below_drewN (bstep (bstep B0.out B2.out) B3.out) (n1 + nq))
  have S4 := hid (show w.heap.size < ((w2.alloc (.cells #[.int .u8 (m.kind : Int), .string m.text] 75)).drewN (n1 + nq)).heap.size by
    have := B2.out.size
    simp at this
    show w.heap.size < (w2.alloc (.cells #[.int .u8 (m.kind : Int), .string m.text] 75)).heap.size
    simp
    omega)
  have X4 := hid (show ((w2.alloc (.cells #[.int .u8 (m.kind : Int), .string m.text] 75)).drewN (n1 + nq)).heap[w.heap.size]? = some (.cells #[.int .u8 0, .int .i64 0, .string ⟨#[]⟩, .slice none 0 0] 26 (0, 0)) from
    heap_drew ((B3.out.block _ (by have := B2.out.size; simp at this; omega)).trans ((B2.out.block _ (by simp)).trans (heap_alloc_new w _))) (n1 + nq))
  generalize (w2.alloc (.cells #[.int .u8 (m.kind : Int), .string m.text] 75)).drewN (n1 + nq) = w4 at *
  refine (cf w4 B4.out).mono ?_
  clear hlk hl0 x2 B0 B2 B3 cf hF
  cases res with
  | error e =>
    obtain ⟨n, q⟩ := e
    rintro e w5 ⟨g5, rfl, h5⟩
    exact ⟨rfl, grown_on (grown_below B4.out _) g5, rfl, h5⟩
  | ok xq =>
    obtain ⟨x, q⟩ := xq
    rintro e w5 ⟨g5, s, rfl, st, h5⟩
    obtain ⟨ao, cap, rfl⟩ := st.form
    have hbx := kept X4.out g5 H.out.lt
    have Q := hid (Post.behind H.out B4.out S4.out g5 st h5 (ex4 x (.slice ao x.args.length cap)))
    clear g5 st h5
    rename_i hK1 hK
    refine hK _ _ ?_
    clear hK
    simp only [Act.put, List.setIfInBounds_toArray, List.set_cons_zero, List.set_cons_succ]
    go_wp2_with (refine wpList_store_row rfl 26 _ _ rfl w.heap.size (ex4 x (.slice ao x.args.length cap)) rfl rfl 26 _ hbx info25 rfl (by simp [Value.oneCell', ex4]) ?_)
    exact bodyPost_ret (results_cell_row rfl _ _ w.heap.size 26 (ex4 x (.slice ao x.args.length cap)) (0, 0) _ rfl (setRow_heap _ _ _ _ _ _ hbx) Tryd.underlying26 rfl info25) rfl ⟨Q.out.1, _, rfl, Q.out.2.1, Q.out.2.2⟩
set_option maxRecDepth 100000 in
set_option maxHeartbeats 1000000 in
theorem atom_none (r mp : Nat) (v : Value) (ts : List Mark) (p : Nat) (w : World) (h : Rdr r mp v ts p w) 
    (hl : ∀ W, w.grownBy W (some r) → (Instr.lookup 57 (.map (some mp)) (mkV (markAt ts p)) true).run Tryd.prog W = .ok (.tuple #[.nilFunc, .bool false]) W)
    (hl' : ∀ W, w.grownBy W (some r) → (Instr.lookup 57 (.map (some mp)) (mkV ⟨(markAt ts p).kind, ⟨#[]⟩⟩) true).run Tryd.prog W = .ok (.tuple #[.nilFunc, .bool false]) W) :
    Calls Tryd.prog 64 #[.pointer (some ⟨r, 0, none⟩)] w (Post r mp v ts w (.error (5, p))) := by
  have b0 := (Below.refl w.heap.size w).alloc (Nat.le_refl _) (.cells #[.int .u8 0, .int .i64 0, .string ⟨#[]⟩, .slice none 0 0] 26)
  have c := fun W hW => peek r mp v ts p W (h.step hW)
  generalize markAt ts p = m at *
  have B0 := hid b0
  have H := hid h
  clear h b0
  go_enter Tryd.func64, Tryd.ntmps64
  go_wp2_with (go_at_call 59; refine (c _ B0.out).mono ?_; rintro e w2 ⟨rfl, b2⟩; have B2 := hid b2; clear b2 c)
  have b3 := (Below.refl w2.heap.size w2).alloc (Nat.le_refl _) (.cells #[.int .u8 (m.kind : Int), .string m.text] 75)
  have h3 := (H.out.step (bstep B0.out B2.out)).step b3
  have x2 : (w2.alloc (.cells #[.int .u8 (m.kind : Int), .string m.text] 75)).cell? ⟨r, 2, none⟩ = some (.map (some mp)) := by rw [cell_of_row _ _ _ _ 60 (0, 0) h3.cell]; rfl
  have hlk := fun n => hl ((w2.alloc (.cells #[.int .u8 (m.kind : Int), .string m.text] 75)).drewN n) (grown_below (below_drewN (bstep (bstep B0.out B2.out) b3) n) _)
  have hl0 := hl (w2.alloc (.cells #[.int .u8 (m.kind : Int), .string m.text] 75)) (grown_below (bstep (bstep B0.out B2.out) b3) _)
  have hlk' := fun n => hl' ((w2.alloc (.cells #[.int .u8 (m.kind : Int), .string m.text] 75)).drewN n) (grown_below (below_drewN (bstep (bstep B0.out B2.out) b3) n) _)
  have B3 := hid b3
  clear h3 hl hl' b3
  go_quiet (fail)
  go_wp2
  generalize nq = n1 at *
  have x2' : ((w2.alloc (.cells #[.int .u8 (m.kind : Int), .string m.text] 75)).drewN n1).cell? ⟨r, 2, none⟩ = some (.map (some mp)) := x2
  go_quiet (fail)
  go_wp2
  have B4 := below_drewN (bstep (bstep B0.out B2.out) B3.out) (n1 + nq)
  exact ⟨rfl, grown_below B4 _, rfl, H.out.step B4⟩
end Go.Proofs.YtkieljleopbhoabDoor.Lex
namespace Go.Proofs.YtkieljleopbhoabDoor.Lex
open Go.RowKit
/-- A digit's byte. -/
def dg (r : Nat) : UInt8 := UInt8.ofNat (48 + r)
theorem dg_nat (r : Nat) (h : r < 10) : (dg r).toNat = 48 + r := by
  unfold dg
  rw [UInt8.toNat_ofNat']
  omega
theorem dg_digit (r : Nat) (h : r < 10) : digit (dg r) = true := by unfold digit; rw [dg_nat r h]; simp; omega
/-- The digits of a number, so many steps at most. -/
def digN : Nat → Nat → List UInt8
  | 0, k => [dg k]
  | m + 1, k => if k < 10 then [dg k] else digN m (k / 10) ++ [dg (k % 10)]
/-- The digits of a number. -/
def dig (k : Nat) : List UInt8 := digN k k
theorem digN_any : ∀ (m m' k : Nat), k ≤ m → k ≤ m' → digN m k = digN m' k
  | 0, 0, k, _, _ => rfl
  | 0, m' + 1, k, h, _ => by rw [digN, digN, if_pos (by omega)]
  | m + 1, 0, k, _, h => by rw [digN, digN, if_pos (by omega)]
  | m + 1, m' + 1, k, h, h' => by
    rw [digN, digN]
    by_cases h10 : k < 10
    · rw [if_pos h10, if_pos h10]
    · rw [if_neg h10, if_neg h10, digN_any m m' (k / 10) (by omega) (by omega)]
theorem dig_small {k : Nat} (h : k < 10) : dig k = [dg k] := by
  unfold dig
  cases k with
  | zero => rfl
  | succ m => rw [digN, if_pos h]
theorem dig_big {k : Nat} (h : ¬ k < 10) : dig k = dig (k / 10) ++ [dg (k % 10)] := by
  unfold dig
  obtain ⟨m, rfl⟩ : ∃ m, k = m + 1 := ⟨k - 1, by omega⟩
  rw [digN, if_neg h, digN_any m ((m + 1) / 10) ((m + 1) / 10) (by omega) (Nat.le_refl _)]
theorem dig_step (k : Nat) : dig k = (if k / 10 = 0 then [] else dig (k / 10)) ++ [dg (k % 10)] := by
  by_cases h : k < 10
  · rw [dig_small h, if_pos (by omega), Nat.mod_eq_of_lt h]; rfl
  · rw [dig_big h, if_neg (by omega)]
theorem dig_ind {P : Nat → Prop} (h0 : ∀ k, k < 10 → P k) (h1 : ∀ k, ¬ k < 10 → P (k / 10) → P k) (k : Nat) : P k := by
  induction k using Nat.strongRecOn with
  | _ k ih =>
    by_cases h : k < 10
    · exact h0 k h
    · exact h1 k h (ih (k / 10) (by omega))
theorem dig_digits (k : Nat) : ∀ c ∈ dig k, digit c = true := by
  induction k using dig_ind with
  | h0 k h => rw [dig_small h]; intro c hc; rw [List.mem_singleton.1 hc]; exact dg_digit k h
  | h1 k h ih =>
    rw [dig_big h]
    intro c hc
    rcases List.mem_append.1 hc with hc | hc
    · exact ih c hc
    · rw [List.mem_singleton.1 hc]; exact dg_digit _ (by omega)
theorem dig_pos (k : Nat) : 0 < (dig k).length := by
  induction k using dig_ind with
  | h0 k h => rw [dig_small h]; simp
  | h1 k h ih => rw [dig_big h]; simp
theorem dig_head (k : Nat) : 1 ≤ k → ((dig k).getD 0 0).toNat ≠ 48 := by
  induction k using dig_ind with
  | h0 k h => intro hk; rw [dig_small h]; show (dg k).toNat ≠ 48; rw [dg_nat k h]; omega
  | h1 k h ih => intro _; rw [dig_big h, getD_app _ _ _ (dig_pos _)]; exact ih (by omega)
theorem dig_len (n : Nat) : ∀ k, k < 10 ^ (n + 1) → (dig k).length ≤ n + 1 := by
  induction n with
  | zero => intro k hk; rw [dig_small (by omega)]; simp
  | succ n ih =>
    intro k hk
    by_cases h : k < 10
    · rw [dig_small h]; simp
    · rw [dig_big h, List.length_append]
      have := ih (k / 10) (by rw [Nat.pow_succ] at hk; omega)
      simp
      omega
theorem mag_app : ∀ (l r : List UInt8) (a : Nat), mag a (l ++ r) = (mag a l).bind fun b => mag b r
  | [], r, a => rfl
  | c :: l, r, a => by
    simp only [List.cons_append, mag]
    split
    · rfl
    · exact mag_app l r _
theorem mag_dig (k : Nat) : k ≤ 9223372036854775807 → mag 0 (dig k) = some k := by
  induction k using dig_ind with
  | h0 k h => intro hk; rw [dig_small h]; simp only [mag]; rw [dg_nat k h, if_neg (by omega)]; congr 1; omega
  | h1 k h ih =>
    intro hk
    rw [dig_big h, mag_app, ih (by omega)]
    simp only [Option.bind_some, mag]
    rw [dg_nat _ (by omega), if_neg (by omega)]
    congr 1
    omega
theorem span_all (p : UInt8 → Bool) (l : List UInt8) (h : ∀ c ∈ l, p c = true) : span p l = l.length := by
  induction l with
  | nil => rfl
  | cons c l ih => rw [span_cons, if_pos (h c (List.mem_cons_self ..)), ih fun x hx => h x (List.mem_cons_of_mem _ hx)]; rfl
theorem numLen_dig (k : Nat) : numLen (dig k) = (dig k).length := by
  have hs := span_all digit (dig k) (dig_digits k)
  unfold numLen
  rw [hs, if_neg]
  intro ⟨h1, h2⟩
  by_cases h : k < 10
  · rw [dig_small h] at h1; simp at h1
  · exact dig_head k (by omega) h2
theorem numLen_zero (k : Nat) : numLen (48 :: dig k) = 0 := by
  have hs := span_all digit (48 :: dig k) (fun c hc => by
    rcases List.mem_cons.1 hc with rfl | hc
    · decide
    · exact dig_digits k c hc)
  unfold numLen
  rw [hs, if_pos]
  exact ⟨by have := dig_pos k; simp; omega, by show (48 : UInt8).toNat = 48; decide⟩
theorem sg_nodigit (k : Nat) (hk : k < 16) : digit ((sgS k).data.toList.getD 0 0) = false := by
  have h : k = 0 ∨ k = 1 ∨ k = 2 ∨ k = 3 ∨ k = 4 ∨ k = 5 ∨ k = 6 ∨ k = 7 ∨ k = 8 ∨ k = 9 ∨ k = 10 ∨ k = 11 ∨ k = 12 ∨ k = 13 ∨ k = 14 ∨ k = 15 := by omega
  rcases h with rfl | rfl | rfl | rfl | rfl | rfl | rfl | rfl | rfl | rfl | rfl | rfl | rfl | rfl | rfl | rfl
  all_goals decide
/-- A text that begins with a digit: a number, or none. -/
theorem step_digit {l : List UInt8} (h : digit (l.getD 0 0) = true) : step l = if numLen l ≠ 0 then some (2, numLen l) else none := by
  have hn : 48 ≤ (l.getD 0 0).toNat ∧ (l.getD 0 0).toNat ≤ 57 := by unfold digit at h; simpa using h
  have hb : blank (l.getD 0 0) = false := by
    generalize l.getD 0 0 = c at hn
    unfold blank; simp; omega
  have hl : letter (l.getD 0 0) = false := by
    generalize l.getD 0 0 = c at hn
    unfold letter; simp; omega
  have h1 : silLen l = 0 := by
    unfold silLen
    rw [if_neg]
    · exact span_zero _ _ hb
    · intro hp
      obtain ⟨t, ht⟩ := prefix_app hp
      rw [ht] at hn
      simp at hn
  have h2 : wordLen l = 0 := by unfold wordLen; rw [if_pos (span_zero _ _ hl)]
  have h4 : signLen l = 0 := by
    rcases signLen_cases l with h | ⟨k', hk, hp, _⟩
    · exact h
    · obtain ⟨t, ht⟩ := prefix_app hp
      have hs := sg_size k' hk
      have := sg_nodigit k' hk
      rw [ht, getD_app _ _ _ (by rw [← Lib.size_eq]; omega)] at h
      rw [this] at h
      cases h
  unfold step
  simp [h1, h2, h4]
theorem toks_dig (k : Nat) : toks 0 (dig k) = .ok [⟨2, dig k, 0⟩] := by
  have hp := dig_pos k
  have hne : dig k ≠ [] := fun e => by rw [e] at hp; simp at hp
  have hd : digit ((dig k).getD 0 0) = true := by
    have := span_at digit (dig k) 0 (by rw [span_all digit _ (dig_digits k)]; exact hp)
    exact this
  have hs : step (dig k) = some (2, (dig k).length) := by rw [step_digit hd, numLen_dig, if_pos (by omega)]
  rw [toks_some hne hs, List.drop_length, toks_nil, List.take_length]
  rfl
theorem toks_zero (k : Nat) : toks 0 (32 :: 48 :: dig k) = .error 1 := by
  have h1 : step (32 :: 48 :: dig k) = some (0, 1) := by
    have h0 : silLen (32 :: 48 :: dig k) = 1 := by
      unfold silLen
      rw [if_neg (by simp [Lib.hasPrefix, List.isPrefixOf])]
      rw [span_cons, if_pos (by decide), span_cons, if_neg (by decide)]
    unfold step
    rw [h0]
    rfl
  have h2 : step (48 :: dig k) = none := by
    rw [step_digit (by show digit 48 = true; decide), numLen_zero]
    rfl
  rw [toks_some (by simp) h1]
  show ahead _ (toks 1 (48 :: dig k)) = _
  rw [toks_none (by simp) h2]
  rfl
theorem num_dig (s : ByteArray) (k : Nat) (hk : k ≤ 9223372036854775807) (hs : s.data.toList = dig k) : numN s = (k : Int) ∧ numE s = 0 := by
  have hz : s.size = (dig k).length := by rw [Lib.size_eq, hs]
  have hp := dig_pos k
  unfold numN numE
  rw [hs, numLen_dig, if_neg (by omega), if_neg (by omega), mag_dig k hk]
  exact ⟨rfl, rfl⟩
theorem num_zero (s : ByteArray) (k : Nat) (hs : s.data.toList = 48 :: dig k) : numN s = 0 ∧ numE s = 5 := by
  have hz : s.size = (dig k).length + 1 := by rw [Lib.size_eq, hs]; rfl
  unfold numN numE
  rw [hs, numLen_zero, if_pos (.inr (by omega)), if_pos (.inr (by omega))]
  exact ⟨rfl, rfl⟩
/-- How far the digits are told. -/
def Told (k m : Nat) (l : List UInt8) : Prop := (l = [] ∧ m = k) ∨ (l ≠ [] ∧ dig k = (if m = 0 then [] else dig m) ++ l)
theorem Told.step {k m : Nat} {l : List UInt8} (h : Told k m l) (hg : 0 < m ∨ l = []) : Told k (m / 10) (dg (m % 10) :: l) := by
  refine .inr ⟨by simp, ?_⟩
  rcases h with ⟨rfl, rfl⟩ | ⟨hl, h⟩
  · exact dig_step m
  · have hm : 0 < m := hg.resolve_right hl
    rw [h, if_neg (by omega), dig_step m, List.append_assoc]
    rfl
theorem Told.done {k : Nat} {l : List UInt8} (h : Told k 0 l) (hl : l ≠ []) : l = dig k := by
  rcases h with ⟨h, _⟩ | ⟨_, h⟩
  · exact (hl h).elim
  · rw [h, if_pos rfl]; rfl
end Go.Proofs.YtkieljleopbhoabDoor.Lex
