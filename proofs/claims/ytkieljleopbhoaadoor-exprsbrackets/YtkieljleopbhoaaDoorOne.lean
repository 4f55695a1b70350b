/-
  An operator of one, read: the contract of one, over that of part.
-/
import Derived.Test.YtkieljleopbhoaaDoorLeaves2
import Derived.Great.BuildSlice
namespace Go.Proofs.YtkieljleopbhoaaDoor.Lex
open Go.ChangeShapes Go.WideShapes Go.ChangeAt Go.RowKit Go.Joins
theorem StP.form {ok : Nat → Prop} {w : World} {x : Ex} {s : Value} (h : StP ok w x s) : ∃ ao cap, s = .slice ao x.args.length cap := by
  obtain ⟨ao, cap, _, hs, _⟩ := h.out
  exact ⟨ao, cap, hs⟩
abbrev z25 : Value := .agg #[.int .u8 0, .int .i64 0, .string ⟨#[]⟩, .slice none 0 0]
theorem inf25 : ∃ ie, Tryd.prog.info? 25 = some ie ∧ ie.zero = some z25 ∧ ie.size = 4 := by
  have h : (Tryd.prog.info? 25).map (fun i => (i.zero, i.size)) = some (some z25, 4) := by kernel_rfl
  obtain ⟨ie, h1, h2⟩ := Option.map_eq_some_iff.1 h
  injection h2 with h2 h3
  exact ⟨ie, h1, h2, h3⟩
abbrev ex4 (x : Ex) (s : Value) : Array Value := #[.int .u8 (x.op : Int), .int .i64 x.n, .string x.name, s]
theorem fill1 (x : Ex) (ao : Option Addr) (n cap : Nat) : Instr.fill (fun i => some (i * 4, 4)) ((Array.range (1 * 4)).map (z25.cells[· % z25.cells.size]!)) [(0, exV x (.slice ao n cap))] = some (ex4 x (.slice ao n cap)) := by
  have e : ((Array.range (1 * 4)).map (z25.cells[· % z25.cells.size]!)) = #[.int .u8 0, .int .i64 0, .string ⟨#[]⟩, .slice none 0 0] := by kernel_rfl
  rw [e]
  simp [Instr.fill]
  exact ⟨⟨rfl, Nat.le_refl 4⟩, rfl⟩
set_option maxRecDepth 100000 in
set_option maxHeartbeats 1000000 in
theorem one_bad (r mp : Nat) (v : Value) (ts : List Mark) (p op n q : Nat) (w : World) (h : Rdr r mp v ts p w) (hp : p < ts.length)
    (cp : ∀ W, w.grownBy W (some r) → Rdr r mp v ts (p + 1) W → Calls Tryd.prog 65 #[.pointer (some ⟨r, 0, none⟩), .int .i64 6] W (Post r mp v ts W (.error (n, q)))) :
    Calls Tryd.prog 61 #[.pointer (some ⟨r, 0, none⟩), .int .u8 (op : Int)] w (Post r mp v ts w (.error (n, q))) := by
  have b0 := (Below.refl w.heap.size w).alloc (Nat.le_refl _) (.cells #[.int .u8 0, .int .i64 0, .string ⟨#[]⟩, .slice none 0 0] 25)
  obtain ⟨y0, y1, hg, hr⟩ := moved (h.step b0) hp
  have hfew : (p : Int) < 140737488355328 := by have := h.few; omega
  have HG := hid (grown_on (grown_below b0 (some r)) hg)
  have HR := hid hr
  clear h hp hg hr b0
  go_enter Tryd.func61, Tryd.ntmps61
  go_wp2_with (go_at_call 65; refine (cp _ HG.out HR.out).mono ?_; rintro e w2 ⟨g2, rfl, h2⟩; have G2 := hid g2; have H2 := hid h2; clear g2 h2 cp)
  exact ⟨rfl, grown_on HG.out G2.out, rfl, H2.out⟩
/-- Tokens lie ahead of what is made behind them. -/
theorem Rdr.setRow {r mp : Nat} {v : Value} {ts : List Mark} {p q : Nat} {w W : World} (h : Rdr r mp v ts p w) (h2 : Rdr r mp v ts q W) (d : Array Value) : Rdr r mp v ts q (W.setRow w.heap.size d) := by
  have hlt := h.lt
  refine ⟨(setRow_other _ _ _ _ (by omega)).trans h2.cell, ?_, h2.le, h2.few, h2.far, h2.own⟩
  obtain ⟨a, cap, rfl, hc⟩ := h.toks
  rcases hc with h0 | ⟨g, o, hg, hcc⟩
  · obtain ⟨a2, cap2, e2, _⟩ := h2.toks
    exact ⟨a2, cap2, e2, .inl h0⟩
  · by_cases h0 : ts.length = 0
    · obtain ⟨a2, cap2, e2, _⟩ := h2.toks
      exact ⟨a2, cap2, e2, .inl h0⟩
    · refine h2.toks.carry fun a' n c' ev hl => setRow_other _ _ _ _ ?_
      intro he
      injection ev with e1 e2 e3
      rw [hg] at e1
      injection e1 with e1
      have hlt2 : g < w.heap.size := World.block_lt_of_cell? w ⟨g, o + 0 * 3, none⟩ (hcc 0 (by omega)).1
      rw [← e1] at he
      simp only at he
      omega
theorem grown_setRow {w W : World} {r : Option Nat} (g : w.grownBy W r) (d : Array Value) : w.grownBy (W.setRow w.heap.size d) r :=
  ⟨g.os, g.tape, g.output, by have := g.size; simpa [World.setRow] using this, fun k hk hkr => (setRow_other _ _ _ _ (by omega)).trans (g.block k hk hkr)⟩
/-- A box stays where others are written. -/
theorem box_kept {w w2 : World} {r : Nat} {c : Array Value} {t : TypeId} {u : Value} (hr : r < w.heap.size) (g : ((w.alloc (.cells c t)).setCell ⟨r, 1, none⟩ u).grownBy w2 (some r)) : w2.heap[w.heap.size]? = some (.cells c t (0, 0)) := by
  rw [g.block _ (by simp [World.setCell]) (fun e => by injection e; omega), Below.heap_setCell _ _ _ _ (by show w.heap.size ≠ r; omega)]
  exact heap_alloc_new w _
/-- What has one part, in new memory. -/
theorem StP.one {ok : Nat → Prop} {W : World} {x : Ex} {s : Value} (op : Nat) (hop : op < 256) (g : Nat) (hg : ok g) (hst : StP ok W x s) (hc : W.heap[g]? = some (.cells (ex4 x s) 25 (0, 0))) : StP ok W ⟨op, 0, ByteArray.empty, [x]⟩ (.slice (some ⟨g, 0, none⟩) 1 1) := by
  refine StP.intro ⟨op, 0, ByteArray.empty, [x]⟩ (some ⟨g, 0, none⟩) 1 (fun _ => s) hop (by simp) (by show ByteArray.empty.size ≤ _; decide) (by simp) (by simp) (.inr ⟨g, 0, rfl, hg, fun i hi => ?_⟩) (fun i hi => ?_)
  · obtain rfl : i = 0 := by simpa using hi
    refine ⟨?_, ?_, ?_, ?_⟩ <;> (rw [cell_of_row _ _ _ _ 25 (0, 0) hc]; rfl)
  · obtain rfl : i = 0 := by simpa using hi
    exact hst
set_option maxRecDepth 100000 in
set_option maxHeartbeats 1000000 in
theorem one_ok (r mp : Nat) (v : Value) (ts : List Mark) (p op q : Nat) (x : Ex) (w : World) (h : Rdr r mp v ts p w) (hp : p < ts.length) (hop : op < 256)
    (cp : ∀ W, w.grownBy W (some r) → Rdr r mp v ts (p + 1) W → Calls Tryd.prog 65 #[.pointer (some ⟨r, 0, none⟩), .int .i64 6] W (Post r mp v ts W (.ok (x, q)))) :
    Calls Tryd.prog 61 #[.pointer (some ⟨r, 0, none⟩), .int .u8 (op : Int)] w (Post r mp v ts w (.ok (⟨op, 0, ByteArray.empty, [x]⟩, q))) := by
  have b0 := (Below.refl w.heap.size w).alloc (Nat.le_refl _) (.cells #[.int .u8 0, .int .i64 0, .string ⟨#[]⟩, .slice none 0 0] 25)
  obtain ⟨y0, y1, hg, hr⟩ := moved (h.step b0) hp
  have hfew : (p : Int) < 140737488355328 := by have := h.few; omega
  have HG := hid (grown_on (grown_below b0 (some r)) hg)
  have HR := hid hr
  have H := hid h
  have HOP := hid hop
  clear h hp hg hr b0 hop
  go_enter Tryd.func61, Tryd.ntmps61
  go_wp2_with (fail)
  refine (cp _ HG.out HR.out).mono ?_
  rintro e w2 ⟨g2, s, rfl, st, h2⟩
  obtain ⟨ao, cap, rfl⟩ := st.form
  have hbx := box_kept H.out.lt g2
  have b3 := (Below.refl w2.heap.size w2).alloc (Nat.le_refl _) (.cells (ex4 x (.slice ao x.args.length cap)) 25)
  have hbx3 := (b3.block _ (Array.getElem?_eq_some_iff.1 hbx).1).trans hbx
  have hlt2 := (Array.getElem?_eq_some_iff.1 hbx).1
  have G2 := hid (grown_on (grown_on HG.out g2) (grown_below b3 _))
  have H2 := hid (h2.step b3)
  have ST := hid st
  have B3 := hid b3
  have HL := hid hlt2
  clear g2 h2 st cp b3 hbx hlt2 y0 y1
  rename_i K hK
  refine hK _ _ ?_
  clear hK K
  obtain ⟨ie, hie, hz, hsz⟩ := inf25
  refine wpList_buildSlice rfl 23 25 1 _ rfl (ex4 x (.slice ao x.args.length cap)) ie z25 Tryd.underlying23 hie hz (by rw [hsz]; decide) (by rw [hsz]; decide) (by rw [hsz]; simp only [List.map_toArray, List.map_cons, List.map_nil]; exact fill1 x ao x.args.length cap) ?_
  clear hie hz hsz
  go_wp2_with (refine wpList_store_row rfl 25 _ _ rfl w.heap.size #[.int .u8 (op : Int), .int .i64 0, .string ⟨#[]⟩, .slice (some ⟨w2.heap.size, 0, none⟩) 1 1] rfl rfl 25 _ hbx3 info25 rfl (by simp [Value.oneCell']) ?_)
  refine bodyPost_ret (results_cell_row rfl _ _ w.heap.size 25 #[.int .u8 (op : Int), .int .i64 0, .string ⟨#[]⟩, .slice (some ⟨w2.heap.size, 0, none⟩) 1 1] (0, 0) _ rfl (setRow_heap _ _ _ _ _ _ hbx3) Tryd.underlying25 rfl info25) rfl ⟨grown_setRow G2.out _, _, rfl, ?_, H.out.setRow H2.out _⟩
  refine StP.one op HOP.out w2.heap.size (by have := HL.out; omega) ?_ ((setRow_other _ _ _ _ (by have := HL.out; omega)).trans (heap_alloc_new w2 _))
  refine StP.carryN (fun b hb hl => ?_) (fun b _ hb => ?_) _ x _ (Nat.le_refl _) ST.out
  · simp [World.setCell] at hb
    exact (setRow_other _ _ _ _ (by omega)).trans (B3.out.block b hl)
  · simp [World.setCell] at hb
    show w.heap.size ≤ b
    omega
end Go.Proofs.YtkieljleopbhoaaDoor.Lex
