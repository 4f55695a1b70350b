/-
  A part that may not be spoils all: plain mathematics.
  A part made so that it may not be: the contract of odd.
  A part made so that it may not be: the contract of odd, where the part is found.
  A part made so that it may not be: the contract of odd.
-/
import Derived.Test.YtkieljleopbhoabDoorB7
import Derived.Laws.OwnMore
import Derived.Deep.MidRow
namespace Go.Proofs.YtkieljleopbhoabDoor.Lex
/-- The word then. -/
abbrev thenB : ByteArray := ⟨#[116, 104, 101, 110]⟩
/-- One field of it changed. -/
def spoil (x : Ex) (which : Nat) : Ex :=
  if which % 5 = 0 then ⟨x.op, x.n, x.name, x.args ++ [⟨2, 0, ByteArray.empty, []⟩]⟩
  else if which % 5 = 1 then ⟨x.op, -1, x.name, x.args⟩
  else if which % 5 = 2 then ⟨x.op, x.n, thenB, x.args⟩
  else if which % 5 = 3 then ⟨0, x.n, x.name, x.args⟩
  else ⟨20, x.n, x.name, x.args⟩
/-- A part of it, looked for so deep, changed so. -/
def oddX : Nat → Ex → Nat → Nat → Ex
  | 0, x, which, _ => spoil x which
  | f + 1, x, which, way => if x.args.length = 0 ∨ way = 0 then spoil x which else
    ⟨x.op, x.n, x.name, x.args.modify (way % x.args.length) fun y => oddX f y which (way / 2)⟩
theorem fields_not {op : Nat} {n : Int} {nm : ByteArray} {len : Nat} (h : fieldsOk op n nm len = true) :
    fieldsOk op n nm (len + 1) = false ∧ fieldsOk op (-1) nm len = false ∧ fieldsOk op n thenB len = false ∧ fieldsOk 0 n nm len = false ∧ fieldsOk 20 n nm len = false := by
  have hthen : isName thenB = false := by rw [isName_eq]; decide +kernel
  have h0 : parts 0 = 0 := by decide
  have h20 : parts 20 = 0 := by decide
  have hz : thenB.size = 4 := rfl
  unfold fieldsOk at h ⊢
  by_cases h1 : op = 1
  · simp only [h1, if_true, Bool.and_eq_true, decide_eq_true_eq] at h ⊢
    refine ⟨?_, ?_, ?_, ?_, ?_⟩ <;> simp [hz, h0, h20]
  · by_cases h2 : op = 2
    · simp only [h2, if_true] at h ⊢
      refine ⟨?_, ?_, ?_, ?_, ?_⟩ <;> simp [hz, h0, h20]
    · by_cases h3 : op = 3
      · simp only [h3, if_true] at h ⊢
        refine ⟨?_, ?_, ?_, ?_, ?_⟩ <;> simp [hthen, h0, h20]
      · simp only [h1, h2, h3, if_false, Bool.and_eq_true, decide_eq_true_eq] at h ⊢
        obtain ⟨_, _, _, h4⟩ := h
        refine ⟨?_, ?_, ?_, ?_, ?_⟩ <;> simp [hz, h0, h20]
        omega
theorem sz_bad {x : Ex} (h : fieldsOk x.op x.n x.name x.args.length = false) : ∀ d M, sz d M x = none
  | 0, _ => rfl
  | d + 1, M => by rw [sz, if_pos (.inr h)]
theorem spoil_none {x : Ex} (which : Nat) (h : fieldsOk x.op x.n x.name x.args.length = true) (d M : Nat) : sz d M (spoil x which) = none := by
  obtain ⟨h1, h2, h3, h4, h5⟩ := fields_not h
  refine sz_bad ?_ d M
  unfold spoil
  split
  · simpa using h1
  · split
    · exact h2
    · split
      · exact h3
      · split
        · exact h4
        · exact h5
theorem szL_bad {f : Nat → Ex → Option Nat} {y : Ex} (hy : ∀ m, f m y = none) (M : Nat) : ∀ (l : List Ex) (n : Nat), y ∈ l → szL f M n l = none
  | [], _, h => by cases h
  | a :: l, n, h => by
    simp only [szL]
    cases e : f (M - n) a with
    | none => rfl
    | some k =>
      simp only
      rcases List.mem_cons.1 h with rfl | h
      · rw [hy] at e; cases e
      · exact szL_bad hy M l _ h
theorem szL_each {f : Nat → Ex → Option Nat} {M : Nat} : ∀ (l : List Ex) (n k : Nat), szL f M n l = some k → ∀ y ∈ l, ∃ m ka, f m y = some ka
  | [], _, _, _, y, h => by cases h
  | a :: l, n, k, hz, y, h => by
    obtain ⟨ka, h1, h2⟩ := szL_cons hz
    rcases List.mem_cons.1 h with rfl | h
    · exact ⟨_, ka, h1⟩
    · exact szL_each l _ _ h2 y h
/-- It may not be, however deep and great it may be. -/
theorem odd_none : ∀ (f : Nat) (x : Ex) (which way d M k : Nat), sz d M x = some k → ∀ d' M', sz d' M' (oddX f x which way) = none
  | f, x, which, way, 0, M, k, h => by simp [sz] at h
  | 0, x, which, way, d + 1, M, k, h => fun d' M' => spoil_none which (sz_parts h).2.1 d' M'
  | f + 1, x, which, way, d + 1, M, k, h => fun d' M' => by
    obtain ⟨_, hf, hl⟩ := sz_parts h
    rw [oddX]
    split
    · exact spoil_none which hf d' M'
    · next hn =>
      cases d' with
      | zero => rfl
      | succ d' =>
        rw [sz]
        split
        · rfl
        · have hlt : way % x.args.length < x.args.length := Nat.mod_lt _ (by omega)
          obtain ⟨m, ka, hz⟩ := szL_each x.args 1 k hl (x.args[way % x.args.length]) (List.getElem_mem hlt)
          refine szL_bad (y := oddX f x.args[way % x.args.length] which (way / 2)) (fun m' => odd_none f _ which (way / 2) d m ka hz d' m') M' _ _ ?_
          refine List.mem_of_getElem? (i := way % x.args.length) ?_
          rw [List.getElem?_modify_eq, List.getElem?_eq_getElem hlt]
          rfl
/-- Check says no. -/
theorem odd_chk (f : Nat) (x : Ex) (which way : Nat) (h : chk x = true) : chk (oddX f x which way) = false := by
  unfold chk at h ⊢
  obtain ⟨k, hk⟩ := Option.isSome_iff_exists.1 h
  rw [odd_none f x which way 32 200 k hk 32 200]
  rfl
end Go.Proofs.YtkieljleopbhoabDoor.Lex
namespace Go.Proofs.YtkieljleopbhoabDoor.Lex
open Go.ChangeShapes Go.WideShapes Go.ChangeAt Go.RowKit Go.Joins
theorem run_append_zero {P : Program} {w : World} (t ty e : TypeId) (i : TypeInfo) (ht : P.underlying t = some (.slice e)) (hi : P.info? e = some i) (ao : Option Addr) (c : Nat) :
    (Builtin.append_ #[t, t] ty #[.slice none 0 0, .slice ao 0 c]).run P w = .ok (.slice none 0 0) w := by
  cases ao <;> simp [Builtin.append_, run_underlying ht, sizeOf, typeInfo, hi, Builtin.lenOf, Builtin.firstCells, loadCells, loadCellsFrom]
/-- Nothing is put behind nothing. -/
theorem wpList_append_zero {P : Program} {w : World} {ops : Array Oper} {rest : List Oper} {o : Oper} {a : Act} {Q : Exit → Act → World → Prop} (hgd : o.guard = none) (s x : Operand) (t : TypeId)
    (ho : o.op = .call { callee := .builtin .append, args := #[s, x], argTypes := #[t, t] })
    (e : TypeId) (i : TypeInfo) (ht : P.underlying t = some (.slice e)) (hi : P.info? e = some i)
    (ao : Option Addr) (c : Nat) (hs : a.eval s = .slice none 0 0) (hx : a.eval x = .slice ao 0 c)
    (h : wpList P ops Q rest (a.put o.dst (.slice none 0 0)) w) : wpList P ops Q (o :: rest) a w := by
  refine wpList_plain hgd fun K hK => ?_
  have hrun := run_append_zero (P := P) (w := w) t o.type e i ht hi ao c
  unfold Oper.wp
  simp [execOp, ho, resolve, invoke, builtin, hs, hx, hrun, Result.andThen]
  exact hK _ _ h
theorem pairsV_set : ∀ (ps : List (Ex × Value)) (k : Nat) (p : Ex × Value), ((((pairsV ps).set (k * 4) (.int .u8 (p.1.op : Int))).set (k * 4 + 1) (.int .i64 p.1.n)).set (k * 4 + 2) (.string p.1.name)).set (k * 4 + 3) p.2 = pairsV (ps.set k p)
  | [], k, p => by simp [pairsV]
  | q :: ps, 0, p => by simp [pairsV, pairV]
  | q :: ps, k + 1, p => by
    have ih := pairsV_set ps k p
    have e : pairsV (q :: ps) = pairV q ++ pairsV ps := by simp [pairsV]
    have e' : pairsV ((q :: ps).set (k + 1) p) = pairV q ++ pairsV (ps.set k p) := by simp [pairsV]
    rw [e, e', ← ih]
    have h0 : (k + 1) * 4 = k * 4 + 4 := by omega
    have h1 : (k + 1) * 4 + 1 = k * 4 + 1 + 4 := by omega
    have h2 : (k + 1) * 4 + 2 = k * 4 + 2 + 4 := by omega
    have h3 : (k + 1) * 4 + 3 = k * 4 + 3 + 4 := by omega
    rw [h0, show k * 4 + 4 + 1 = k * 4 + 1 + 4 by omega, show k * 4 + 4 + 2 = k * 4 + 2 + 4 by omega, show k * 4 + 4 + 3 = k * 4 + 3 + 4 by omega]
    simp [pairV]
/-- The parts of it, as they lie in memory. -/
theorem St.row {w : World} {x : Ex} {ao : Option Addr} {n cap : Nat} (h : St w x (.slice ao n cap)) : n = x.args.length ∧ x.args.length ≤ 2513169434843 ∧
    ∃ ps : List (Ex × Value), ps.map (·.1) = x.args ∧ (∀ p ∈ ps, St w p.1 p.2) ∧ (∀ ad, ao = some ad → ∀ j u, (pairsV ps)[j]? = some u → w.cell? (ad.add j) = some u) ∧ (∀ u ∈ pairsV ps, u.oneCell' = true) := by
  obtain ⟨ao', cap', sl, e, _, _, _, hlen, _, hc, hs⟩ := h.out
  injection e with e1 e2 e3
  subst e1 e2 e3
  have hl : ((List.range x.args.length).map fun i => (x.args[i]?.getD ⟨0, 0, ByteArray.empty, []⟩, sl i)).length = x.args.length := by simp
  have hg : ∀ i (hi : i < x.args.length), ((List.range x.args.length).map fun i => (x.args[i]?.getD ⟨0, 0, ByteArray.empty, []⟩, sl i))[i]'(by omega) = (x.args[i], sl i) := fun i hi => by simp [hi]
  refine ⟨rfl, hlen, (List.range x.args.length).map fun i => (x.args[i]?.getD ⟨0, 0, ByteArray.empty, []⟩, sl i), ?_, ?_, ?_, ?_⟩
  · apply List.ext_getElem
    · simp
    · intro i h1 h2
      simp [h2]
  · intro p hp
    obtain ⟨i, hi, rfl⟩ := List.getElem_of_mem hp
    rw [hg i (by omega)]
    exact hs i (by omega)
  · rintro ad rfl j u hj
    have hjl := (List.getElem?_eq_some_iff.1 hj).1
    rw [pairsV_len, hl] at hjl
    obtain ⟨b, o, e, hcc⟩ := hc.resolve_left (by omega)
    obtain rfl := Option.some.inj e
    have hi : j / 4 < x.args.length := by omega
    obtain ⟨q0, q1, q2, q3⟩ := pairsV_at ((List.range x.args.length).map fun i => (x.args[i]?.getD ⟨0, 0, ByteArray.empty, []⟩, sl i)) [] (j / 4) (by omega)
    rw [List.append_nil] at q0 q1 q2 q3
    rw [hg _ hi] at q0 q1 q2 q3
    obtain ⟨c0, c1, c2, c3⟩ := hcc (j / 4) hi
    have hadd : (⟨b, o, none⟩ : Addr).add j = ⟨b, o + j, none⟩ := by unfold Addr.add; split <;> simp_all
    rw [hadd]
    have hm : j % 4 < 4 := Nat.mod_lt _ (by omega)
    rcases (by omega : j % 4 = 0 ∨ j % 4 = 1 ∨ j % 4 = 2 ∨ j % 4 = 3) with h | h | h | h
    · rw [show j = j / 4 * 4 by omega] at hj
      rw [q0] at hj
      rw [show o + j = o + j / 4 * 4 by omega, ← hj]; exact c0
    · rw [show j = j / 4 * 4 + 1 by omega] at hj
      rw [q1] at hj
      rw [show o + j = o + j / 4 * 4 + 1 by omega, ← hj]; exact c1
    · rw [show j = j / 4 * 4 + 2 by omega] at hj
      rw [q2] at hj
      rw [show o + j = o + j / 4 * 4 + 2 by omega, ← hj]; exact c2
    · rw [show j = j / 4 * 4 + 3 by omega] at hj
      rw [q3] at hj
      rw [show o + j = o + j / 4 * 4 + 3 by omega, ← hj]; exact c3
  · intro u hu
    obtain ⟨p, hp, hup⟩ := List.mem_flatMap.1 hu
    obtain ⟨i, hi, rfl⟩ := List.getElem_of_mem hp
    rw [hg i (by omega)] at hup
    obtain ⟨a3, c3, _, e3, _⟩ := (hs i (by omega)).out
    simp [pairV, e3] at hup
    rcases hup with rfl | rfl | rfl | rfl <;> simp [Value.oneCell']
/-- It stands in memory, where its parts' row does. -/
theorem St.of_row {w : World} {base : Nat} {v : Value} {ps : List (Ex × Value)} (op : Nat) (n : Int) (nm : ByteArray) (hop : op < 256) (hn : -9223372036854775808 ≤ n ∧ n ≤ 9223372036854775807) (hnm : nm.size ≤ 140737488355328) (hlen : ps.length ≤ 2513169434843)
    (hr : w.ownsRow base 26 4 v ps.length (pairsV ps)) (hs : ∀ p ∈ ps, St w p.1 p.2) : St w ⟨op, n, nm, ps.map (·.1)⟩ v := by
  have hl : (ps.map (·.1)).length = ps.length := by simp
  rcases hr.2 with ⟨rfl, h0⟩ | ⟨g, cap, cur, rfl, _, _, hc, _⟩
  · have : ps = [] := List.eq_nil_of_length_eq_zero h0
    subst this
    exact St.intro ⟨op, n, nm, []⟩ none 0 (fun _ => .slice none 0 0) hop hn hnm (by show 0 ≤ _; omega) (Nat.le_refl _) (.inl rfl) (fun i hi => by cases hi)
  · have key : St w ⟨op, n, nm, ps.map (·.1)⟩ (.slice (some ⟨g, 0, none⟩) (ps.map (·.1)).length cap) := by
      refine St.intro ⟨op, n, nm, ps.map (·.1)⟩ _ cap (fun i => (ps[i]?.map (·.2)).getD (.slice none 0 0)) hop hn hnm (by show (ps.map (·.1)).length ≤ _; omega) (by show (ps.map (·.1)).length ≤ _; omega) (.inr ⟨g, 0, rfl, fun i hi => ?_⟩) (fun i hi => ?_)
      · have hi' : i < ps.length := by have : i < (ps.map (·.1)).length := hi; omega
        obtain ⟨q0, q1, q2, q3⟩ := pairsV_at ps [] i hi'
        rw [List.append_nil] at q0 q1 q2 q3
        have e : (Ex.mk op n nm (ps.map (·.1))).args[i] = ps[i].1 := by show (ps.map (·.1))[i]'(by omega) = _; simp
        rw [e, Nat.zero_add]
        refine ⟨?_, ?_, ?_, ?_⟩
        · rw [hr.cellAt _ (by omega)]; exact q0
        · rw [hr.cellAt _ (by omega)]; exact q1
        · rw [hr.cellAt _ (by omega)]; exact q2
        · rw [hr.cellAt _ (by omega), q3, List.getElem?_eq_getElem hi']; rfl
      · have hi' : i < ps.length := by have : i < (ps.map (·.1)).length := hi; omega
        have e : (Ex.mk op n nm (ps.map (·.1))).args[i] = ps[i].1 := by show (ps.map (·.1))[i]'(by omega) = _; simp
        rw [e, List.getElem?_eq_getElem hi']
        exact hs _ (List.getElem_mem hi')
    rwa [hl] at key
end Go.Proofs.YtkieljleopbhoabDoor.Lex
namespace Go.Proofs.YtkieljleopbhoabDoor.Lex
open Go.ChangeShapes Go.WideShapes Go.ChangeAt Go.RowKit Go.Joins
/-- What odd answers: a tree that stands wherever the memory from which it was made stands, and what odd made. -/
def OddP (x : Ex) (w0 w : World) (e : Ending) (w' : World) : Prop := ∃ s', e = .returned (exV x s') ∧ Below w.heap.size w w' ∧ ∀ W, Below w0.heap.size w0 W → (∀ b, w.heap.size ≤ b → b < w'.heap.size → W.heap[b]? = w'.heap[b]?) → St W x s'
theorem two_rows (w : World) (c d : Array Value) (t u : TypeId) : ((w.alloc (.cells c t)).alloc (.cells d u)).heap[w.heap.size + 1]? = some (.cells d u (0, 0)) := by
  have := heap_alloc_new (w.alloc (.cells c t)) (.cells d u)
  rwa [World.size_alloc] at this
theorem first_row (w : World) (c d : Array Value) (t u : TypeId) : ((w.alloc (.cells c t)).alloc (.cells d u)).heap[w.heap.size]? = some (.cells c t (0, 0)) := by
  rw [Below.heap_alloc _ _ _ (by simp)]; exact heap_alloc_new w _
theorem two_below (w : World) (o1 o2 : Obj) : Below w.heap.size w ((w.alloc o1).alloc o2) := bstep ((Below.refl _ _).alloc (Nat.le_refl _) _) ((Below.refl _ _).alloc (Nat.le_refl _) _)
theorem St.fields {w : World} {x : Ex} {s : Value} (h : St w x s) (op : Nat) (n : Int) (nm : ByteArray) (hop : op < 256) (hn : -9223372036854775808 ≤ n ∧ n ≤ 9223372036854775807) (hnm : nm.size ≤ 140737488355328) : St w ⟨op, n, nm, x.args⟩ s := by
  obtain ⟨ao, cap, sl, rfl, _, _, _, hlen, hcap, hc, hs⟩ := h.out
  exact St.intro ⟨op, n, nm, x.args⟩ ao cap sl hop hn hnm hlen hcap hc hs
theorem row_succ {W : World} {base e size k : Nat} {v : Value} {xs : List Value} (h : W.ownsRow base e size v (k + 1) xs) : ∃ g cap, v = .slice (some ⟨g, 0, none⟩) (k + 1) cap := by
  rcases h.2 with ⟨_, h0⟩ | ⟨g, cap, _, rfl, _⟩
  · omega
  · exact ⟨g, cap, rfl⟩
theorem own_block {w W : World} {base e c n : Nat} {v : Value} {xs : List Value} (h : w.ownsRow base e c v n xs) (hg : ∀ g, v.ownBlock = some g → W.heap[g]? = w.heap[g]?) : W.ownsRow base e c v n xs := by
  refine ⟨h.1, ?_⟩
  rcases h.2 with hn | ⟨g, cap, cur, e, hg0, hh, rest⟩
  · exact .inl hn
  · subst e
    exact .inr ⟨g, cap, cur, rfl, hg0, (hg g rfl).trans hh, rest⟩
set_option maxRecDepth 100000 in
set_option maxHeartbeats 1000000 in
theorem odd_1 (x : Ex) (which way : Nat) (hq : which % 5 = 1) (hw : which < 256) (w0 w : World) (s : Value) (hS : St w0 x s) (hway : x.args.length = 0 ∨ way = 0) (hwy : way < 256) :
    Calls Tryd.prog 13 #[exV x s, .int .u8 (which : Int), .int .i64 (way : Int)] w (OddP (spoil x which) w0 w) := by
  obtain ⟨ao, cap, sl, rfl, hop, hn, hnm, _⟩ := hS.out
  have hsp : spoil x which = ⟨x.op, -1, x.name, x.args⟩ := by unfold spoil; rw [if_neg (by omega), if_pos hq]
  rw [hsp]
  have HS := hid (hS.fields (x.op) (-1) x.name (by omega) (by omega) (by first | exact hnm | decide))
  have hg : ((0 : Int) < (x.args.length : Int) ∧ (0 : Int) < (way : Int)) = False := by simp; omega
  have hr : (which : Int) % 5 = 1 := by omega
  clear hS hq hn hnm
  go_enter Tryd.func13, Tryd.ntmps13
  go_wp2
  all_goals
    refine bodyPost_ret (results_cell_row rfl _ _ (w.heap.size + 1) 26 #[.int .u8 (x.op : Int), .int .i64 (-1), .string x.name, .slice ao x.args.length cap] (0, 0) _ rfl (two_rows _ _ _ _ _) Tryd.underlying26 rfl info25) rfl ⟨_, rfl, two_below _ _ _, fun W h1 _ => HS.out.keep h1⟩
set_option maxRecDepth 100000 in
set_option maxHeartbeats 1000000 in
theorem odd_2 (x : Ex) (which way : Nat) (hq : which % 5 = 2) (hw : which < 256) (w0 w : World) (s : Value) (hS : St w0 x s) (hway : x.args.length = 0 ∨ way = 0) (hwy : way < 256) :
    Calls Tryd.prog 13 #[exV x s, .int .u8 (which : Int), .int .i64 (way : Int)] w (OddP (spoil x which) w0 w) := by
  obtain ⟨ao, cap, sl, rfl, hop, hn, hnm, _⟩ := hS.out
  have hsp : spoil x which = ⟨x.op, x.n, thenB, x.args⟩ := by unfold spoil; rw [if_neg (by omega), if_neg (by omega), if_pos hq]
  rw [hsp]
  have HS := hid (hS.fields (x.op) (x.n) thenB (by omega) (by omega) (by first | exact hnm | decide))
  have hg : ((0 : Int) < (x.args.length : Int) ∧ (0 : Int) < (way : Int)) = False := by simp; omega
  have hr : (which : Int) % 5 = 2 := by omega
  clear hS hq hn hnm
  go_enter Tryd.func13, Tryd.ntmps13
  go_wp2
  all_goals
    refine bodyPost_ret (results_cell_row rfl _ _ (w.heap.size + 1) 26 #[.int .u8 (x.op : Int), .int .i64 x.n, .string ⟨#[116, 104, 101, 110]⟩, .slice ao x.args.length cap] (0, 0) _ rfl (two_rows _ _ _ _ _) Tryd.underlying26 rfl info25) rfl ⟨_, rfl, two_below _ _ _, fun W h1 _ => HS.out.keep h1⟩
set_option maxRecDepth 100000 in
set_option maxHeartbeats 1000000 in
theorem odd_3 (x : Ex) (which way : Nat) (hq : which % 5 = 3) (hw : which < 256) (w0 w : World) (s : Value) (hS : St w0 x s) (hway : x.args.length = 0 ∨ way = 0) (hwy : way < 256) :
    Calls Tryd.prog 13 #[exV x s, .int .u8 (which : Int), .int .i64 (way : Int)] w (OddP (spoil x which) w0 w) := by
  obtain ⟨ao, cap, sl, rfl, hop, hn, hnm, _⟩ := hS.out
  have hsp : spoil x which = ⟨0, x.n, x.name, x.args⟩ := by unfold spoil; rw [if_neg (by omega), if_neg (by omega), if_neg (by omega), if_pos hq]
  rw [hsp]
  have HS := hid (hS.fields (0) (x.n) x.name (by omega) (by omega) (by first | exact hnm | decide))
  have hg : ((0 : Int) < (x.args.length : Int) ∧ (0 : Int) < (way : Int)) = False := by simp; omega
  have hr : (which : Int) % 5 = 3 := by omega
  clear hS hq hn hnm
  go_enter Tryd.func13, Tryd.ntmps13
  go_wp2
  all_goals
    refine bodyPost_ret (results_cell_row rfl _ _ (w.heap.size + 1) 26 #[.int .u8 0, .int .i64 x.n, .string x.name, .slice ao x.args.length cap] (0, 0) _ rfl (two_rows _ _ _ _ _) Tryd.underlying26 rfl info25) rfl ⟨_, rfl, two_below _ _ _, fun W h1 _ => HS.out.keep h1⟩
set_option maxRecDepth 100000 in
set_option maxHeartbeats 1000000 in
theorem odd_4 (x : Ex) (which way : Nat) (hq : which % 5 = 4) (hw : which < 256) (w0 w : World) (s : Value) (hS : St w0 x s) (hway : x.args.length = 0 ∨ way = 0) (hwy : way < 256) :
    Calls Tryd.prog 13 #[exV x s, .int .u8 (which : Int), .int .i64 (way : Int)] w (OddP (spoil x which) w0 w) := by
  obtain ⟨ao, cap, sl, rfl, hop, hn, hnm, _⟩ := hS.out
  have hsp : spoil x which = ⟨20, x.n, x.name, x.args⟩ := by unfold spoil; rw [if_neg (by omega), if_neg (by omega), if_neg (by omega), if_neg (by omega)]
  rw [hsp]
  have HS := hid (hS.fields (20) (x.n) x.name (by omega) (by omega) (by first | exact hnm | decide))
  have hg : ((0 : Int) < (x.args.length : Int) ∧ (0 : Int) < (way : Int)) = False := by simp; omega
  have hr : (which : Int) % 5 = 4 := by omega
  clear hS hq hn hnm
  go_enter Tryd.func13, Tryd.ntmps13
  go_wp2
  all_goals
    refine bodyPost_ret (results_cell_row rfl _ _ (w.heap.size + 1) 26 #[.int .u8 20, .int .i64 x.n, .string x.name, .slice ao x.args.length cap] (0, 0) _ rfl (two_rows _ _ _ _ _) Tryd.underlying26 rfl info25) rfl ⟨_, rfl, two_below _ _ _, fun W h1 _ => HS.out.keep h1⟩
abbrev exYes : Ex := ⟨2, 0, ⟨#[]⟩, []⟩
theorem st_leaf (w : World) : St w exYes (.slice none 0 0) := St.intro exYes none 0 (fun _ => .slice none 0 0) (by decide) (by decide) (by decide) (by decide) (Nat.le_refl _) (.inl rfl) (fun i hi => by cases hi)
theorem next4 (w : World) (l : List Value) (t : TypeId) : ∀ j u, l[j]? = some u → (w.alloc (.cells l.toArray t)).cell? ((⟨w.heap.size, 0, none⟩ : Addr).add j) = some u := by
  intro j u hj
  have hadd : (⟨w.heap.size, 0, none⟩ : Addr).add j = ⟨w.heap.size, j, none⟩ := by unfold Addr.add; split <;> simp_all
  rw [hadd, World.cell?_alloc_at _ _ _ _ rfl]
  simpa using hj
/-- What is behind the appends of odd: the rows of what came in and of the answer, as they were, and the new row. -/
structure Put0 (w : World) (c d : Array Value) (v : Value) (ps : List (Ex × Value)) (W : World) : Prop where
  below : Below w.heap.size w W
  one : W.heap[w.heap.size]? = some (.cells c 26 (0, 0))
  two : W.heap[w.heap.size + 1]? = some (.cells d 26 (0, 0))
  row : W.ownsRow (w.heap.size + 2) 26 4 v ps.length (pairsV ps)
theorem Put0.grown {w W W' : World} {c d : Array Value} {v v' : Value} {ps ps' : List (Ex × Value)} (h : Put0 w c d v ps W) (hg : W.grownBy W' v.ownBlock) (hr : W'.ownsRow (w.heap.size + 2) 26 4 v' ps'.length (pairsV ps')) : Put0 w c d v' ps' W' := by
  have hlt := h.row.lt
  have k : ∀ b, b < w.heap.size + 2 → b < W.heap.size → W'.heap[b]? = W.heap[b]? := fun b h1 h2 => hg.block b h2 (fun e => by have := (hlt b e.symm).1; omega)
  refine ⟨h.below.grown hg h.below.size (fun j hj => by have := (hlt j hj).1; omega), ?_, ?_, hr⟩
  · rw [k _ (by omega) (Array.getElem?_eq_some_iff.1 h.one).1]; exact h.one
  · rw [k _ (by omega) (Array.getElem?_eq_some_iff.1 h.two).1]; exact h.two
theorem Put0.alloc {w W : World} {c d : Array Value} {v : Value} {ps : List (Ex × Value)} (h : Put0 w c d v ps W) (o : Obj) : Put0 w c d v ps (W.alloc o) :=
  ⟨h.below.alloc h.below.size _, by rw [Below.heap_alloc _ _ _ (Array.getElem?_eq_some_iff.1 h.one).1]; exact h.one, by rw [Below.heap_alloc _ _ _ (Array.getElem?_eq_some_iff.1 h.two).1]; exact h.two, h.row.alloc o⟩
theorem Put0.later {w W W' : World} {c d : Array Value} {v : Value} {ps : List (Ex × Value)} (h : Put0 w c d v ps W) (hb : Below W.heap.size W W') : Put0 w c d v ps W' :=
  ⟨bstep h.below hb, (hb.block _ (Array.getElem?_eq_some_iff.1 h.one).1).trans h.one, (hb.block _ (Array.getElem?_eq_some_iff.1 h.two).1).trans h.two, own_block h.row fun g hg => hb.block g (h.row.lt g hg).2⟩
/-- The row is put into what came in, and that into the answer. -/
theorem Put0.done {w w0 W : World} {op : Nat} {n : Int} {nm : ByteArray} {s v : Value} {d d' : Array Value} {ps : List (Ex × Value)} (h : Put0 w #[.int .u8 (op : Int), .int .i64 n, .string nm, s] d v ps W) (hop : op < 256) (hn : -9223372036854775808 ≤ n ∧ n ≤ 9223372036854775807) (hnm : nm.size ≤ 140737488355328) (hlen : ps.length ≤ 2513169434843)
    (hs : ∀ V, Below w0.heap.size w0 V → (∀ b, w.heap.size + 2 ≤ b → b < W.heap.size → some b ≠ v.ownBlock → V.heap[b]? = W.heap[b]?) → ∀ p ∈ ps, St V p.1 p.2) (hsz : w.heap.size + 2 ≤ W.heap.size) :
    Below w.heap.size w ((W.setCell ⟨w.heap.size, 3, none⟩ v).setRow (w.heap.size + 1) d') ∧ ∀ V, Below w0.heap.size w0 V → (∀ b, w.heap.size ≤ b → b < ((W.setCell ⟨w.heap.size, 3, none⟩ v).setRow (w.heap.size + 1) d').heap.size → V.heap[b]? = ((W.setCell ⟨w.heap.size, 3, none⟩ v).setRow (w.heap.size + 1) d').heap[b]?) → St V ⟨op, n, nm, ps.map (·.1)⟩ v := by
  have hsize : ((W.setCell ⟨w.heap.size, 3, none⟩ v).setRow (w.heap.size + 1) d').heap.size = W.heap.size := by simp [World.setRow]
  have kk : ∀ b, w.heap.size + 2 ≤ b → ((W.setCell ⟨w.heap.size, 3, none⟩ v).setRow (w.heap.size + 1) d').heap[b]? = W.heap[b]? := fun b hb => by
    rw [setRow_other _ _ _ _ (by omega), Below.heap_setCell _ _ _ _ (by show b ≠ w.heap.size; omega)]
  refine ⟨below_row (h.below.setCell (p := ⟨w.heap.size, 3, none⟩) (Nat.le_refl _) _) (by simp; omega) (by omega) _, fun V h1 h2 => ?_⟩
  have hV : ∀ b, w.heap.size + 2 ≤ b → b < W.heap.size → V.heap[b]? = W.heap[b]? := fun b hb hlt => by rw [h2 b (by omega) (by omega), kk b hb]
  exact St.of_row op n nm hop hn hnm hlen (own_block h.row fun g hg => hV g (h.row.lt g hg).1 (h.row.lt g hg).2) (hs V h1 fun b hb hlt _ => hV b hb hlt)
set_option maxRecDepth 100000 in
set_option maxHeartbeats 2000000 in
theorem odd_0 (x : Ex) (which way : Nat) (h3 : x.args.length ≤ 3) (hq : which % 5 = 0) (hw : which < 256) (w0 w : World) (s : Value) (hS : St w0 x s) (hB : Below w0.heap.size w0 w) (hway : x.args.length = 0 ∨ way = 0) (hwy : way < 256) :
    Calls Tryd.prog 13 #[exV x s, .int .u8 (which : Int), .int .i64 (way : Int)] w (OddP (spoil x which) w0 w) := by
  obtain ⟨ao, cap, sl, rfl, hop, hn, hnm, -, -, hc, -⟩ := hS.out
  have hao : x.args.length = 0 ∨ ∃ b o, ao = some ⟨b, o, none⟩ := hc.imp_right fun ⟨b, o, e, _⟩ => ⟨b, o, e⟩
  clear hc
  have hsp : spoil x which = ⟨x.op, x.n, x.name, x.args ++ [exYes]⟩ := by unfold spoil; rw [if_pos hq]; rfl
  rw [hsp]
  obtain ⟨_, hlen, ps, hps, hst, hcell, hone⟩ := hS.row
  have hpl : ps.length = x.args.length := by rw [← hps]; simp
  have hg : ((0 : Int) < (x.args.length : Int) ∧ (0 : Int) < (way : Int)) = False := by simp; omega
  have hr : (which : Int) % 5 = 0 := by omega
  have B2 := two_below w (.cells #[.int .u8 (x.op : Int), .int .i64 x.n, .string x.name, .slice ao x.args.length cap] 26) (.cells #[.int .u8 0, .int .i64 0, .string ByteArray.empty, .slice none 0 0] 26)
  have SC := hid fun ad (e : ao = some ad) j u hj => cell_kept (hcell ad e j u hj) (bstep hB B2)
  have HST := hid hst
  have HPS := hid hps
  have HN := hid hn
  have P2 : Put0 w #[.int .u8 (x.op : Int), .int .i64 x.n, .string x.name, .slice ao x.args.length cap] #[.int .u8 0, .int .i64 0, .string ByteArray.empty, .slice none 0 0] (.slice none 0 0) [] ((w.alloc (.cells #[.int .u8 (x.op : Int), .int .i64 x.n, .string x.name, .slice ao x.args.length cap] 26)).alloc (.cells #[.int .u8 0, .int .i64 0, .string ByteArray.empty, .slice none 0 0] 26)) := ⟨B2, first_row _ _ _ _ _, two_rows _ _ _ _ _, World.ownsRow_nil _ _ _ _⟩
  have HP2 := hid P2
  obtain ⟨i0, hi, hi0, hi1, hi2⟩ := info_parts info25'
  clear hS hq hst hcell hB B2 P2 hps hn
  by_cases h0 : x.args.length = 0
  · have hps0 : ps = [] := List.eq_nil_of_length_eq_zero (by omega)
    subst hps0
    have P3 := HP2
    have N3 := next4 ((w.alloc (.cells #[.int .u8 (x.op : Int), .int .i64 x.n, .string x.name, .slice ao x.args.length cap] 26)).alloc (.cells #[.int .u8 0, .int .i64 0, .string ByteArray.empty, .slice none 0 0] 26)) [.int .u8 2, .int .i64 0, .string ⟨#[]⟩, .slice none 0 0] 26
    rw [World.size_alloc, World.size_alloc] at N3
    clear hg
    generalize hL : x.args.length = L at *
    obtain rfl : L = 0 := h0
    go_enter Tryd.func13, Tryd.ntmps13
    go_wp2_with (first
      | (at_builtin; refine wpList_append_zero rfl (.const (.slice none 0 0)) (.tmp 45) 24 rfl 26 i0 Tryd.underlying24 hi ao cap rfl rfl ?_)
      | (at_builtin; refine wpList_append_own _ rfl (.tmp 46) (.tmp 48) 24 rfl (w.heap.size + 2) 26 i0 _ 4 56 Tryd.underlying24 hi hi0 hi1 hi2 rfl (by decide) _ 0 [] rfl (P3.out.alloc (.cells #[.int .u8 2, .int .i64 0, .string ⟨#[]⟩, .slice none 0 0] 26)).row ⟨w.heap.size + 1 + 1, 0, none⟩ 1 1 [.int .u8 2, .int .i64 0, .string ⟨#[]⟩, .slice none 0 0] rfl rfl N3 (by simp [Value.oneCell']) (by unfold maxLen; omega) (by omega) (by have := (Array.getElem?_eq_some_iff.1 P3.out.two).1; simp <;> omega) ?_; intro v5 w5 hown5 hgrow5 _; obtain ⟨g5, c5, rfl⟩ := row_succ hown5; have P5 := hid ((P3.out.alloc (.cells #[.int .u8 2, .int .i64 0, .string ⟨#[]⟩, .slice none 0 0] 26)).grown (ps' := [] ++ [(exYes, .slice none 0 0)]) hgrow5 (by rw [pairsV_app, List.length_append]; exact hown5)); have x3 : w5.cell? ⟨w.heap.size, 3, none⟩ = some (.slice ao 0 cap) := (by rw [cell_of_row _ _ _ _ 26 (0, 0) P5.out.one]; rfl); have f3 := frozen_of_row w5 w.heap.size 3 _ 26 P5.out.one; have hX5 := heap_setCell_same w5 w.heap.size 3 _ 26 (.slice (some ⟨g5, 0, none⟩) 1 c5) P5.out.one; have hY5 : (w5.setCell ⟨w.heap.size, 3, none⟩ (.slice (some ⟨g5, 0, none⟩) 1 c5)).heap[w.heap.size + 1]? = some (.cells #[.int .u8 0, .int .i64 0, .string ByteArray.empty, .slice none 0 0] 26 (0, 0)) := (by rw [Below.heap_setCell _ _ _ _ (by show w.heap.size + 1 ≠ w.heap.size; omega)]; exact P5.out.two); clear hown5 hgrow5)
      | (refine wpList_load_row rfl 26 _ rfl w.heap.size rfl 26 #[.int .u8 (x.op : Int), .int .i64 x.n, .string x.name, .slice (some ⟨g5, 0, none⟩) 1 c5] (0, 0) _ hX5 Tryd.underlying26 rfl info25 ?_)
      | (refine wpList_store_row rfl 26 _ _ rfl (w.heap.size + 1) #[.int .u8 (x.op : Int), .int .i64 x.n, .string x.name, .slice (some ⟨g5, 0, none⟩) 1 c5] rfl rfl 26 _ hY5 info25 rfl (by simp [Value.oneCell']) ?_))
    have D5 := (P5.out.done (w0 := w0) (d' := #[.int .u8 (x.op : Int), .int .i64 x.n, .string x.name, .slice (some ⟨g5, 0, none⟩) 1 c5]) hop HN.out hnm (by simp <;> omega) (fun V hV _ p hp => by
      rcases List.mem_append.1 hp with hp | hp
      · exact (HST.out p hp).keep hV
      · rw [List.mem_singleton.1 hp]; exact st_leaf V) (by have := (Array.getElem?_eq_some_iff.1 P5.out.two).1; omega))
    rw [List.map_append, HPS.out] at D5
    exact bodyPost_ret (results_cell_row rfl _ _ (w.heap.size + 1) 26 #[.int .u8 (x.op : Int), .int .i64 x.n, .string x.name, .slice (some ⟨g5, 0, none⟩) 1 c5] (0, 0) _ rfl (setRow_heap _ _ _ _ _ _ hY5) Tryd.underlying26 rfl info25) rfl ⟨_, rfl, D5.1, D5.2⟩
  · obtain rfl : way = 0 := hway.resolve_left h0
    have hpos : (0 : Int) < (x.args.length : Int) := by omega
    have hpos' : 0 < x.args.length := by omega
    clear hg
    have hc0 : ∃ b o, ao = some ⟨b, o, none⟩ := hao.resolve_left h0
    obtain ⟨b, o, rfl⟩ := hc0
    go_enter Tryd.func13, Tryd.ntmps13
    go_wp2_with (first
      | (at_builtin; refine wpList_append_own _ rfl (.const (.slice none 0 0)) (.tmp 45) 24 rfl (w.heap.size + 2) 26 i0 _ 4 56 Tryd.underlying24 hi hi0 hi1 hi2 rfl (by decide) (.slice none 0 0) 0 [] rfl HP2.out.row ⟨b, o, none⟩ x.args.length cap (pairsV ps) rfl (by rw [pairsV_len, hpl]) (SC.out _ rfl) hone (by unfold maxLen; omega) (by omega) (by simp) ?_; intro v3 W3 hown3 hgrow3 _; have P3 := hid (HP2.out.grown (ps' := ps) hgrow3 (by rw [hpl]; simpa using hown3)); clear hown3 hgrow3 HP2)
      | (at_builtin; refine wpList_append_own _ rfl (.tmp 46) (.tmp 48) 24 rfl (w.heap.size + 2) 26 i0 _ 4 56 Tryd.underlying24 hi hi0 hi1 hi2 rfl (by decide) _ ps.length (pairsV ps) rfl (P3.out.alloc (.cells #[.int .u8 2, .int .i64 0, .string ⟨#[]⟩, .slice none 0 0] 26)).row ⟨W3.heap.size, 0, none⟩ 1 1 [.int .u8 2, .int .i64 0, .string ⟨#[]⟩, .slice none 0 0] rfl rfl (next4 _ _ _) (by simp [Value.oneCell']) (by unfold maxLen; omega) (by omega) (by have := (Array.getElem?_eq_some_iff.1 P3.out.two).1; simp <;> omega) ?_; intro v5 w5 hown5 hgrow5 _; obtain ⟨g5, c5, rfl⟩ := row_succ hown5; have P5 := hid ((P3.out.alloc (.cells #[.int .u8 2, .int .i64 0, .string ⟨#[]⟩, .slice none 0 0] 26)).grown (ps' := ps ++ [(exYes, .slice none 0 0)]) hgrow5 (by rw [pairsV_app, List.length_append]; exact hown5)); rw [hpl] at P5 hown5; have x3 : w5.cell? ⟨w.heap.size, 3, none⟩ = some (.slice (some ⟨b, o, none⟩) x.args.length cap) := (by rw [cell_of_row _ _ _ _ 26 (0, 0) P5.out.one]; rfl); have f3 := frozen_of_row w5 w.heap.size 3 _ 26 P5.out.one; have hX5 := heap_setCell_same w5 w.heap.size 3 _ 26 (.slice (some ⟨g5, 0, none⟩) (x.args.length + 1) c5) P5.out.one; have hY5 : (w5.setCell ⟨w.heap.size, 3, none⟩ (.slice (some ⟨g5, 0, none⟩) (x.args.length + 1) c5)).heap[w.heap.size + 1]? = some (.cells #[.int .u8 0, .int .i64 0, .string ByteArray.empty, .slice none 0 0] 26 (0, 0)) := (by rw [Below.heap_setCell _ _ _ _ (by show w.heap.size + 1 ≠ w.heap.size; omega)]; exact P5.out.two); clear hown5 hgrow5)
      | (refine wpList_load_row rfl 26 _ rfl w.heap.size rfl 26 #[.int .u8 (x.op : Int), .int .i64 x.n, .string x.name, .slice (some ⟨g5, 0, none⟩) (x.args.length + 1) c5] (0, 0) _ hX5 Tryd.underlying26 rfl info25 ?_)
      | (refine wpList_store_row rfl 26 _ _ rfl (w.heap.size + 1) #[.int .u8 (x.op : Int), .int .i64 x.n, .string x.name, .slice (some ⟨g5, 0, none⟩) (x.args.length + 1) c5] rfl rfl 26 _ hY5 info25 rfl (by simp [Value.oneCell']) ?_))
    have D5 := (P5.out.done (w0 := w0) (d' := #[.int .u8 (x.op : Int), .int .i64 x.n, .string x.name, .slice (some ⟨g5, 0, none⟩) (x.args.length + 1) c5]) hop HN.out hnm (by simp <;> omega) (fun V hV _ p hp => by
      rcases List.mem_append.1 hp with hp | hp
      · exact (HST.out p hp).keep hV
      · rw [List.mem_singleton.1 hp]; exact st_leaf V) (by have := (Array.getElem?_eq_some_iff.1 P5.out.two).1; omega))
    rw [List.map_append, HPS.out] at D5
    exact bodyPost_ret (results_cell_row rfl _ _ (w.heap.size + 1) 26 #[.int .u8 (x.op : Int), .int .i64 x.n, .string x.name, .slice (some ⟨g5, 0, none⟩) (x.args.length + 1) c5] (0, 0) _ rfl (setRow_heap _ _ _ _ _ _ hY5) Tryd.underlying26 rfl info25) rfl ⟨_, rfl, D5.1, D5.2⟩
end Go.Proofs.YtkieljleopbhoabDoor.Lex
namespace Go.Proofs.YtkieljleopbhoabDoor.Lex
open Go.ChangeShapes Go.WideShapes Go.ChangeAt Go.RowKit Go.Joins
/-- What odd does, looked at so deep. -/
def OddC (f which : Nat) : Prop := ∀ (x : Ex) (way : Nat) (w0 w : World) (s : Value), way ≤ f → way < 256 → (∃ d M k, sz d M x = some k) → St w0 x s → Below w0.heap.size w0 w →
  Calls Tryd.prog 13 #[exV x s, .int .u8 (which : Int), .int .i64 (way : Int)] w (OddP (oddX f x which way) w0 w)
theorem row_pos {W : World} {base e size k : Nat} {v : Value} {xs : List Value} (h : W.ownsRow base e size v k xs) (hk : 0 < k) : ∃ g cap, v = .slice (some ⟨g, 0, none⟩) k cap := by
  rcases h.2 with ⟨_, h0⟩ | ⟨g, cap, _, rfl, _⟩
  · omega
  · exact ⟨g, cap, rfl⟩
theorem few_parts {x : Ex} (h : ∃ d M k, sz d M x = some k) : x.args.length ≤ 3 := by
  obtain ⟨d, M, k, h⟩ := h
  cases d with
  | zero => simp [sz] at h
  | succ d =>
    have hf := (sz_parts h).2.1
    have hp : parts x.op ≤ 3 := by unfold parts; split <;> (try split) <;> (try split) <;> omega
    unfold fieldsOk at hf
    split at hf
    · simp at hf; simp [hf]
    · split at hf
      · simp at hf; simp [hf]
      · split at hf
        · simp at hf; simp [hf]
        · simp at hf; omega
theorem odd_any (which : Nat) (hw : which < 256) (x : Ex) (way : Nat) (w0 w : World) (s : Value) (h3 : x.args.length ≤ 3) (hS : St w0 x s) (hB : Below w0.heap.size w0 w) (hway : x.args.length = 0 ∨ way = 0) (hwy : way < 256) :
    Calls Tryd.prog 13 #[exV x s, .int .u8 (which : Int), .int .i64 (way : Int)] w (OddP (spoil x which) w0 w) := by
  have hm : which % 5 < 5 := Nat.mod_lt _ (by omega)
  rcases (by omega : which % 5 = 0 ∨ which % 5 = 1 ∨ which % 5 = 2 ∨ which % 5 = 3 ∨ which % 5 = 4) with h | h | h | h | h
  · exact odd_0 x which way h3 h hw w0 w s hS hB hway hwy
  · exact odd_1 x which way h hw w0 w s hS hway hwy
  · exact odd_2 x which way h hw w0 w s hS hway hwy
  · exact odd_3 x which way h hw w0 w s hS hway hwy
  · exact odd_4 x which way h hw w0 w s hS hway hwy
theorem four_set {w W : World} {c d : Array Value} {g3 n c3 k : Nat} {ps : List (Ex × Value)} (h : Put0 w c d (.slice (some ⟨g3, 0, none⟩) n c3) ps W) (z : Ex) (a4 : Option Addr) (c4 : Nat) (hn : n = ps.length) :
    Put0 w c d (.slice (some ⟨g3, 0, none⟩) n c3) (ps.set k (z, .slice a4 z.args.length c4)) (W.setCells g3 (k * 4) (#[.int .u8 (z.op : Int), .int .i64 z.n, .string z.name, .slice a4 z.args.length c4] : Array Value).toList) ∧ (W.setCells g3 (k * 4) (#[.int .u8 (z.op : Int), .int .i64 z.n, .string z.name, .slice a4 z.args.length c4] : Array Value).toList).heap.size = W.heap.size ∧ ∀ b, b ≠ g3 → (W.setCells g3 (k * 4) (#[.int .u8 (z.op : Int), .int .i64 z.n, .string z.name, .slice a4 z.args.length c4] : Array Value).toList).heap[b]? = W.heap[b]? := by
  subst hn
  have hg := h.row.lt g3 rfl
  have ho : ∀ b, b ≠ g3 → (W.setCells g3 (k * 4) (#[.int .u8 (z.op : Int), .int .i64 z.n, .string z.name, .slice a4 z.args.length c4] : Array Value).toList).heap[b]? = W.heap[b]? := fun b hb => by
    show (((((W.setCell ⟨g3, k * 4, none⟩ (.int .u8 (z.op : Int))).setCell ⟨g3, k * 4 + 1, none⟩ (.int .i64 z.n)).setCell ⟨g3, k * 4 + 2, none⟩ (.string z.name)).setCell ⟨g3, k * 4 + 3, none⟩ (.slice a4 z.args.length c4))).heap[b]? = _
    rw [Below.heap_setCell _ _ _ _ (by exact hb), Below.heap_setCell _ _ _ _ (by exact hb), Below.heap_setCell _ _ _ _ (by exact hb), Below.heap_setCell _ _ _ _ (by exact hb)]
  have hsz : (W.setCells g3 (k * 4) (#[.int .u8 (z.op : Int), .int .i64 z.n, .string z.name, .slice a4 z.args.length c4] : Array Value).toList).heap.size = W.heap.size := by
    show (((((W.setCell ⟨g3, k * 4, none⟩ (.int .u8 (z.op : Int))).setCell ⟨g3, k * 4 + 1, none⟩ (.int .i64 z.n)).setCell ⟨g3, k * 4 + 2, none⟩ (.string z.name)).setCell ⟨g3, k * 4 + 3, none⟩ (.slice a4 z.args.length c4))).heap.size = _
    simp
  refine ⟨⟨?_, ?_, ?_, ?_⟩, hsz, ho⟩
  · exact (((h.below.setCell (p := ⟨g3, k * 4, none⟩) (by show w.heap.size ≤ g3; omega) _).setCell (p := ⟨g3, k * 4 + 1, none⟩) (by show w.heap.size ≤ g3; omega) _).setCell (p := ⟨g3, k * 4 + 2, none⟩) (by show w.heap.size ≤ g3; omega) _).setCell (p := ⟨g3, k * 4 + 3, none⟩) (by show w.heap.size ≤ g3; omega) _
  · rw [ho _ (by omega)]; exact h.one
  · rw [ho _ (by omega)]; exact h.two
  · have r := ((((h.row.stored (k * 4) (.int .u8 (z.op : Int))).1.stored (k * 4 + 1) (.int .i64 z.n)).1.stored (k * 4 + 2) (.string z.name)).1.stored (k * 4 + 3) (.slice a4 z.args.length c4)).1
    rw [List.length_set, ← pairsV_set]
    exact r
theorem there4 {w W : World} {g3 n c3 k : Nat} {ps : List (Ex × Value)} (h : W.ownsRow (w.heap.size + 2) 26 4 (.slice (some ⟨g3, 0, none⟩) n c3) ps.length (pairsV ps)) (hn : ps.length = n) (hk : k < n) : W.there g3 (k * 4) 4 := by
  subst hn
  intro j hj
  refine ⟨?_, h.frozenAt _⟩
  rw [h.cellAt _ (by omega), List.getElem?_eq_getElem (by rw [pairsV_len]; omega)]
  rfl
theorem modify_map {ps : List (Ex × Value)} {l : List Ex} (h : ps.map (·.1) = l) (k : Nat) (hk : k < l.length) (g : Ex → Ex) (s : Value) : (ps.set k (g l[k], s)).map (·.1) = l.modify k g := by
  subst h
  apply List.ext_getElem
  · simp
  · intro i h1 h2
    by_cases e : i = k
    · subst e; simp
    · simp [Ne.symm e]
set_option maxRecDepth 100000 in
set_option maxHeartbeats 1000000 in
theorem odd_step (f which : Nat) (hw : which < 256) (ih : OddC f which) : OddC (f + 1) which := by
  intro x way w0 w s hf hwy hz hS hB
  have h3 := few_parts hz
  by_cases hcond : x.args.length = 0 ∨ way = 0
  · have e : oddX (f + 1) x which way = spoil x which := by rw [oddX, if_pos hcond]
    rw [e]
    exact odd_any which hw x way w0 w s h3 hS hB hcond hwy
  · obtain ⟨hn0, hw0⟩ := not_or.1 hcond
    have e : oddX (f + 1) x which way = ⟨x.op, x.n, x.name, x.args.modify (way % x.args.length) fun y => oddX f y which (way / 2)⟩ := by rw [oddX, if_neg hcond]
    rw [e]
    obtain ⟨ao, cap, sl, rfl, hop, hn, hnm, -, -, hc, -⟩ := hS.out
    obtain ⟨b, o, rfl, -⟩ := hc.resolve_left hn0
    obtain ⟨_, hlen, ps, hps, hst, hcell, hone⟩ := hS.row
    have hpl : ps.length = x.args.length := by rw [← hps]; simp
    obtain ⟨k, hkdef⟩ : ∃ k, way % x.args.length = k := ⟨_, rfl⟩
    have hk : k < x.args.length := by rw [← hkdef]; exact Nat.mod_lt _ (by omega)
    have hmod : (way : Int) % (x.args.length : Int) = (k : Int) := by rw [← hkdef]; simp
    obtain ⟨m, hm⟩ : ∃ m, way / 2 = m := ⟨_, rfl⟩
    have hdiv : (way : Int) / 2 = (m : Int) := by omega
    have hwrap : IntKind.i64.wrap (m : Int) = (m : Int) := by rw [IntKind.wrap_i64]; omega
    have hpos : (0 : Int) < (x.args.length : Int) := by omega
    have hposw : (0 : Int) < (way : Int) := by omega
    have hpos' : 0 < x.args.length := by omega
    have hposw' : 0 < way := by omega
    have hlt : (k : Int) < (x.args.length : Int) := by omega
    have hk0 : (0 : Int) ≤ (k : Int) := by omega
    have B2 := two_below w (.cells #[.int .u8 (x.op : Int), .int .i64 x.n, .string x.name, .slice (some ⟨b, o, none⟩) x.args.length cap] 26) (.cells #[.int .u8 0, .int .i64 0, .string ByteArray.empty, .slice none 0 0] 26)
    have SC := hid fun j u hj => cell_kept (hcell _ rfl j u hj) (bstep hB B2)
    have HP2 := hid (show Put0 w #[.int .u8 (x.op : Int), .int .i64 x.n, .string x.name, .slice (some ⟨b, o, none⟩) x.args.length cap] #[.int .u8 0, .int .i64 0, .string ByteArray.empty, .slice none 0 0] (.slice none 0 0) [] ((w.alloc (.cells #[.int .u8 (x.op : Int), .int .i64 x.n, .string x.name, .slice (some ⟨b, o, none⟩) x.args.length cap] 26)).alloc (.cells #[.int .u8 0, .int .i64 0, .string ByteArray.empty, .slice none 0 0] 26)) from ⟨B2, first_row _ _ _ _ _, two_rows _ _ _ _ _, World.ownsRow_nil _ _ _ _⟩)
    have HB := hid hB
    have HST := hid hst
    have HN := hid hn
    have HMM := hid (modify_map hps k hk fun y => oddX f y which m)
    have hy : ∃ y sy, ps[k]? = some (y, sy) ∧ x.args[k] = y := ⟨ps[k].1, ps[k].2, by rw [List.getElem?_eq_getElem (by omega)], by simp [← hps]⟩
    obtain ⟨y, sy, hyk, hyx⟩ := hy
    rw [hyx] at HMM
    have HM2 : Hid (∀ s, (ps.set k (oddX f y which m, s)).map (·.1) = x.args.modify k fun y => oddX f y which m) := hid fun s => HMM.out s
    clear HMM
    have hys : St w0 y sy := hst (y, sy) (List.mem_of_getElem? hyk)
    have hyz : ∃ d M k, sz d M y = some k := by
      obtain ⟨d, M, kk, hz⟩ := hz
      cases d with
      | zero => simp [sz] at hz
      | succ d =>
        obtain ⟨m, ka, h⟩ := szL_each x.args 1 kk (sz_parts hz).2.2 y (hyx ▸ List.getElem_mem hk)
        exact ⟨d, m, ka, h⟩
    have ihy := hid fun W (hb : Below w0.heap.size w0 W) => ih y m w0 W sy (by omega) (by omega) hyz hys hb
    obtain ⟨ay, cy, _, rfl, _⟩ := hys.out
    obtain ⟨q0, q1, q2, q3⟩ := pairsV_at ps [] k (by omega)
    rw [List.append_nil] at q0 q1 q2 q3
    have e1 : ps[k]'(by omega) = (y, .slice ay y.args.length cy) := by rw [List.getElem?_eq_getElem (by omega)] at hyk; exact Option.some.inj hyk
    rw [e1] at q0 q1 q2 q3
    have HQ := hid (And.intro q0 (And.intro q1 (And.intro q2 q3)))
    obtain ⟨i0, hi, hi0, hi1, hi2⟩ := info_parts info25'
    rw [hkdef, hm]
    clear hS hst hcell hB B2 hn hc hcond hf hz e hyz hys q0 q1 q2 q3 e1 hyk hyx hkdef hm
    generalize (x.args.modify k fun y => oddX f y which m) = A' at *
    generalize oddX f y which m = z at *
    go_enter Tryd.func13, Tryd.ntmps13
    go_wp2_with (first
      | (at_builtin; refine wpList_append_own _ rfl (.const (.slice none 0 0)) (.tmp 23) 24 rfl (w.heap.size + 2) 26 i0 _ 4 56 Tryd.underlying24 hi hi0 hi1 hi2 rfl (by decide) (.slice none 0 0) 0 [] rfl HP2.out.row ⟨b, o, none⟩ x.args.length cap (pairsV ps) rfl (by rw [pairsV_len, hpl]) SC.out hone (by unfold maxLen; omega) (by omega) (by simp) ?_; intro v3 W3 hown3 hgrow3 _; rw [Nat.zero_add] at hown3; obtain ⟨g3, c3, rfl⟩ := row_pos hown3 hpos'; have P3 := hid (HP2.out.grown (ps' := ps) hgrow3 (by rw [hpl]; simpa using hown3)); have hr3 := P3.out.row; rw [hpl] at hr3; have y0 := (hr3.cellAt (k * 4) (by omega)).trans HQ.out.1; have y1 := (hr3.cellAt (k * 4 + 1) (by omega)).trans HQ.out.2.1; have y2 := (hr3.cellAt (k * 4 + 2) (by omega)).trans HQ.out.2.2.1; have y3 := (hr3.cellAt (k * 4 + 3) (by omega)).trans HQ.out.2.2.2; have B3 := hid (bstep HB.out P3.out.below); dsimp only at y0 y1 y2 y3; clear hown3 hgrow3 HP2 hr3)
      | (go_at_call 13; refine (ihy.out _ B3.out).mono ?_; rintro e w4 ⟨s4, rfl, hb4, hst4⟩; have st4 := hst4 w4 (bstep B3.out hb4) (fun _ _ _ => rfl); obtain ⟨a4, c4, _, rfl, _⟩ := st4.out; have P4 := hid (P3.out.later hb4); have TH := there4 P4.out.row hpl hk; have HX4 := hid hst4; have HB4 := hid hb4; clear hb4 hst4 st4 y0 y1 y2 y3)
      | (refine wpList_store_mid rfl 26 _ _ rfl g3 (k * 4) #[.int .u8 (z.op : Int), .int .i64 z.n, .string z.name, .slice a4 z.args.length c4] rfl rfl TH info25 (by simp [Value.oneCell']) ?_; have F5 := four_set (k := k) P4.out z a4 c4 hpl.symm; generalize (w4.setCells g3 (k * 4) (#[.int .u8 (z.op : Int), .int .i64 z.n, .string z.name, .slice a4 z.args.length c4] : Array Value).toList) = W5 at *; obtain ⟨P5, Z5, O5⟩ := F5; have P5 := hid P5; have Z5 := hid Z5; have O5 := hid O5; have x3 : W5.cell? ⟨w.heap.size, 3, none⟩ = some (.slice (some ⟨b, o, none⟩) x.args.length cap) := (by rw [cell_of_row _ _ _ _ 26 (0, 0) P5.out.one]; rfl); have f3 := frozen_of_row W5 w.heap.size 3 _ 26 P5.out.one; have hX5 := heap_setCell_same W5 w.heap.size 3 _ 26 (.slice (some ⟨g3, 0, none⟩) x.args.length c3) P5.out.one; have hY5 : (W5.setCell ⟨w.heap.size, 3, none⟩ (.slice (some ⟨g3, 0, none⟩) x.args.length c3)).heap[w.heap.size + 1]? = some (.cells #[.int .u8 0, .int .i64 0, .string ByteArray.empty, .slice none 0 0] 26 (0, 0)) := (by rw [Below.heap_setCell _ _ _ _ (by show w.heap.size + 1 ≠ w.heap.size; omega)]; exact P5.out.two); clear TH)
      | (refine wpList_load_row rfl 26 _ rfl w.heap.size rfl 26 #[.int .u8 (x.op : Int), .int .i64 x.n, .string x.name, .slice (some ⟨g3, 0, none⟩) x.args.length c3] (0, 0) _ hX5 Tryd.underlying26 rfl info25 ?_)
      | (refine wpList_store_row rfl 26 _ _ rfl (w.heap.size + 1) #[.int .u8 (x.op : Int), .int .i64 x.n, .string x.name, .slice (some ⟨g3, 0, none⟩) x.args.length c3] rfl rfl 26 _ hY5 info25 rfl (by simp [Value.oneCell']) ?_))
    have D5 := (P5.out.done (w0 := w0) (d' := #[.int .u8 (x.op : Int), .int .i64 x.n, .string x.name, .slice (some ⟨g3, 0, none⟩) x.args.length c3]) hop HN.out hnm (by rw [List.length_set]; omega) (fun V hV hb p hp => by
      rcases List.mem_or_eq_of_mem_set hp with hp | hp
      · exact (HST.out p hp).keep hV
      · rw [hp]
        refine HX4.out V hV fun c h1 h2 => ?_
        have hg := (P3.out.row.lt g3 rfl).2
        have hs := (Array.getElem?_eq_some_iff.1 P3.out.two).1
        rw [hb c (by omega) (by have := Z5.out; omega) (by intro e; have e' : some c = some g3 := e; injection e' with e'; omega), O5.out c (by omega)]) (by have := (Array.getElem?_eq_some_iff.1 P5.out.two).1; omega))
    rw [HM2.out] at D5
    exact bodyPost_ret (results_cell_row rfl _ _ (w.heap.size + 1) 26 #[.int .u8 (x.op : Int), .int .i64 x.n, .string x.name, .slice (some ⟨g3, 0, none⟩) x.args.length c3] (0, 0) _ rfl (setRow_heap _ _ _ _ _ _ hY5) Tryd.underlying26 rfl info25) rfl ⟨_, rfl, D5.1, D5.2⟩
theorem odd_zero (which : Nat) (hw : which < 256) : OddC 0 which := by
  intro x way w0 w s hf hwy hz hS hB
  exact odd_any which hw x way w0 w s (few_parts hz) hS hB (.inr (by omega)) hwy
/-- odd. -/
theorem odd_all (which : Nat) (hw : which < 256) : ∀ f, OddC f which
  | 0 => odd_zero which hw
  | f + 1 => odd_step f which hw (odd_all which hw f)
end Go.Proofs.YtkieljleopbhoabDoor.Lex
