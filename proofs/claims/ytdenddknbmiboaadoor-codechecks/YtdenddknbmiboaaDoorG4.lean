/-
  The function that goes through what a flow asks for: its contract.
  Marks among the deferred calls of a function that ranges over functions in a loop; rounds whatever their depth.
  The function that goes through what all flows ask for: a range over a function that yields in its rounds.
  How old what is asked for is: the contract of the method age.
  Numbers that are no lateness: the contracts of outside, IndexFunc and ContainsFunc.
  Whether a program may be: its heads, its room.
-/
import Derived.Test.YtdenddknbmiboaaDoorG3
import Derived.RangeFuncLeaves
import Derived.Sort.LoopGhostIn
namespace Go.Proofs.YtdenddknbmiboaaDoor.Lex
open Go.ChangeShapes Go.WideShapes Go.ChangeAt Go.RowKit Go.Joins
attribute [local go_sem] Oper.semAt_some
theorem bstep' {w4 w1 w6 : World} (h : Below w1.heap.size w1 w4) (k : Below w4.heap.size w4 w6) : Below w1.heap.size w1 w6 := h.trans (k.mono h.size)
/-- A row of refs, in a block of its own. -/
theorem refs_row {w : World} {B : Nat} {v : Value} {L : List Rf} (h : w.ownsRow B 109 2 v L.length (refsV L)) : ∃ a cap, v = .slice a L.length cap ∧ (L.length = 0 ∨ ∃ g, a = some ⟨g, 0, none⟩ ∧ B ≤ g ∧ g < w.heap.size ∧ ∀ i (h : i < L.length), w.cell? ⟨g, i * 2, none⟩ = some (.string L[i].1) ∧ w.cell? ⟨g, i * 2 + 1, none⟩ = some (.int .i64 (L[i].2 : Int))) := by
  rcases h.2 with ⟨rfl, h0⟩ | ⟨g, cap, cur, rfl, hg0, hg, rest⟩
  · exact ⟨none, 0, by rw [h0], .inl h0⟩
  · refine ⟨_, cap, rfl, .inr ⟨g, rfl, hg0, (Array.getElem?_eq_some_iff.1 hg).1, fun i hi => ?_⟩⟩
    obtain ⟨a, b⟩ := refsV_at L i hi
    refine ⟨?_, ?_⟩
    · rw [h.cellAt _ (by omega), Nat.mul_comm]; exact a
    · rw [h.cellAt _ (by omega), Nat.mul_comm]; exact b
/-- The blocks that it leans on. -/
def keptW (n₀ Bp Bf : Nat) : Bl := fun b => b < n₀ ∨ b = Bp ∨ b = Bf
/-- What holds between two rounds, but for what the caller says. -/
structure WS (n₀ Bp Bf B : Nat) (W0 : World) (p : Pg) (a b c : Value) (k : Nat) (L : List Rf) (ao : Option Addr) (T : Bl) (wr : World) : Prop where
  lo : n₀ ≤ B
  since : Since B T wr
  size : B ≤ wr.heap.size
  below : Below n₀ W0 wr
  prog : wr.heap[Bp]? = some (.cells (pgC p a b c) 46 (0, 0))
  flow : wr.heap[Bf]? = some (.cells #[.int .i64 (k : Int)] 3 (0, 0))
  row : L.length = 0 ∨ ∃ g, ao = some ⟨g, 0, none⟩ ∧ B ≤ g ∧ g < wr.heap.size ∧ ¬ T g ∧ ∀ i (h : i < L.length), wr.cell? ⟨g, i * 2, none⟩ = some (.string L[i].1) ∧ wr.cell? ⟨g, i * 2 + 1, none⟩ = some (.int .i64 (L[i].2 : Int))
theorem WS.step {n₀ Bp Bf B : Nat} {W0 wr W' : World} {p : Pg} {a b c : Value} {k : Nat} {L : List Rf} {ao : Option Addr} {T : Bl} (h : WS n₀ Bp Bf B W0 p a b c k L ao T wr) (hb : Below wr.heap.size wr W') : WS n₀ Bp Bf B W0 p a b c k L ao T W' := by
  have hs := hb.size
  refine ⟨h.lo, fun x hx => by have := h.since x hx; omega, by have := h.size; omega, h.below.trans (hb.mono (Nat.le_trans h.lo h.size)), ?_, ?_, ?_⟩
  · exact (hb.block _ (Array.getElem?_eq_some_iff.1 h.prog).1).trans h.prog
  · exact (hb.block _ (Array.getElem?_eq_some_iff.1 h.flow).1).trans h.flow
  · rcases h.row with e | ⟨g, e, h1, h2, h3, h4⟩
    · exact .inl e
    · exact .inr ⟨g, e, h1, by omega, h3, fun i hi => ⟨cell_kept (h4 i hi).1 hb, cell_kept (h4 i hi).2 hb⟩⟩
/-- A round keeps it. -/
theorem WS.round {n₀ Bp Bf B : Nat} {W0 wr W' : World} {p : Pg} {a b c : Value} {k : Nat} {L : List Rf} {ao : Option Addr} {T T' : Bl} (h : WS n₀ Bp Bf B W0 p a b c k L ao T wr) (hn : Newer T T' wr W') (hb : Buts (fun x => T x ∨ (x < B ∧ ¬ keptW n₀ Bp Bf x)) wr W') (h0 : n₀ ≤ B) (hp : Bp < B) (hf : Bf < B) : WS n₀ Bp Bf B W0 p a b c k L ao T' W' := by
  have hs := hb.size
  have hsz := h.size
  have no : ∀ x, x < B → keptW n₀ Bp Bf x → ¬ (T x ∨ (x < B ∧ ¬ keptW n₀ Bp Bf x)) := fun x hx hk ho => by
    rcases ho with ho | ho
    · have := (h.since x ho).1; omega
    · exact ho.2 hk
  refine ⟨h.lo, fun x hx => ?_, by omega, h.below.trans (hb.low (fun x hx => no x (by omega) (.inl hx)) (by omega)), hb.row h.prog (no _ hp (.inr (.inl rfl))), hb.row h.flow (no _ hf (.inr (.inr rfl))), ?_⟩
  · rcases hn x hx with e | e
    · have := h.since x e; omega
    · omega
  · rcases h.row with e | ⟨g, e, h1, h2, h3, h4⟩
    · exact .inl e
    · have hg : ¬ (T g ∨ (g < B ∧ ¬ keptW n₀ Bp Bf g)) := fun ho => by
        rcases ho with ho | ho
        · exact h3 ho
        · omega
      have hh := hb.same g h2 hg
      refine .inr ⟨g, e, h1, by omega, fun ht => ?_, fun i hi => ⟨cell_same hh (h4 i hi).1, cell_same hh (h4 i hi).2⟩⟩
      rcases hn g ht with ht | ht
      · exact h3 ht
      · omega
set_option maxRecDepth 100000 in
set_option maxHeartbeats 2000000 in
theorem wishes1 (n : Nat) (hn : 9 ≤ n) (l Bp Bf n₀ : Nat) (p : Pg) (a b c : Value) (k : Nat) (hk : k < p.flows.length) (J Jx : List Wi → Bl → World → Prop) (W0 W : World) (hW0 : n₀ = W0.heap.size) (hW : Below n₀ W0 W) (hP : PgAt W0 p a b c) (hC : ∀ f ∈ p.flows, chk f.body = true)
    (hJ : LowT W.heap.size J)
    (hY : ∀ pre x T W1, J pre T W1 → Since W.heap.size T W1 → W.heap.size ≤ W1.heap.size → pre.length < (wishL p k).length → pre ++ [x] <+: wishL p k → YieldAt Fence.wide (n - 1) Tryd.prog l #[wiV x] W1 fun e W' =>
      (e = .returned (.bool true) ∧ ∃ T', Newer T T' W1 W' ∧ J (pre ++ [x]) T' W' ∧ Buts (fun x => T x ∨ (x < W.heap.size ∧ ¬ keptW n₀ Bp Bf x)) W1 W') ∨ (e = .returned (.bool false) ∧ Buts (fun x => T x ∨ (x < W.heap.size ∧ ¬ keptW n₀ Bp Bf x)) W1 W' ∧ ∃ T', Newer T T' W1 W' ∧ Jx (pre ++ [x]) T' W'))
    (hBp : W.heap[Bp]? = some (.cells (pgC p a b c) 46 (0, 0))) (hBf : W.heap[Bf]? = some (.cells #[.int .i64 (k : Int)] 3 (0, 0))) (h0 : J [] (fun _ => False) W) :
    CallsIn Fence.wide n Tryd.prog 87 #[.func (.yield l) #[] #[], .pointer (some ⟨Bp, 0, none⟩), .pointer (some ⟨Bf, 0, none⟩)] W fun e W' => (∃ v, e = .returned v) ∧ ∃ T', Since W.heap.size T' W' ∧ W.heap.size ≤ W'.heap.size ∧
      ((∃ ys, ys = wishL p k ∧ J ys T' W') ∨ (∃ pre, pre <+: wishL p k ∧ Jx pre T' W')) := by
  have h15 : Fence.wide.fn 65 := trivial
  have h54 : Fence.wide.fn 52 := trivial
  have hn1 : 1 ≤ n := by omega
  subst hW0
  have hP' := hP
  obtain ⟨bo, cbp, sl, rfl, hlen2, _, hok2, hc2, hs2⟩ := hP.flows
  have HP := hid hP'
  have HJ := hid hJ
  have HY := hid hY
  clear hJ hY hP hP'
  obtain ⟨b2, o2, rfl, hcc⟩ := hc2.resolve_left (by omega)
  have X := (hcc k hk).keep hW
  have HX := hid (hcc k hk)
  have hSt := (hs2 k hk).keep hW
  obtain ⟨a3, c3, _, e3, _⟩ := (hs2 k hk).out
  rw [e3] at X hSt
  have HE3 := hid e3
  have hnm := chk_nm (hC _ (List.getElem_mem hk))
  have HWL : Hid (wishL p k = (gat 32 p.flows[k].body 0 []).map (mkW p k p.flows[k].st)) := hid (wishL_at hk)
  have hstb := (hok2 _ (List.getElem_mem hk)).2.2.1
  clear hcc hc2 hs2 hok2 e3 hC
  obtain ⟨v0, v1, v2, v3, v4, v5, v6, v7⟩ := X
  have hpl : Hid (k < p.flows.length) := hid hk
  generalize p.flows[k] = y at *
  have x2 : W.cell? ⟨Bp, 2, none⟩ = some (.slice (some ⟨b2, o2, none⟩) p.flows.length cbp) := by rw [cell_of_row _ _ _ _ 46 (0, 0) hBp]; rfl
  have xk : W.cell? ⟨Bf, 0, none⟩ = some (.int .i64 (k : Int)) := by rw [cell_of_row _ _ _ _ 3 (0, 0) hBf]; rfl
  have hk0 : (0 : Int) ≤ (k : Int) := by omega
  have hk1 : (k : Int) < (p.flows.length : Int) := by omega
  have c15 := (callsIn_wide (n := n - 1)).2 (refs 32 y.body _ _ hSt hnm.1 (by omega) (by omega))
  have hLl : (gat 32 y.body 0 []).length ≤ 1000000 := by have h1 := gat_len 32 y.body 0 []; have h2 := hnm.2; simp at h1; omega
  have HBp := hid hBp
  have HBf := hid hBf
  have HW := hid hW
  have H0 := hid h0
  have hsz0 := hW.size
  have hBpl := (Array.getElem?_eq_some_iff.1 hBp).1
  have hBfl := (Array.getElem?_eq_some_iff.1 hBf).1
  clear hSt hnm hBp hBf hW h0
  generalize gat 32 y.body 0 [] = L at *
  refine callsIn_of_wp Tryd.func87 rfl trivial ?_ rfl
  simp only [Tryd.ntmps87, List.size_toArray, List.length_cons, List.length_nil, Nat.reduceAdd, Nat.reduceSub, Array.replicate_succ, Array.replicate_zero, List.push_toArray, List.append_toArray, List.nil_append, List.cons_append]
  gi_wp2_with (gi_at_call 65; refine c15.mono ?_; rintro e w2 ⟨v, rfl, hrow, hb2⟩; obtain ⟨ao, cap, rfl, hrf⟩ := refs_row hrow; have HRF := hid hrf; have HB2 := hid hb2; clear hrow hrf hb2 c15)
  gi_loopw [19] (fun i wr => ∃ (m : Nat) (T : Bl), m ≤ L.length ∧ i = .int .i64 (m : Int) ∧ Hid (J ((L.take m).map (mkW p k y.st)) T wr) ∧ Hid (WS W0.heap.size Bp Bf W.heap.size W0 p a (.slice (some ⟨b2, o2, none⟩) p.flows.length cbp) c k L ao T wr)) (fun i wr => L.length - (intOf i).toNat)
  case atStart =>
    refine ⟨0, fun _ => False, Nat.zero_le _, rfl, hid ?_, hid ⟨hsz0, fun _ h => h.elim, HB2.out.size, HW.out.trans (HB2.out.mono HW.out.size), (HB2.out.block _ hBpl).trans HBp.out, (HB2.out.block _ hBfl).trans HBf.out, ?_⟩⟩
    · exact HJ.out _ _ _ _ H0.out (Far.of_below HB2.out)
    · rcases HRF.out with e | ⟨g, e, h1, h2, h3⟩
      · exact .inl e
      · exact .inr ⟨g, e, h1, h2, id, h3⟩
  case round =>
    obtain ⟨m, T, hm, rfl, hJ2, hS⟩ := hrel
    by_cases hml : m < L.length
    · have hml' : (m : Int) < (L.length : Int) := by omega
      have hm0 : (0 : Int) ≤ (m : Int) := by omega
      obtain ⟨g, rfl, _, hgl, _, hcc⟩ := hS.out.row.resolve_left (by omega)
      obtain ⟨u0, u1⟩ := hcc m hml
      have HSM : Hid ((L.take (m + 1)).map (mkW p k y.st) = (L.take m).map (mkW p k y.st) ++ [mkW p k y.st L[m]]) := hid (by rw [List.take_succ_eq_append_getElem hml, List.map_append]; rfl)
      have HPM : Hid ((L.take m).map (mkW p k y.st) ++ [mkW p k y.st L[m]] <+: wishL p k) := hid (by
        rw [HWL.out, ← HSM.out, List.map_take]
        exact List.take_prefix _ _)
      clear hcc
      have hB3 := hS.out.below
      have z2 : wr.cell? ⟨Bp, 2, none⟩ = some (.slice (some ⟨b2, o2, none⟩) p.flows.length cbp) := by rw [cell_of_row _ _ _ _ 46 (0, 0) hS.out.prog]; rfl
      have zk : wr.cell? ⟨Bf, 0, none⟩ = some (.int .i64 (k : Int)) := by rw [cell_of_row _ _ _ _ 3 (0, 0) hS.out.flow]; rfl
      generalize L[m] = z at *
      have hBa := (Below.refl wr.heap.size wr).alloc (Nat.le_refl _) (.cells #[.string z.1, .int .i64 (z.2 : Int)] 109)
      have hS1 := hS.out.step hBa
      have cF := find_in Fence.wide (n - 1) trivial trivial trivial rfl (by omega) p z.1 _ _ _ _ (HP.out.keep hS1.below)
      have hfo := foV_eq (findT (thingsL p) z.1)
      rw [hfo] at cF
      have HMK : Hid (mkW p k y.st z = ⟨k, z, plO (findT (thingsL p) z.1), if stO (findT (thingsL p) z.1) = y.st then 0 else 1⟩) := hid rfl
      have HS1 := hid hS1
      have HBa := hid hBa
      have t2 : (wr.alloc (.cells #[.string z.1, .int .i64 (z.2 : Int)] 109)).cell? ⟨Bp, 2, none⟩ = some (.slice (some ⟨b2, o2, none⟩) p.flows.length cbp) := by rw [cell_of_row _ _ _ _ 46 (0, 0) hS1.prog]; rfl
      have t0 : (wr.alloc (.cells #[.string z.1, .int .i64 (z.2 : Int)] 109)).cell? ⟨Bp, 0, none⟩ = some (.int .i64 p.st) := by rw [cell_of_row _ _ _ _ 46 (0, 0) hS1.prog]; rfl
      have t1 : (wr.alloc (.cells #[.string z.1, .int .i64 (z.2 : Int)] 109)).cell? ⟨Bp, 1, none⟩ = some a := by rw [cell_of_row _ _ _ _ 46 (0, 0) hS1.prog]; rfl
      have t3 : (wr.alloc (.cells #[.string z.1, .int .i64 (z.2 : Int)] 109)).cell? ⟨Bp, 3, none⟩ = some c := by rw [cell_of_row _ _ _ _ 46 (0, 0) hS1.prog]; rfl
      clear hS1 hBa hfo hB3
      generalize stO (findT (thingsL p) z.1) = S at *
      generalize plO (findT (thingsL p) z.1) = PL at *
      generalize tyO (findT (thingsL p) z.1) = TY at *
      generalize (findT (thingsL p) z.1).isSome = OK at *
      by_cases hse : S = y.st
      · subst hse
        have HMK2 : Hid (mkW p k y.st z = ⟨k, z, PL, 0⟩) := hid (by rw [HMK.out, if_pos rfl])
        have HSM2 := HSM
        rw [HMK2.out] at HSM2 HPM
        gi_wp2_with
          (gi_at_call 52
           refine cF.mono ?_
           rintro e w4 ⟨rfl, hb4⟩
           have hS4 := HS1.out.step hb4
           have hb5 := (Below.refl w4.heap.size w4).alloc (Nat.le_refl _) (.cells #[.int .i64 (k : Int), .string z.1, .int .i64 (z.2 : Int), .int .i64 PL, .int .i64 0] 111)
           have hS5 := hS4.step hb5
           have s2 : (w4.alloc (.cells #[.int .i64 (k : Int), .string z.1, .int .i64 (z.2 : Int), .int .i64 PL, .int .i64 0] 111)).cell? ⟨Bp, 2, none⟩ = some (.slice (some ⟨b2, o2, none⟩) p.flows.length cbp) := by rw [cell_of_row _ _ _ _ 46 (0, 0) hS5.prog]; rfl
           have sk : (w4.alloc (.cells #[.int .i64 (k : Int), .string z.1, .int .i64 (z.2 : Int), .int .i64 PL, .int .i64 0] 111)).cell? ⟨Bf, 0, none⟩ = some (.int .i64 (k : Int)) := by rw [cell_of_row _ _ _ _ 3 (0, 0) hS5.flow]; rfl
           have sk4 : w4.cell? ⟨Bf, 0, none⟩ = some (.int .i64 (k : Int)) := by rw [cell_of_row _ _ _ _ 3 (0, 0) hS4.flow]; rfl
           have sr0 := cell_kept (box_at wr #[.string z.1, .int .i64 (z.2 : Int)] 109 0 _ rfl) hb4
           have sr1 := cell_kept (box_at wr #[.string z.1, .int .i64 (z.2 : Int)] 109 1 _ rfl) hb4
           have ss := (HX.out.keep hS5.below).2.2.1
           have hb6 : Below w4.heap.size w4 (w4.alloc (.cells #[.int .i64 (k : Int), .string z.1, .int .i64 (z.2 : Int), .int .i64 PL, .int .i64 0] 111)) := hb5
           have hS6 := hS4.step hb6
           have hJ6 := HJ.out _ _ _ _ hJ2.out (Far.of_below (bstep HBa.out (bstep' hb4 hb6)))
           obtain ⟨fn, tmps, assign, body, hy, hR⟩ := HY.out _ _ T _ hJ6 hS6.since hS6.size (by have h1 := congrArg List.length HWL.out; simp only [List.length_map] at h1; rw [List.length_map, List.length_take, h1]; omega) HPM.out
           have hy1 : (Instr.yield l #[.agg #[.int .i64 (k : Int), .string z.1, .int .i64 (z.2 : Int), .int .i64 PL, .int .i64 0]]).run Tryd.prog (w4.alloc (.cells #[.int .i64 (k : Int), .string z.1, .int .i64 (z.2 : Int), .int .i64 PL, .int .i64 0] 111)) = .ok (.round l fn tmps assign body) (w4.alloc (.cells #[.int .i64 (k : Int), .string z.1, .int .i64 (z.2 : Int), .int .i64 PL, .int .i64 0] 111)) := hy
           have HS6 := hid hS6
           have HR := hid hR
           clear hb4 hS4 hS5 hb5 hb6 hS6 hJ6 hR hy cF)
        refine HR.out.mono ?_
        rintro e W3 (⟨rfl, T', hn', hJ3, hk3⟩ | ⟨rfl, hz, T', hn', hJx3⟩)
        · gi_wp2
          go_roundw
          case rel => exact ⟨m + 1, T', by omega, by go_num, hid (by rw [HSM2.out]; exact hJ3), hid (HS6.out.round hn' hk3 hsz0 hBpl hBfl)⟩
          case measure => simp [intOf]; omega
        · gi_wp2
          refine bodyPost_ret (results_none rfl _ _ _) rfl ?_
          have h6 := HS6.out.size
          have hz' := hz.size
          exact ⟨⟨_, rfl⟩, T', fun b hb => (hn' b hb).elim (fun h => by have := HS6.out.since b h; omega) (fun h => by omega), by omega, .inr ⟨_, HPM.out, hJx3⟩⟩
      · have hse' : (S == y.st) = false := by simpa using hse
        have HMK2 : Hid (mkW p k y.st z = ⟨k, z, PL, 1⟩) := hid (by rw [HMK.out, if_neg hse])
        have HSM2 := HSM
        rw [HMK2.out] at HSM2 HPM
        gi_wp2_with
          (gi_at_call 52
           refine cF.mono ?_
           rintro e w4 ⟨rfl, hb4⟩
           have hS4 := HS1.out.step hb4
           have hb5 := (Below.refl w4.heap.size w4).alloc (Nat.le_refl _) (.cells #[.int .i64 (k : Int), .string z.1, .int .i64 (z.2 : Int), .int .i64 PL, .int .i64 0] 111)
           have hS5 := hS4.step hb5
           have s2 : (w4.alloc (.cells #[.int .i64 (k : Int), .string z.1, .int .i64 (z.2 : Int), .int .i64 PL, .int .i64 0] 111)).cell? ⟨Bp, 2, none⟩ = some (.slice (some ⟨b2, o2, none⟩) p.flows.length cbp) := by rw [cell_of_row _ _ _ _ 46 (0, 0) hS5.prog]; rfl
           have sk : (w4.alloc (.cells #[.int .i64 (k : Int), .string z.1, .int .i64 (z.2 : Int), .int .i64 PL, .int .i64 0] 111)).cell? ⟨Bf, 0, none⟩ = some (.int .i64 (k : Int)) := by rw [cell_of_row _ _ _ _ 3 (0, 0) hS5.flow]; rfl
           have sk4 : w4.cell? ⟨Bf, 0, none⟩ = some (.int .i64 (k : Int)) := by rw [cell_of_row _ _ _ _ 3 (0, 0) hS4.flow]; rfl
           have sr0 := cell_kept (box_at wr #[.string z.1, .int .i64 (z.2 : Int)] 109 0 _ rfl) hb4
           have sr1 := cell_kept (box_at wr #[.string z.1, .int .i64 (z.2 : Int)] 109 1 _ rfl) hb4
           have ss := (HX.out.keep hS5.below).2.2.1
           have hb6 : Below w4.heap.size w4 (w4.alloc (.cells #[.int .i64 (k : Int), .string z.1, .int .i64 (z.2 : Int), .int .i64 PL, .int .i64 1] 111)) := (Below.refl w4.heap.size w4).alloc (Nat.le_refl _) _
           have hS6 := hS4.step hb6
           have hJ6 := HJ.out _ _ _ _ hJ2.out (Far.of_below (bstep HBa.out (bstep' hb4 hb6)))
           obtain ⟨fn, tmps, assign, body, hy, hR⟩ := HY.out _ _ T _ hJ6 hS6.since hS6.size (by have h1 := congrArg List.length HWL.out; simp only [List.length_map] at h1; rw [List.length_map, List.length_take, h1]; omega) HPM.out
           have hy1 : (Instr.yield l #[.agg #[.int .i64 (k : Int), .string z.1, .int .i64 (z.2 : Int), .int .i64 PL, .int .i64 1]]).run Tryd.prog (w4.alloc (.cells #[.int .i64 (k : Int), .string z.1, .int .i64 (z.2 : Int), .int .i64 PL, .int .i64 1] 111)) = .ok (.round l fn tmps assign body) (w4.alloc (.cells #[.int .i64 (k : Int), .string z.1, .int .i64 (z.2 : Int), .int .i64 PL, .int .i64 1] 111)) := hy
           have HS6 := hid hS6
           have HR := hid hR
           clear hb4 hS4 hS5 hb5 hb6 hS6 hJ6 hR hy cF)
        refine HR.out.mono ?_
        rintro e W3 (⟨rfl, T', hn', hJ3, hk3⟩ | ⟨rfl, hz, T', hn', hJx3⟩)
        · gi_wp2
          go_roundw
          case rel => exact ⟨m + 1, T', by omega, by go_num, hid (by rw [HSM2.out]; exact hJ3), hid (HS6.out.round hn' hk3 hsz0 hBpl hBfl)⟩
          case measure => simp [intOf]; omega
        · gi_wp2
          refine bodyPost_ret (results_none rfl _ _ _) rfl ?_
          have h6 := HS6.out.size
          have hz' := hz.size
          exact ⟨⟨_, rfl⟩, T', fun b hb => (hn' b hb).elim (fun h => by have := HS6.out.since b h; omega) (fun h => by omega), by omega, .inr ⟨_, HPM.out, hJx3⟩⟩
    · have hml' : ¬ (m : Int) < (L.length : Int) := by omega
      gi_wp2
      go_end0
      refine ⟨⟨_, rfl⟩, T, hS.out.since, hS.out.size, .inl ?_⟩
      have := hJ2.out
      rw [List.take_of_length_le (by omega)] at this
      rw [HWL.out]
      exact this
end Go.Proofs.YtdenddknbmiboaaDoor.Lex
namespace Go.Proofs.YtdenddknbmiboaaDoor.Lex
open Go.RowKit
/-- Marks, each of a block of its own that none of the rounds turns. -/
structure Mrk (B : Nat) (T : Bl) (ds : List Deferred) (w : World) : Prop where
  all : ∀ d ∈ ds, ∃ D, d = { target := .collected D, args := #[] } ∧ B ≤ D ∧ D < w.heap.size ∧ ¬ T D ∧ w.heap[D]? = some (.deferred (some []))
  nodup : ds.Nodup
theorem Mrk.nil (B : Nat) (T : Bl) (w : World) : Mrk B T [] w := ⟨fun _ h => (by cases h), List.nodup_nil⟩
theorem Mrk.step {B : Nat} {T : Bl} {ds : List Deferred} {w w' : World} (h : Mrk B T ds w) (hb : Below w.heap.size w w') : Mrk B T ds w' := by
  refine ⟨fun d hd => ?_, h.nodup⟩
  obtain ⟨D, e, h1, h2, h3, h4⟩ := h.all d hd
  exact ⟨D, e, h1, Nat.lt_of_lt_of_le h2 hb.size, h3, (hb.block D h2).trans h4⟩
theorem Mrk.round {B : Nat} {T T' own : Bl} {ds : List Deferred} {w w' : World} (h : Mrk B T ds w) (hn : Newer T T' w w') (hb : Buts (fun x => T x ∨ own x) w w') (ho : ∀ x, own x → x < B) : Mrk B T' ds w' := by
  refine ⟨fun d hd => ?_, h.nodup⟩
  obtain ⟨D, e, h1, h2, h3, h4⟩ := h.all d hd
  refine ⟨D, e, h1, Nat.lt_of_lt_of_le h2 hb.size, fun ht => ?_, (hb.same D h2 (fun hx => ?_)).trans h4⟩
  · rcases hn D ht with ht | ht
    · exact h3 ht
    · omega
  · rcases hx with hx | hx
    · exact h3 hx
    · have := ho D hx; omega
theorem Mrk.cons {B : Nat} {T : Bl} {ds : List Deferred} {w : World} (h : Mrk B T ds w) {D : Nat} (hD : B ≤ D) (hT : ¬ T D) (hk : w.heap[D]? = some (.deferred (some []))) (hf : ∀ d ∈ ds, d ≠ { target := .collected D, args := #[] }) : Mrk B T ({ target := .collected D, args := #[] } :: ds) w := by
  refine ⟨fun d hd => ?_, List.nodup_cons.2 ⟨fun hm => hf _ hm rfl, h.nodup⟩⟩
  rcases List.mem_cons.1 hd with rfl | hd
  · exact ⟨D, rfl, hD, (Array.getElem?_eq_some_iff.1 hk).1, hT, hk⟩
  · exact h.all d hd
/-- What was laid behind all marks is none of them. -/
theorem Mrk.fresh {B : Nat} {T : Bl} {ds : List Deferred} {w : World} (h : Mrk B T ds w) {D : Nat} (hD : w.heap.size ≤ D) : ∀ d ∈ ds, d ≠ { target := .collected D, args := #[] } := fun d hd e => by
  obtain ⟨D', e', _, h2, _⟩ := h.all d hd
  rw [e'] at e
  injection e with e1 _
  injection e1 with e2
  omega
theorem Far.refl (B : Nat) (T : Bl) (A : World) : Far B T A A := ⟨rfl, rfl, rfl, Nat.le_refl _, fun _ _ _ => rfl⟩
theorem Far.trans {B : Nat} {T : Bl} {A C D : World} (h : Far B T A C) (k : Far B T C D) : Far B T A D :=
  ⟨k.os.trans h.os, k.tape.trans h.tape, k.output.trans h.output, Nat.le_trans h.size k.size, fun b hb ho => (k.block b (Nat.lt_of_lt_of_le hb h.size) ho).trans (h.block b hb ho)⟩
/-- The marks are taken, and nothing but their blocks turns. -/
theorem Mrk.leaves {F : Fence} {n : Nat} {P : Program} {fn : Func} {tmps : Array Value} {R : Ending → World → Prop} {B : Nat} {T : Bl} : ∀ (ds : List Deferred) (w : World), Mrk B T ds w →
    (∀ w', Far B T w w' → ∃ v, (results fn tmps).run P w' = .ok v w' ∧ R (.returned v) w') → LeavesInM F n P fn tmps R ds .returning w
  | [], w, _, h => h w (Far.refl B T w)
  | d :: ds, w, hm, h => by
    obtain ⟨D, e, h1, h2, h3, h4⟩ := hm.all d (List.mem_cons_self ..)
    have hf : Far B T w (w.putObj D (.deferred none)) := ⟨rfl, rfl, rfl, by simp, fun b _ ho => World.putObj_heap_other (fun e => by
      subst e
      rcases ho with ho | ho
      · omega
      · exact h3 ho)⟩
    have hnd := List.nodup_cons.1 hm.nodup
    refine ⟨by simp, .inl ⟨D, _, by rw [e], run_takeDeferred h4, Mrk.leaves ds _ ⟨fun d' hd' => ?_, hnd.2⟩ (fun w' hw' => h w' (hf.trans hw'))⟩⟩
    obtain ⟨D', e', g1, g2, g3, g4⟩ := hm.all d' (List.mem_cons_of_mem _ hd')
    have hne : D' ≠ D := fun ee => hnd.1 (by rw [e, ← ee, ← e']; exact hd')
    exact ⟨D', e', g1, by simpa using g2, g3, (World.putObj_heap_other hne).trans g4⟩
/-- Marks that stood in an elder world stand where no block of it turns. -/
theorem Mrk.far {B B1 : Nat} {T T0 T1 : Bl} {ds : List Deferred} {w A C : World} (h : Mrk B T ds A) (h0 : Mrk B T0 ds w) (hf : Far B1 T1 A C) (hle : w.heap.size ≤ B1) : Mrk B T ds C := by
  refine ⟨fun d hd => ?_, h.nodup⟩
  obtain ⟨D, e, h1, h2, h3, h4⟩ := h.all d hd
  obtain ⟨D', e', _, g2, _⟩ := h0.all d hd
  have : D' = D := by rw [e] at e'; injection e' with e1 _; injection e1 with e2; exact e2.symm
  exact ⟨D, e, h1, Nat.lt_of_lt_of_le h2 hf.size, h3, (hf.block D h2 (.inl (by omega))).trans h4⟩
theorem Mrk.cell {B : Nat} {T T0 : Bl} {ds : List Deferred} {w A : World} (h : Mrk B T ds A) (h0 : Mrk B T0 ds w) {b o : Nat} (hb : b < B ∨ w.heap.size ≤ b) (u : Value) : Mrk B T ds (A.setCell ⟨b, o, none⟩ u) := by
  refine ⟨fun d hd => ?_, h.nodup⟩
  obtain ⟨D, e, h1, h2, h3, h4⟩ := h.all d hd
  obtain ⟨D', e', _, g2, _⟩ := h0.all d hd
  have : D' = D := by rw [e] at e'; injection e' with e1 _; injection e1 with e2; exact e2.symm
  exact ⟨D, e, h1, by simpa [World.setCell] using h2, h3, (Below.heap_setCell _ _ _ _ (fun e => by simp at e; omega)).trans h4⟩
theorem room_none {F : Fence} (hd : F.depth = none) (k : Nat) : F.room k := fun d h => by rw [hd] at h; cases h
/-- Where no depth is asked a round goes at any. -/
theorem yield_any {F : Fence} (hd : F.depth = none) {m : Nat} (m' : Nat) {P : Program} {l : Nat} {args : Array Value} {W : World} {R : Ending → World → Prop} (h : YieldAt F m P l args W R) : YieldAt F m' P l args W R := by
  obtain ⟨fn, tmps, assign, body, hy, hR⟩ := h
  exact ⟨fn, tmps, assign, body, hy, hR.1, fun c cs _ => hR.2 c cs (room_none hd _)⟩
/-- It goes within a round as well. -/
theorem yield_in {F : Fence} {m : Nat} (l0 : Nat) {P : Program} {l : Nat} {args : Array Value} {W : World} {R : Ending → World → Prop} (h : YieldAt F m P l args W R) : YieldAt (F.inRound l0) m P l args W R := h
end Go.Proofs.YtdenddknbmiboaaDoor.Lex
namespace Go.Proofs.YtdenddknbmiboaaDoor.Lex
open Go.ChangeShapes Go.WideShapes Go.ChangeAt Go.RowKit Go.Joins
attribute [local go_sem] Oper.semAt_some
theorem wishes_ (n : Nat) (p : Pg) (a b c : Value) (k : Nat) (w : World) :
    CallsIn Fence.wide n Tryd.prog 69 #[pgV p a b c, .int .i64 (k : Int)] w fun e w' => e = .returned (.func (.func 87) #[] #[.pointer (some ⟨w.heap.size, 0, none⟩), .pointer (some ⟨w.heap.size + 1, 0, none⟩)]) ∧ w' = (w.alloc (.cells (pgC p a b c) 46)).alloc (.cells #[.int .i64 (k : Int)] 3) := by
  refine callsIn_of_wp Tryd.func69 rfl trivial ?_ rfl
  simp only [Tryd.ntmps69, List.size_toArray, List.length_cons, List.length_nil, Nat.reduceAdd, Nat.reduceSub, Array.replicate_succ, Array.replicate_zero, List.push_toArray, List.append_toArray, List.nil_append, List.cons_append]
  gi_wp2
  go_ret
  exact ⟨rfl, rfl⟩
/-- What it hands back goes through the wishes. -/
theorem wishes_T (n : Nat) (hn : 9 ≤ n) (Bp Bf : Nat) (p : Pg) (a b c : Value) (k : Nat) (hk : k < p.flows.length) (W0 w : World) (hb : Below W0.heap.size W0 w) (hP : PgAt W0 p a b c) (hC : ∀ f ∈ p.flows, chk f.body = true)
    (hBp : w.heap[Bp]? = some (.cells (pgC p a b c) 46 (0, 0))) (hBf : w.heap[Bf]? = some (.cells #[.int .i64 (k : Int)] 3 (0, 0))) :
    SeqT Fence.wide n Tryd.prog 87 #[.pointer (some ⟨Bp, 0, none⟩), .pointer (some ⟨Bf, 0, none⟩)] (fun x : Wi => #[wiV x]) (keptW W0.heap.size Bp Bf) (fun ys => ys = wishL p k) (fun pre => pre <+: wishL p k) (wishL p k).length w := fun l J Jx W hW hJ _ hY h0 =>
  wishes1 n hn l Bp Bf _ p a b c k hk J Jx W0 W rfl (hb.trans (hW.mono hb.size)) hP hC hJ hY ((hW.block _ (Array.getElem?_eq_some_iff.1 hBp).1).trans hBp) ((hW.block _ (Array.getElem?_eq_some_iff.1 hBf).1).trans hBf) h0
/-- The blocks that it leans on. -/
def keptA (n₀ Bp : Nat) : Bl := fun b => b < n₀ ∨ b = Bp
/-- What holds between two rounds, but for what the caller says. -/
structure AS (n₀ Bp B l : Nat) (W0 : World) (p : Pg) (a b c : Value) (T : Bl) (wr : World) : Prop where
  lo : n₀ ≤ B
  since : Since B T wr
  size : B ≤ wr.heap.size
  below : Below n₀ W0 wr
  prog : wr.heap[Bp]? = some (.cells (pgC p a b c) 46 (0, 0))
  yld : wr.heap[B]? = some (.cells #[.func (.yield l) #[] #[]] 150 (0, 0))
  own : ¬ T B
theorem AS.step {n₀ Bp B l : Nat} {W0 wr W' : World} {p : Pg} {a b c : Value} {T : Bl} (h : AS n₀ Bp B l W0 p a b c T wr) (hb : Below wr.heap.size wr W') : AS n₀ Bp B l W0 p a b c T W' := by
  have hs := hb.size
  exact ⟨h.lo, fun x hx => by have := h.since x hx; omega, by have := h.size; omega, h.below.trans (hb.mono (Nat.le_trans h.lo h.size)), (hb.block _ (Array.getElem?_eq_some_iff.1 h.prog).1).trans h.prog, (hb.block _ (Array.getElem?_eq_some_iff.1 h.yld).1).trans h.yld, h.own⟩
theorem AS.round {n₀ Bp B l : Nat} {W0 wr W' : World} {p : Pg} {a b c : Value} {T T' : Bl} (h : AS n₀ Bp B l W0 p a b c T wr) (hn : Newer T T' wr W') (hb : Buts (fun x => T x ∨ (x < B ∧ ¬ keptA n₀ Bp x)) wr W') (hp : Bp < B) : AS n₀ Bp B l W0 p a b c T' W' := by
  have hs := hb.size
  have hsz := h.size
  have hlo := h.lo
  have no : ∀ x, x < B → keptA n₀ Bp x → ¬ (T x ∨ (x < B ∧ ¬ keptA n₀ Bp x)) := fun x hx hk ho => by
    rcases ho with ho | ho
    · have := (h.since x ho).1; omega
    · exact ho.2 hk
  have hl := (Array.getElem?_eq_some_iff.1 h.yld).1
  refine ⟨h.lo, fun x hx => ?_, by omega, h.below.trans (hb.low (fun x hx => no x (by omega) (.inl hx)) (by omega)), hb.row h.prog (no _ hp (.inr rfl)), hb.row h.yld (fun ho => ?_), fun ht => ?_⟩
  · rcases hn x hx with e | e
    · have := h.since x e; omega
    · omega
  · rcases ho with ho | ho
    · exact h.own ho
    · omega
  · rcases hn B ht with ht | ht
    · exact h.own ht
    · omega
theorem AS.far {n₀ Bp B l B1 : Nat} {W0 wr W' : World} {p : Pg} {a b c : Value} {T T1 : Bl} (h : AS n₀ Bp B l W0 p a b c T wr) (hb : Far B1 T1 wr W') (h1 : B < B1) (hp : Bp < B) : AS n₀ Bp B l W0 p a b c T W' := by
  have hs := hb.size
  have hsz := h.size
  have hlo := h.lo
  exact ⟨h.lo, fun x hx => by have := h.since x hx; omega, by omega, h.below.trans ⟨hb.os, hb.tape, hb.output, hb.size, fun x hx => hb.block x (by omega) (.inl (by omega))⟩, (hb.block _ (Array.getElem?_eq_some_iff.1 h.prog).1 (.inl (by omega))).trans h.prog, (hb.block _ (Array.getElem?_eq_some_iff.1 h.yld).1 (.inl h1)).trans h.yld, h.own⟩
set_option maxRecDepth 100000 in
set_option maxHeartbeats 2000000 in
theorem all1 (n : Nat) (hn : 14 ≤ n) (l Bp n₀ : Nat) (p : Pg) (a b c : Value) (J Jx : List Wi → Bl → World → Prop) (W0 W : World) (hW0 : n₀ = W0.heap.size) (hW : Below n₀ W0 W) (hP : PgAt W0 p a b c) (hC : ∀ f ∈ p.flows, chk f.body = true)
    (hJ : LowT W.heap.size J) (hJx : LowT W.heap.size Jx)
    (hY : ∀ pre x T W1, J pre T W1 → Since W.heap.size T W1 → W.heap.size ≤ W1.heap.size → pre.length < (allL p).length → pre ++ [x] <+: allL p → YieldAt Fence.wide (n - 1) Tryd.prog l #[wiV x] W1 fun e W' =>
      (e = .returned (.bool true) ∧ ∃ T', Newer T T' W1 W' ∧ J (pre ++ [x]) T' W' ∧ Buts (fun x => T x ∨ (x < W.heap.size ∧ ¬ keptA n₀ Bp x)) W1 W') ∨ (e = .returned (.bool false) ∧ Buts (fun x => T x ∨ (x < W.heap.size ∧ ¬ keptA n₀ Bp x)) W1 W' ∧ ∃ T', Newer T T' W1 W' ∧ Jx (pre ++ [x]) T' W'))
    (hBp : W.heap[Bp]? = some (.cells (pgC p a b c) 46 (0, 0))) (h0 : J [] (fun _ => False) W) :
    CallsIn Fence.wide n Tryd.prog 68 #[.func (.yield l) #[] #[], .pointer (some ⟨Bp, 0, none⟩)] W fun e W' => (∃ v, e = .returned v) ∧ ∃ T', Since W.heap.size T' W' ∧ W.heap.size ≤ W'.heap.size ∧
      ((∃ ys, ys = allL p ∧ J ys T' W') ∨ (∃ pre, pre <+: allL p ∧ Jx pre T' W')) := by
  have h27 : Fence.wide.fn 69 := trivial
  have hn1 : 1 ≤ n := by omega
  subst hW0
  have hP' := hP
  obtain ⟨bo, cbp, sl, rfl, hlen2, _⟩ := hP.flows
  have HP := hid hP'
  have HJ := hid hJ
  have HJX := hid hJx
  have HY := hid hY
  have HCH := hid hC
  clear hJ hJx hY hP hP' hC
  have hsz0 := hW.size
  have hBpl := (Array.getElem?_eq_some_iff.1 hBp).1
  have hbA := (Below.refl W.heap.size W).alloc (Nat.le_refl _) (.cells #[.func (.yield l) #[] #[]] 150)
  have hA0 : AS W0.heap.size Bp W.heap.size l W0 p a (.slice bo p.flows.length cbp) c (fun _ => False) (W.alloc (.cells #[.func (.yield l) #[] #[]] 150)) :=
    ⟨hsz0, fun _ h => h.elim, hbA.size, hW.trans (hbA.mono hsz0), (hbA.block _ hBpl).trans hBp, heap_alloc_new W _, id⟩
  have HA0 := hid hA0
  have x2 : (W.alloc (.cells #[.func (.yield l) #[] #[]] 150)).cell? ⟨Bp, 2, none⟩ = some (.slice bo p.flows.length cbp) := by rw [cell_of_row _ _ _ _ 46 (0, 0) hA0.prog]; rfl
  have HJ0 := hid (HJ.out _ _ _ _ h0 (Far.of_below hbA))
  clear hW hBp hbA hA0 h0
  refine callsIn_of_wp_marks Tryd.func68 rfl trivial ?_ rfl
  simp only [Tryd.ntmps68, List.size_toArray, List.length_cons, List.length_nil, Nat.reduceAdd, Nat.reduceSub, Array.replicate_succ, Array.replicate_zero, List.push_toArray, List.append_toArray, List.nil_append, List.cons_append]
  gi_wp2
  refine wpIn_loop_ghost (fun q a' wr => ∃ (k : Nat) (T : Bl) (ds : List Deferred) (u3 u4 u9 u10 u11 u12 u13 u14 u15 u16 u17 u18 u19 : Value), q = p.flows.length - k ∧ k ≤ p.flows.length ∧ Hid (J (allN p k) T wr) ∧ Hid (AS W0.heap.size Bp W.heap.size l W0 p a (.slice bo p.flows.length cbp) c T wr) ∧ Hid (Mrk W.heap.size T ds wr) ∧ a' = { tmps := #[.func (.yield l) #[] #[], .pointer (some ⟨Bp, 0, none⟩), .pointer (some ⟨W.heap.size, 0, none⟩), u3, u4, .pointer (some ⟨Bp, 2, none⟩), .slice bo p.flows.length cbp, .int .i64 (p.flows.length : Int), .int .i64 (k : Int), u9, u10, u11, u12, u13, u14, u15, u16, u17, u18, u19], defers := ds }) p.flows.length ⟨0, fun _ => False, [], _, _, _, _, _, _, _, _, _, _, _, _, _, by omega, by omega, HJ0, HA0, hid (Mrk.nil _ _ _), rfl⟩ ?_
  rintro q a' wr ⟨k, T, ds, u3, u4, u9, u10, u11, u12, u13, u14, u15, u16, u17, u18, u19, rfl, hk, hJk, hAS, hMk, rfl⟩
  by_cases hkl : k < p.flows.length
  · have hkl' : (k : Int) < (p.flows.length : Int) := by omega
    have hk0 : (0 : Int) ≤ (k : Int) := by omega
    have y0 : wr.cell? ⟨Bp, 0, none⟩ = some (.int .i64 p.st) := by rw [cell_of_row _ _ _ _ 46 (0, 0) hAS.out.prog]; rfl
    have y1 : wr.cell? ⟨Bp, 1, none⟩ = some a := by rw [cell_of_row _ _ _ _ 46 (0, 0) hAS.out.prog]; rfl
    have y2 : wr.cell? ⟨Bp, 2, none⟩ = some (.slice bo p.flows.length cbp) := by rw [cell_of_row _ _ _ _ 46 (0, 0) hAS.out.prog]; rfl
    have y3 : wr.cell? ⟨Bp, 3, none⟩ = some c := by rw [cell_of_row _ _ _ _ 46 (0, 0) hAS.out.prog]; rfl
    gi_wp2_with (gi_at_call 69; refine (wishes_ (n - 1) p _ _ _ k wr).mono ?_; rintro e w1 ⟨rfl, hw1⟩)
    have hb1 : Below wr.heap.size wr w1 := by rw [hw1]; exact ((Below.refl _ wr).alloc (Nat.le_refl _) _).alloc (by simp) _
    have hs1 : w1.heap.size = wr.heap.size + 2 := by rw [hw1]; simp
    have hr1 : w1.heap[wr.heap.size]? = some (.cells (pgC p a (.slice bo p.flows.length cbp) c) 46 (0, 0)) := by rw [hw1, Below.heap_alloc _ _ _ (by simp)]; exact heap_alloc_new wr _
    have hr2 : w1.heap[wr.heap.size + 1]? = some (.cells #[.int .i64 (k : Int)] 3 (0, 0)) := by
      rw [hw1]
      have := heap_alloc_new (wr.alloc (.cells (pgC p a (.slice bo p.flows.length cbp) c) 46)) (.cells #[.int .i64 (k : Int)] 3)
      rwa [World.size_alloc] at this
    have hA1 := hAS.out.step hb1
    have hM1 := hMk.out.step hb1
    have hJ1 := HJ.out _ _ _ _ hJk.out (Far.of_below hb1)
    have hlo := hAS.out.lo
    have hszr := hAS.out.size
    have hsnr := hAS.out.since
    have hyl := (Array.getElem?_eq_some_iff.1 hAS.out.yld).1
    rw [← hw1]
    clear hw1 y0 y1 y2 y3
    have HA1 := hid hA1
    have HM1 := hid hM1
    have HJ1 := hid hJ1
    have HR1 := hid hr1
    have HR2 := hid hr2
    have HB1 := hid hb1
    have HSN := hid hsnr
    clear hA1 hM1 hJ1 hr1 hr2 hb1 hsnr
    refine range_T rfl (by omega) (gf := 87) (lb := #[.pointer (some ⟨wr.heap.size, 0, none⟩), .pointer (some ⟨wr.heap.size + 1, 0, none⟩)]) rfl trivial (enters_of Tryd.func87 (by kernel_rfl) rfl)
      (own := fun x => T x ∨ (x < W.heap.size ∧ ¬ keptA W0.heap.size Bp x)) (wishes_T (n - 1) (by omega) wr.heap.size (wr.heap.size + 1) p _ _ _ k hkl W0 w1 HA1.out.below HP.out HCH.out HR1.out HR2.out) (Below.refl _ _) (fun _ => rfl)
      (fun x hx => ?own) (fun x hx => ?kept)
      (fun pre T' V => ∃ Tx, (∀ x, Tx x → T x ∨ T' x) ∧ J (allN p k ++ pre) Tx V ∧ AS W0.heap.size Bp W.heap.size l W0 p a (.slice bo p.flows.length cbp) c Tx V ∧ Mrk W.heap.size Tx ds V)
      (fun c' pre T' V => c' = .ret ∧ ∃ Tx, (∀ x, Tx x → T x ∨ T' x) ∧ Jx (allN p k ++ pre) Tx V ∧ Since W.heap.size Tx V ∧ Mrk W.heap.size Tx ds V)
      ?lowI ?lowIx ⟨T, fun x hx => .inl hx, by rw [List.append_nil]; exact HJ1.out, HA1.out, HM1.out⟩
      (fun x a' V => ∃ Bx, w1.heap.size + 2 ≤ Bx ∧ V.heap[Bx]? = some (.cells (wiC x).toArray 111 (0, 0)) ∧ a' = { tmps := #[.func (.yield l) #[] #[], .pointer (some ⟨Bp, 0, none⟩), .pointer (some ⟨W.heap.size, 0, none⟩), .int .i64 (k : Int), .pointer (some ⟨Bx, 0, none⟩), .pointer (some ⟨Bp, 2, none⟩), .slice bo p.flows.length cbp, .int .i64 (p.flows.length : Int), .int .i64 (k : Int), .bool true, .int .i64 (k : Int), pgV p a (.slice bo p.flows.length cbp) c, .int .i64 (k : Int), .func (.func 87) #[] #[.pointer (some ⟨wr.heap.size, 0, none⟩), .pointer (some ⟨wr.heap.size + 1, 0, none⟩)], wiV x, u15, u16, u17, u18, u19], defers := [] })
      (fun x a' V o hs hx => by obtain ⟨Bx, h1, h2, h3⟩ := hx; exact ⟨Bx, h1, (World.putObj_heap_other (by omega)).trans h2, h3⟩)
      ?assign ?body ?done ?stop
    case own =>
      rcases hx with hx | ⟨hx, hn⟩
      · have := HSN.out x hx
        refine ⟨by omega, fun hk => ?_⟩
        unfold keptW at hk
        omega
      · refine ⟨by omega, fun hk => hn ?_⟩
        unfold keptW at hk
        unfold keptA
        omega
    case kept => unfold keptW at hx; omega
    case lowI =>
      rintro pre T' A C ⟨Tx, hT, h1, h2, h3⟩ hf
      have hlt : ∀ x, Tx x → x < w1.heap.size ∨ T' x := fun x hx => (hT x hx).imp (fun h => by have := HSN.out x h; omega) id
      refine ⟨Tx, hT, HJ.out _ _ _ _ h1 ⟨hf.os, hf.tape, hf.output, hf.size, fun b hb ho => hf.block b hb (ho.elim (fun h => .inl (by omega)) (hlt b))⟩, h2.far hf (by omega) hBpl, h3.far HM1.out hf (Nat.le_refl _)⟩
    case lowIx =>
      rintro c' pre T' A C ⟨rfl, Tx, hT, h1, h2, h3⟩ hf
      have hlt : ∀ x, Tx x → x < w1.heap.size ∨ T' x := fun x hx => (hT x hx).imp (fun h => by have := HSN.out x h; omega) id
      exact ⟨rfl, Tx, hT, HJX.out _ _ _ _ h1 ⟨hf.os, hf.tape, hf.output, hf.size, fun b hb ho => hf.block b hb (ho.elim (fun h => .inl (by omega)) (hlt b))⟩, fun x hx => by have := h2 x hx; have := hf.size; omega, h3.far HM1.out hf (Nat.le_refl _)⟩
    case assign =>
      rintro l2 pre x T' V K hsV hI hK
      gi_wp2
      exact hK _ _ ((Below.refl _ V).alloc (Nat.le_refl _) _) ⟨V.heap.size, hsV, heap_alloc_new V _, rfl⟩
    case body =>
      rintro l2 pre x T' a' V hsV hsn ⟨Tx, hT, h1, h2, h3⟩ ⟨Bx, hBx, hRow, rfl⟩ hlen hpre
      have v0 : V.cell? ⟨W.heap.size, 0, none⟩ = some (.func (.yield l) #[] #[]) := by rw [cell_of_row _ _ _ _ 150 (0, 0) h2.yld]; rfl
      have z0 : V.cell? ⟨Bx, 0, none⟩ = some (.int .i64 (x.flow : Int)) := by rw [cell_of_row _ _ _ _ 111 (0, 0) hRow]; rfl
      have z1 : V.cell? ⟨Bx, 1, none⟩ = some (.string x.rf.1) := by rw [cell_of_row _ _ _ _ 111 (0, 0) hRow]; rfl
      have z2 : V.cell? ⟨Bx, 2, none⟩ = some (.int .i64 (x.rf.2 : Int)) := by rw [cell_of_row _ _ _ _ 111 (0, 0) hRow]; rfl
      have z3 : V.cell? ⟨Bx, 3, none⟩ = some (.int .i64 x.of) := by rw [cell_of_row _ _ _ _ 111 (0, 0) hRow]; rfl
      have z4 : V.cell? ⟨Bx, 4, none⟩ = some (.int .i64 (x.way : Int)) := by rw [cell_of_row _ _ _ _ 111 (0, 0) hRow]; rfl
      have hp2 : allN p k ++ pre ++ [x] <+: allL p := by
        rw [List.append_assoc]
        refine List.IsPrefix.trans ?_ (allN_prefix p (k + 1) (by omega))
        rw [allN_succ]
        exact (List.prefix_append_right_inj _).2 hpre
      have hlen2 : (allN p k ++ pre).length < (allL p).length := by have := hp2.length_le; rw [List.length_append (bs := [x])] at this; simp only [List.length_cons, List.length_nil] at this; omega
      obtain ⟨fn, tmps, assign, body, hy, hR⟩ := yield_in l2 (yield_any rfl (n - 1 - 1 - 1) (HY.out (allN p k ++ pre) x Tx V h1 h2.since h2.size hlen2 hp2))
      have H2 := hid h2
      have H3 := hid h3
      have HT := hid hT
      have HR := hid hR
      have HSn := hid hsn
      clear h1 h2 h3 hT hR hRow hsn hlen hpre
      have hn3 : 1 ≤ n - 1 - 1 := by omega
      gi_wp2
      refine HR.out.mono ?_
      rintro e W3 (⟨rfl, T2, hn', hJ3, hk3⟩ | ⟨rfl, hz, T2, hn', hJx3⟩)
      · gi_wp2
        have hA3 := H2.out.round hn' hk3 hBpl
        have hM3 := H3.out.round hn' hk3 (fun x hx => hx.1)
        refine ⟨fun b => T' b ∨ (V.heap.size ≤ b ∧ b < W3.heap.size), fun b hb => hb, hk3.mono (fun b _ hb => ?_), T2, fun b hb => ?_, by rw [← List.append_assoc]; exact hJ3, hA3, hM3⟩
        · rcases hb with hb | hb
          · rcases HT.out b hb with h | h
            · exact .inr (.inl h)
            · exact .inl h
          · exact .inr (.inr hb)
        · rcases hn' b hb with h | h
          · rcases HT.out b h with h | h
            · exact .inl h
            · exact .inr (.inl h)
          · exact .inr (.inr h)
      · gi_wp2
        have hs3 := hz.size
        have hM3 := H3.out.round hn' hz (fun x hx => hx.1)
        refine ⟨fun b => T' b ∨ (V.heap.size ≤ b ∧ b < W3.heap.size), fun b hb => hb, hz.mono (fun b _ hb => ?_), rfl, T2, fun b hb => ?_, by rw [← List.append_assoc]; exact hJx3, fun b hb => ?_, hM3⟩
        · rcases hb with hb | hb
          · rcases HT.out b hb with h | h
            · exact .inr (.inl h)
            · exact .inl h
          · exact .inr (.inr hb)
        · rcases hn' b hb with h | h
          · rcases HT.out b h with h | h
            · exact .inl h
            · exact .inr (.inl h)
          · exact .inr (.inr h)
        · have h2s := H2.out.size
          rcases hn' b hb with h | h
          · have := H2.out.since b h; omega
          · omega
    case done =>
      rintro D ys T' V rfl hsV rfl hsn ⟨Tx, hT, h1, h2, h3⟩ hD
      have H1 := hid h1
      have H2 := hid h2
      have H3 := hid h3
      have hTD : ¬ Tx w1.heap.size := fun ht => by
        rcases hT _ ht with h | h
        · have := HSN.out _ h; omega
        · have := hsn _ h; omega
      have HC := hid (h3.cons (D := w1.heap.size) (by omega) hTD hD (HM1.out.fresh (Nat.le_refl _)))
      clear h1 h2 h3 hT hD hsn
      gi_wp2
      have hk1 : (k : Int) + 1 = ((k + 1 : Nat) : Int) := by omega
      rw [hk1]
      exact ⟨p.flows.length - (k + 1), by omega, k + 1, Tx, _, _, _, _, _, _, _, _, _, _, _, _, _, _, rfl, by omega, hid (by rw [allN_succ]; exact H1.out), H2, HC, rfl⟩
    case stop =>
      rintro D c' pre T' V rfl hsV hSp hsn ⟨rfl, Tx, hT, h1, h2, h3⟩ hD
      have hTD : ¬ Tx w1.heap.size := fun ht => by
        rcases hT _ ht with h | h
        · have := HSN.out _ h; omega
        · have := hsn _ h; omega
      have HC := hid (h3.cons (D := w1.heap.size) (by omega) hTD hD (HM1.out.fresh (Nat.le_refl _)))
      have HX1 := hid h1
      have HX2 := hid h2
      clear h1 h2 h3 hT hD hsn
      gi_wp2
      refine Mrk.leaves _ _ HC.out (fun w' hw' => ⟨_, results_none rfl _ _ _, ⟨_, rfl⟩, Tx, fun b hb => by have := HX2.out b hb; have := hw'.size; omega, by have := hw'.size; omega, .inr ⟨_, ?_, HJX.out _ _ _ _ HX1.out hw'⟩⟩)
      refine List.IsPrefix.trans ?_ (allN_prefix p (k + 1) (by omega))
      rw [allN_succ]
      exact (List.prefix_append_right_inj _).2 hSp
  · have hkl' : ¬ (k : Int) < (p.flows.length : Int) := by omega
    have hke : k = p.flows.length := by omega
    have HJL : Hid (J (allL p) T wr) := hid (by unfold allL; rw [← hke]; exact hJk.out)
    gi_wp2
    refine Mrk.leaves _ _ hMk.out (fun w' hw' => ⟨_, results_none rfl _ _ _, ⟨_, rfl⟩, T, fun b hb => by have := hAS.out.since b hb; have := hw'.size; omega, by have := hAS.out.size; have := hw'.size; omega, .inl (HJ.out _ _ _ _ HJL.out hw')⟩)
theorem all_ (n : Nat) (p : Pg) (a b c : Value) (w : World) :
    CallsIn Fence.wide n Tryd.prog 47 #[pgV p a b c] w fun e w' => e = .returned (.func (.func 68) #[] #[.pointer (some ⟨w.heap.size, 0, none⟩)]) ∧ w' = w.alloc (.cells (pgC p a b c) 46) := by
  refine callsIn_of_wp Tryd.func47 rfl trivial ?_ rfl
  simp only [Tryd.ntmps47, List.size_toArray, List.length_cons, List.length_nil, Nat.reduceAdd, Nat.reduceSub, Array.replicate_succ, Array.replicate_zero, List.push_toArray, List.append_toArray, List.nil_append, List.cons_append]
  gi_wp2
  go_ret
  exact ⟨rfl, rfl⟩
/-- What it hands back goes through all wishes. -/
theorem all_T (n : Nat) (hn : 14 ≤ n) (Bp : Nat) (p : Pg) (a b c : Value) (W0 w : World) (hb : Below W0.heap.size W0 w) (hP : PgAt W0 p a b c) (hC : ∀ f ∈ p.flows, chk f.body = true) (hBp : w.heap[Bp]? = some (.cells (pgC p a b c) 46 (0, 0))) :
    SeqT Fence.wide n Tryd.prog 68 #[.pointer (some ⟨Bp, 0, none⟩)] (fun x : Wi => #[wiV x]) (keptA W0.heap.size Bp) (fun ys => ys = allL p) (fun pre => pre <+: allL p) (allL p).length w := fun l J Jx W hW hJ hJx hY h0 =>
  all1 n hn l Bp _ p a b c J Jx W0 W rfl (hb.trans (hW.mono hb.size)) hP hC hJ hJx hY ((hW.block _ (Array.getElem?_eq_some_iff.1 hBp).1).trans hBp) h0
end Go.Proofs.YtdenddknbmiboaaDoor.Lex
namespace Go.Proofs.YtdenddknbmiboaaDoor.Lex
open Go.ChangeShapes Go.WideShapes Go.ChangeAt Go.RowKit Go.Joins
/-- None of them is great. -/
def Mild (l : List Int) : Prop := ∀ a ∈ l, -1099511627776 ≤ a ∧ a ≤ 1099511627776
theorem Mild.at {l : List Int} (h : Mild l) (i : Int) : -1099511627776 ≤ lateAt l i ∧ lateAt l i ≤ 1099511627776 := by
  unfold lateAt
  cases e : l[i.toNat]? with
  | none => show (-1099511627776 : Int) ≤ 0 ∧ (0 : Int) ≤ 1099511627776; omega
  | some a => exact h a (List.mem_of_getElem? e)
set_option maxRecDepth 100000 in
set_option maxHeartbeats 1000000 in
theorem age_ (x : Wi) (l : List Int) (v : Value) (w : World) (hI : IAt w l v) (hx : WiOk l.length x) (hm : Mild l) :
    Calls Tryd.prog 48 #[wiV x, v] w fun e w' => e = .returned (.int .i64 (ageV l x)) ∧ Below w.heap.size w w' := by
  have hxl := hx.flow
  obtain ⟨hx2, hx3⟩ := hx.of
  have hago := hx.ago
  have hway := hx.way
  obtain ⟨ao, cap, rfl, hcap, hc⟩ := hI
  obtain ⟨b, o, rfl, hcc⟩ := hc.resolve_left (by omega)
  clear hc
  have A1 := hm.at x.flow
  have e1 : lateAt l x.flow = l[x.flow] := by unfold lateAt; simp [hxl]
  have f0 : w.cell? ⟨b, o + x.flow, none⟩ = some (.int .i64 (lateAt l x.flow)) := by rw [e1]; exact hcc _ hxl
  have A2 := hm.at x.of
  have f1 : 0 ≤ x.of → w.cell? ⟨b, o + x.of.toNat, none⟩ = some (.int .i64 (lateAt l x.of)) := fun h => by
    have hlt : x.of.toNat < l.length := by omega
    have : lateAt l x.of = l[x.of.toNat] := by unfold lateAt; simp [hlt]
    rw [this]; exact hcc _ hlt
  have HA : Hid (ageV l x = lateAt l x.flow + x.rf.2 - x.way - (if 0 ≤ x.of then lateAt l x.of else 0)) := hid rfl
  have bl : b < w.heap.size := by
    have := f0
    unfold World.cell? at this
    rcases Nat.lt_or_ge b w.heap.size with h | h
    · exact h
    · simp [Array.getElem?_eq_none h] at this
  have bx := fun j u => box_at w (wiC x).toArray 111 j u
  have x0 := bx 0 _ rfl
  have x1 := bx 1 _ rfl
  have x2 := bx 2 _ rfl
  have x3 := bx 3 _ rfl
  have x4 := bx 4 _ rfl
  have keep := fun {p : Addr} {u : Value} (h : w.cell? p = some u) => cell_kept h ((Below.refl w.heap.size w).alloc (Nat.le_refl _) (.cells (wiC x).toArray 111))
  have g0 := keep f0
  have g1 := fun h => keep (f1 h)
  clear bx keep e1 hm hx hcc
  generalize lateAt l x.flow = LF at *
  generalize lateAt l x.of = LO at *
  generalize ageV l x = AV at *
  obtain ⟨xf, xr, xo, xw⟩ := x
  dsimp only at *
  have i0 : (0 : Int) ≤ (xf : Int) := by omega
  have i1 : (xf : Int) < (l.length : Int) := by omega
  have q1 : IntKind.i64.wrap (LF + (xr.2 : Int)) = LF + (xr.2 : Int) := by rw [IntKind.wrap_i64]; omega
  have q2 : IntKind.i64.wrap (LF + (xr.2 : Int) - (xw : Int)) = LF + (xr.2 : Int) - (xw : Int) := by rw [IntKind.wrap_i64]; omega
  go_enter Tryd.func48, Tryd.ntmps48
  go_wp2
  go_quiet (fail)
  by_cases h0 : 0 ≤ xo
  · have g2 := g1 h0
    rw [if_pos h0] at HA
    have h1 : xo < (l.length : Int) := hx2
    have q3 : wrap64 (LF + (xr.2 : Int) - (xw : Int) - LO) = LF + (xr.2 : Int) - (xw : Int) - LO := wrap_in (by omega) (by omega)
    clear g1
    go_wp2
    go_ret
    exact ⟨by rw [HA.out]; rfl, below_drewN ((Below.refl _ w).alloc (Nat.le_refl _) _) _⟩
  · rw [if_neg h0] at HA
    clear g1
    go_wp2
    go_ret
    exact ⟨by rw [HA.out, Int.sub_zero]; rfl, below_drewN ((Below.refl _ w).alloc (Nat.le_refl _) _) _⟩
end Go.Proofs.YtdenddknbmiboaaDoor.Lex
namespace Go.Proofs.YtdenddknbmiboaaDoor.Lex
open Go.ChangeShapes Go.WideShapes Go.ChangeAt Go.RowKit Go.Joins
/-- It is no lateness. -/
def outB (a : Int) : Bool := decide (a < 0) || decide (1000 < a)
theorem outside (a : Int) (w : World) : Calls Tryd.prog 46 #[.int .i64 a] w fun e w' => e = .returned (.bool (outB a)) ∧ w' = w := by
  by_cases h : a < 0
  · have h1 : outB a = true := by unfold outB; simp [h]
    rw [h1]
    go_enter Tryd.func46, Tryd.ntmps46
    go_wp2
    go_ret
    exact ⟨rfl, rfl⟩
  · by_cases h2 : 1000 < a
    · have h1 : outB a = true := by unfold outB; simp [h2]
      rw [h1]
      have hd : decide (a < 0) = false := by simpa using h
      go_enter Tryd.func46, Tryd.ntmps46
      go_wp2
      go_ret
      exact ⟨rfl, rfl⟩
    · have h1 : outB a = false := by unfold outB; simp [h2, h]
      rw [h1]
      have hd : decide (a < 0) = false := by simpa using h
      have hd2 : decide (a > 1000) = false := by simpa using h2
      go_enter Tryd.func46, Tryd.ntmps46
      go_wp2
      go_ret
      exact ⟨rfl, rfl⟩
/-- One of them is none. -/
def anyOut (l : List Int) : Bool := l.any outB
set_option maxRecDepth 100000 in
set_option maxHeartbeats 1000000 in
theorem index_func (l : List Int) (v : Value) (w : World) (hI : IAt w l v) : Calls Tryd.prog 67 #[v, .func (.func 46) #[] #[]] w fun e w' => (∃ i : Int, e = .returned (.int .i64 i) ∧ (anyOut l = true → 0 ≤ i) ∧ (anyOut l = false → i = -1)) ∧ w' = w := by
  obtain ⟨ao, cap, rfl, ⟨hcap, hlen⟩, hc⟩ := hI
  have HC := hid hc
  clear hc
  go_enter Tryd.func67, Tryd.ntmps67
  go_wp2
  go_loopw [8] (fun i wr => ∃ k : Nat, k ≤ l.length ∧ i = .int .i64 (k : Int) ∧ Hid (anyOut (l.take k) = false) ∧ wr = w) (fun i _ => l.length - (intOf i).toNat)
  case atStart => exact ⟨0, Nat.zero_le _, rfl, hid rfl, rfl⟩
  case round =>
    obtain ⟨k, hk, rfl, hF, rfl⟩ := hrel
    by_cases hkl : k < l.length
    · have hkl' : (k : Int) < (l.length : Int) := by omega
      have hk0 : (0 : Int) ≤ (k : Int) := by omega
      obtain ⟨b, o, rfl, hcc⟩ := HC.out.resolve_left (by omega)
      have x0 := hcc k hkl
      clear hcc
      have HT : Hid (anyOut (l.take (k + 1)) = outB l[k]) := hid (by have := hF.out; unfold anyOut at this ⊢; rw [List.take_succ_eq_append_getElem hkl, List.any_append, this]; simp)
      have HA : Hid (outB l[k] = true → anyOut l = true) := hid (fun h => List.any_eq_true.2 ⟨_, List.getElem_mem hkl, h⟩)
      have co := outside l[k] wr
      generalize l[k] = y at *
      have hmf : (callFunc 32 #[.int .i64 y]).run Tryd.prog wr = .ok (.enter 32 #[.int .i64 y]) wr := rfl
      cases hy : outB y with
      | true =>
        have hY := hid (HA.out hy)
        rw [hy] at co
        clear hy
        go_wp2_with (go_at_call 46; refine co.mono ?_; rintro e w2 ⟨rfl, rfl⟩)
        go_ret
        exact ⟨⟨(k : Int), rfl, fun _ => by omega, fun h => by rw [hY.out] at h; cases h⟩, rfl⟩
      | false =>
        rw [hy] at co
        have hY := hid hy
        clear hy
        go_wp2_with (go_at_call 46; refine co.mono ?_; rintro e w2 ⟨rfl, rfl⟩)
        go_roundw
        case rel => exact ⟨k + 1, by omega, by go_num, hid (by rw [HT.out]; exact hY.out), trivial⟩
        case measure => simp [intOf]; omega
    · have hkl' : ¬ (k : Int) < (l.length : Int) := by omega
      have hA : Hid (anyOut l = false) := hid (by have := hF.out; rw [List.take_of_length_le (by omega)] at this; exact this)
      go_wp2
      go_ret
      exact ⟨⟨-1, rfl, (fun h => by rw [hA.out] at h; cases h), (fun _ => rfl)⟩, rfl⟩
theorem contains_func (l : List Int) (v : Value) (w : World) (hI : IAt w l v) : Calls Tryd.prog 45 #[v, .func (.func 46) #[] #[]] w fun e w' => e = .returned (.bool (anyOut l)) ∧ w' = w := by
  have c := index_func l v w hI
  obtain ⟨ao, cap, rfl, _⟩ := hI
  cases hA : anyOut l with
  | true =>
    have HA := hid hA
    clear hA
    go_enter Tryd.func45, Tryd.ntmps45
    go_wp2_with (go_at_call 67; refine c.mono ?_; rintro e w2 ⟨⟨i, rfl, h1, h2⟩, rfl⟩; have h3 := h1 HA.out; clear h1 h2 c)
    go_ret
    exact ⟨rfl, rfl⟩
  | false =>
    have HA := hid hA
    clear hA
    go_enter Tryd.func45, Tryd.ntmps45
    go_wp2_with (go_at_call 67; refine c.mono ?_; rintro e w2 ⟨⟨i, rfl, h1, h2⟩, rfl⟩; have h3 := h2 HA.out; subst h3; clear h1 h2 c)
    go_ret
    exact ⟨rfl, rfl⟩
end Go.Proofs.YtdenddknbmiboaaDoor.Lex
namespace Go.Proofs.YtdenddknbmiboaaDoor.Lex
open Go.ChangeShapes Go.WideShapes Go.ChangeAt Go.RowKit Go.Joins
def inR (n m : Int) : Bool := decide (1 ≤ n) && decide (n ≤ m)
def hdOk (x : Hd) (st : Int) : Bool := isName x.name && ((x.ty == 1 || x.ty == 2) && inR x.st st)
def flOk (x : Fl) (st : Int) : Bool := hdOk x.hd st && (!(x.df == -9223372036854775808) && chk x.body)
def roomOk (p : Pg) : Bool := decide (p.ins.length ≤ 64) && (decide (p.flows.length ≤ 128) && decide (p.outs.length ≤ p.ins.length + p.flows.length))
/-- A program may be. -/
def pgOk (p : Pg) : Bool := (inR p.st 8 && roomOk p) && (p.ins.all (fun x => hdOk x p.st) && (p.flows.all (fun x => flOk x p.st) && p.outs.all isName))
theorem in_range (n m : Int) (w : World) : Calls Tryd.prog 78 #[.int .i64 n, .int .i64 m] w fun e w' => e = .returned (.bool (inR n m)) ∧ w' = w := by
  unfold inR
  by_cases h1 : 1 ≤ n
  · by_cases h2 : n ≤ m
    · rw [decide_eq_true h1, decide_eq_true h2]
      go_enter Tryd.func78, Tryd.ntmps78
      go_wp2
      go_ret
      exact ⟨rfl, rfl⟩
    · rw [decide_eq_true h1, decide_eq_false h2]
      go_enter Tryd.func78, Tryd.ntmps78
      go_wp2
      go_ret
      exact ⟨rfl, rfl⟩
  · rw [decide_eq_false h1]
    go_enter Tryd.func78, Tryd.ntmps78
    go_wp2
    go_ret
    exact ⟨rfl, rfl⟩
set_option maxRecDepth 100000 in
theorem has_room (p : Pg) (w : World) (a b c : Value) (hP : PgAt w p a b c) : Calls Tryd.prog 79 #[pgV p a b c] w fun e w' => e = .returned (.bool (roomOk p)) ∧ Below w.heap.size w w' := by
  obtain ⟨a0, a1, rfl, hl1, _⟩ := hP.ins
  obtain ⟨b0, b1, _, rfl, hl2, _⟩ := hP.flows
  obtain ⟨c0, c1, rfl, hl3, _⟩ := hP.outs
  have B0 := hid ((Below.refl w.heap.size w).alloc (Nat.le_refl _) (.cells (pgC p (.slice a0 p.ins.length a1) (.slice b0 p.flows.length b1) (.slice c0 p.outs.length c1)) 46))
  clear hP
  unfold roomOk
  by_cases h1 : p.ins.length ≤ 64
  · have h1' : (p.ins.length : Int) ≤ 64 := by omega
    by_cases h2 : p.flows.length ≤ 128
    · have h2' : (p.flows.length : Int) ≤ 128 := by omega
      by_cases h3 : p.outs.length ≤ p.ins.length + p.flows.length
      · have h3' : (p.outs.length : Int) ≤ (p.ins.length : Int) + (p.flows.length : Int) := by omega
        rw [decide_eq_true h1, decide_eq_true h2, decide_eq_true h3]
        go_enter Tryd.func79, Tryd.ntmps79
        go_wp2
        go_ret
        exact ⟨rfl, B0.out⟩
      · have h3' : ¬ (p.outs.length : Int) ≤ (p.ins.length : Int) + (p.flows.length : Int) := by omega
        rw [decide_eq_true h1, decide_eq_true h2, decide_eq_false h3]
        go_enter Tryd.func79, Tryd.ntmps79
        go_wp2
        go_ret
        exact ⟨rfl, B0.out⟩
    · have h2' : ¬ (p.flows.length : Int) ≤ 128 := by omega
      rw [decide_eq_true h1, decide_eq_false h2]
      go_enter Tryd.func79, Tryd.ntmps79
      go_wp2
      go_ret
      exact ⟨rfl, B0.out⟩
  · have h1' : ¬ (p.ins.length : Int) ≤ 64 := by omega
    rw [decide_eq_false h1]
    go_enter Tryd.func79, Tryd.ntmps79
    go_wp2
    go_ret
    exact ⟨rfl, B0.out⟩
set_option maxRecDepth 100000 in
theorem may_stand (x : Hd) (st : Int) (w : World) (hT : TabR w) : Calls Tryd.prog 80 #[hdV x, .int .i64 st] w fun e w' => e = .returned (.bool (hdOk x st)) ∧ Below w.heap.size w w' := by
  have b0 := (Below.refl w.heap.size w).alloc (Nat.le_refl _) (.cells #[.string x.name, .int .u8 (x.ty : Int), .int .i64 x.st] 73)
  have c := name x.name _ (hT.below b0)
  have bx := fun j v => box_at w #[.string x.name, .int .u8 (x.ty : Int), .int .i64 x.st] 73 j v
  have x1 := bx 1 (.int .u8 (x.ty : Int)) rfl
  have x2 := bx 2 (.int .i64 x.st) rfl
  have B0 := hid b0
  clear b0 bx hT
  unfold hdOk
  cases hn : isName x.name with
  | false =>
    rw [hn] at c
    go_enter Tryd.func80, Tryd.ntmps80
    go_wp2_with (go_at_call 83; refine c.mono ?_; rintro e w1 ⟨rfl, hb1⟩; have B1 := hid (bstep B0.out hb1); clear x1 x2 hb1)
    go_ret
    exact ⟨rfl, B1.out⟩
  | true =>
    rw [hn] at c
    by_cases h1 : x.ty = 1
    · have e1 : ((x.ty : Int) == 1) = true := by simp; omega
      have e1' : (x.ty == 1) = true := by simp [h1]
      rw [e1']
      clear h1 e1'
      go_enter Tryd.func80, Tryd.ntmps80
      go_wp2_with (first
        | (go_at_call 83; refine c.mono ?_; rintro e w1 ⟨rfl, hb1⟩; have y1 := cell_kept x1 hb1; have y2 := cell_kept x2 hb1; have B1 := hid (bstep B0.out hb1); clear x1 x2 hb1)
        | (go_at_call 78; refine (in_range x.st st _).mono ?_; rintro e w2 ⟨rfl, rfl⟩))
      go_ret
      exact ⟨rfl, B1.out⟩
    · by_cases h2 : x.ty = 2
      · have e1 : ((x.ty : Int) == 1) = false := by simp; omega
        have e2 : ((x.ty : Int) == 2) = true := by simp; omega
        have e1' : (x.ty == 1) = false := by simp [h1]
        have e2' : (x.ty == 2) = true := by simp [h2]
        rw [e1', e2']
        clear h1 h2 e1' e2'
        go_enter Tryd.func80, Tryd.ntmps80
        go_wp2_with (first
          | (go_at_call 83; refine c.mono ?_; rintro e w1 ⟨rfl, hb1⟩; have y1 := cell_kept x1 hb1; have y2 := cell_kept x2 hb1; have B1 := hid (bstep B0.out hb1); clear x1 x2 hb1)
          | (go_at_call 78; refine (in_range x.st st _).mono ?_; rintro e w2 ⟨rfl, rfl⟩))
        go_ret
        exact ⟨rfl, B1.out⟩
      · have e1 : ((x.ty : Int) == 1) = false := by simp; omega
        have e2 : ((x.ty : Int) == 2) = false := by simp; omega
        have e1' : (x.ty == 1) = false := by simp [h1]
        have e2' : (x.ty == 2) = false := by simp [h2]
        rw [e1', e2']
        clear h1 h2 e1' e2'
        go_enter Tryd.func80, Tryd.ntmps80
        go_wp2_with (go_at_call 83; refine c.mono ?_; rintro e w1 ⟨rfl, hb1⟩; have y1 := cell_kept x1 hb1; have y2 := cell_kept x2 hb1; have B1 := hid (bstep B0.out hb1); clear x1 x2 hb1)
        go_ret
        exact ⟨rfl, B1.out⟩
theorem two_box (w : World) (c d : Array Value) (t u : TypeId) : ((w.alloc (.cells c t)).alloc (.cells d u)).heap[w.heap.size + 1]? = some (.cells d u (0, 0)) := by
  have := heap_alloc_new (w.alloc (.cells c t)) (.cells d u)
  rwa [World.size_alloc] at this
theorem info37 : (Tryd.prog.info? 73).map (·.size) = some 3 := by kernel_rfl
set_option maxRecDepth 100000 in
theorem head_of (x : Fl) (w : World) (s : Value) (hs : ∃ ao n cap, s = .slice ao n cap) : Calls Tryd.prog 81 #[flV x s] w fun e w' => e = .returned (hdV x.hd) ∧ Below w.heap.size w w' := by
  obtain ⟨ao, n, cap, rfl⟩ := hs
  go_enter Tryd.func81, Tryd.ntmps81
  go_wp2
  exact bodyPost_ret (results_cell_row rfl _ _ (w.heap.size + 1) 73 #[.string x.name, .int .u8 (x.ty : Int), .int .i64 x.st] (0, 0) _ rfl (two_box _ _ _ _ _) Tryd.underlying73 rfl info37) rfl ⟨rfl, bstep ((Below.refl _ _).alloc (Nat.le_refl _) _) ((Below.refl _ _).alloc (Nat.le_refl _) _)⟩
end Go.Proofs.YtdenddknbmiboaaDoor.Lex
