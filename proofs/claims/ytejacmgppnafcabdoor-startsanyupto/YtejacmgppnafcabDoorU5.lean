/-
  What is asked for, gathered: the contract of the closure of Refs.
  What is asked for: the contract of Refs.
  The names that the Bodies ask for, one by one: the contract of the function that names.asked hands back.
  The names that the Bodies ask for: what names.asked hands back goes through them.
  Does each name mean one thing: the contract of names.Check.
  How great a program is: whatever number is told, the calls return.
  A program in its variable.
  What is checked is found: in a program whose names mean one thing each.
  A program with its flows in another order: it is checked likewise.
  A program with less, or with a flow twice: how it is checked.
-/
import Derived.Test.YtejacmgppnafcabDoorU4
import Derived.Deep.Cut
import Derived.Laws.EntriesVeiled
import Derived.Test.YtejacmgppnafcabDoorU2
import Derived.Test.YtejacmgppnafcabDoorU1
namespace Go.Proofs.YtejacmgppnafcabDoor.Lex
open Go.ChangeShapes Go.WideShapes Go.ChangeAt Go.RowKit Go.Joins Go.WideMaps Go.WideElems Go.Maps
theorem kept0 {W W' : World} {r k : Nat} {o : Obj} (h : W.heap[k]? = some o) (g : W.grownBy W' (some r)) (hk : k ≠ r) : W'.heap[k]? = some o :=
  (g.block k (Array.getElem?_eq_some_iff.1 h).1 (fun e => by injection e with e; exact hk e)).trans h
def GatC (k : Nat) : Prop := ∀ (x : Ex) (s : Value) (ago : Nat) (w0 W : World) (bs bl bg mb b0 N : Nat) (acc : List Rf), St w0 x s → NmOk k x → ago + k ≤ 1099511627776 → N + cnt k x ≤ 1099511627776 → GI w0 bs bl bg mb b0 acc acc N W →
  Calls Tryd.prog 19 #[exV x s, .int .i64 (ago : Int), ptr bs, ptr bl, ptr bg] W fun e w' => e = .returned (.tuple #[]) ∧ GI w0 bs bl bg mb b0 (gat k x ago acc) (gat k x ago acc) (N + cnt k x) w'
def accAt (k : Nat) (x : Ex) (ago : Nat) (acc : List Rf) (i : Nat) : List Rf := (x.args.take i).foldl (fun acc y => gat k y (nextAgo x ago) acc) (ownRefs x ago acc)
def cntAt (k : Nat) (x : Ex) (i : Nat) : Nat := (x.args.take i).foldl (fun n y => n + cnt k y) 1
theorem accAt_succ {k : Nat} {x : Ex} {ago : Nat} {acc : List Rf} {j : Nat} (h : j < x.args.length) : accAt k x ago acc (j + 1) = gat k x.args[j] (nextAgo x ago) (accAt k x ago acc j) := by
  unfold accAt
  rw [List.take_add_one, List.getElem?_eq_getElem h, Option.toList_some, List.foldl_append]
  rfl
theorem cntAt_succ {k : Nat} {x : Ex} {j : Nat} (h : j < x.args.length) : cntAt k x (j + 1) = cntAt k x j + cnt k x.args[j] := by
  unfold cntAt
  rw [List.take_add_one, List.getElem?_eq_getElem h, Option.toList_some, List.foldl_append]
  rfl
theorem cntAt_le (k : Nat) (x : Ex) : ∀ (n j : Nat), j + n = x.args.length → cntAt k x j ≤ cntAt k x x.args.length
  | 0, j, h => by rw [← h, Nat.add_zero]; exact Nat.le_refl _
  | n + 1, j, h => by
    have h1 := cntAt_le k x n (j + 1) (by omega)
    rw [cntAt_succ (by omega)] at h1
    omega
theorem foldl_ge (f : Ex → Nat) : ∀ (l : List Ex) (n : Nat), n ≤ l.foldl (fun n y => n + f y) n
  | [], _ => Nat.le_refl _
  | a :: l, n => Nat.le_trans (Nat.le_add_right n (f a)) (foldl_ge f l (n + f a))
theorem cnt_pos (k : Nat) (x : Ex) : 1 ≤ cnt k x := by
  cases k with
  | zero => exact Nat.le_refl _
  | succ k => exact foldl_ge (cnt k) x.args 1

theorem nextAgo_le (x : Ex) (ago : Nat) : nextAgo x ago ≤ ago + 1 := by unfold nextAgo; split <;> omega
theorem own_slice {w : World} {base e size n : Nat} {v : Value} {xs : List Value} (h : w.ownsRow base e size v (n + 1) xs) : ∃ g c, v = .slice (some ⟨g, 0, none⟩) (n + 1) c := by
  rcases h.2 with ⟨_, h0⟩ | ⟨g, cap, cur, rfl, _⟩
  · omega
  · exact ⟨g, cap, rfl⟩
theorem inf51 : ∃ ie, Tryd.prog.info? 37 = some ie ∧ ie.zero = some (.agg #[.string ByteArray.empty, .int .i64 0]) ∧ ie.size = 2 := by
  have h : (Tryd.prog.info? 37).map (fun i => (i.zero, i.size)) = some (some (.agg #[.string ByteArray.empty, .int .i64 0]), 2) := by kernel_rfl
  obtain ⟨ie, h1, h2⟩ := Option.map_eq_some_iff.1 h
  injection h2 with h2 h3
  exact ⟨ie, h1, h2, h3⟩
theorem fill51 (r : Rf) : Instr.fill (fun i => some (i * 2, 2)) ((Array.range (1 * 2)).map ((Value.agg #[.string ByteArray.empty, .int .i64 0]).cells[· % (Value.agg #[.string ByteArray.empty, .int .i64 0]).cells.size]!)) [(0, rKey r)] = some (rV r) := by
  have e : ((Array.range (1 * 2)).map ((Value.agg #[.string ByteArray.empty, .int .i64 0]).cells[· % (Value.agg #[.string ByteArray.empty, .int .i64 0]).cells.size]!)) = #[.string ByteArray.empty, .int .i64 0] := by kernel_rfl
  rw [e]
  simp [Instr.fill]
  exact ⟨⟨rfl, Nat.le_refl 2⟩, rfl⟩
theorem two_new (w : World) (x y : Value) : ∀ j u, [x, y][j]? = some u → (w.alloc (.cells #[x, y] 37)).cell? ((⟨w.heap.size, 0, none⟩ : Addr).add j) = some u := by
  intro j u hj
  have hadd : (⟨w.heap.size, 0, none⟩ : Addr).add j = ⟨w.heap.size, j, none⟩ := by unfold Addr.add; split <;> simp_all
  rw [hadd, World.cell?_alloc_at _ _ _ _ rfl]
  rcases j with _ | _ | j
  · simpa using hj
  · simpa using hj
  · simp at hj
set_option maxRecDepth 100000 in
set_option maxHeartbeats 2000000 in
theorem gather_of (k : Nat) (ih : GatC k) : GatC (k + 1) := by
  intro x s ago w0 W bs bl bg mb b0 N acc hS hNm hago hN hG
  obtain ⟨ao, cap, sl, rfl, hop, hn, hnm, hlen, hcap, hc, hs⟩ := hS.out
  have b5 := (Below.refl W.heap.size W).alloc (Nat.le_refl _) (.cells (ex4 x (.slice ao x.args.length cap)) 30)
  have X5 := heap_alloc_new W (.cells (ex4 x (.slice ao x.args.length cap)) 30)
  have G5 := hid (hG.step b5)
  have hG0 := hG
  obtain ⟨y0, y1, y2, y3⟩ : (W.alloc (.cells (ex4 x (.slice ao x.args.length cap)) 30)).cell? ⟨W.heap.size, 0, none⟩ = some (.int .u8 (x.op : Int)) ∧ (W.alloc (.cells (ex4 x (.slice ao x.args.length cap)) 30)).cell? ⟨W.heap.size, 1, none⟩ = some (.int .i64 x.n) ∧ (W.alloc (.cells (ex4 x (.slice ao x.args.length cap)) 30)).cell? ⟨W.heap.size, 2, none⟩ = some (.string x.name) ∧ (W.alloc (.cells (ex4 x (.slice ao x.args.length cap)) 30)).cell? ⟨W.heap.size, 3, none⟩ = some (.slice ao x.args.length cap) := by
    refine ⟨?_, ?_, ?_, ?_⟩ <;> (rw [cell_of_row _ _ _ _ 30 (0, 0) X5]; rfl)
  go_enter Tryd.func19, Tryd.ntmps19
  refine wp_seq_k fun K0 hK0 => ?_
  have HK0 := hid hK0
  clear hK0
  go_wp2
  refine HK0.out _ _ ?_
  clear HK0 K0
  refine wp_seq_k fun K1 hK1 => ?_
  go_cut [1] from 6 (fun ag Wc => ag = .int .i64 (nextAgo x ago : Int) ∧ Hid (GI w0 bs bl bg mb b0 (ownRefs x ago acc) (ownRefs x ago acc) (N + 1) Wc) ∧ Hid (Wc.heap[W.heap.size]? = some (.cells (ex4 x (.slice ao x.args.length cap)) 30 (0, 0))))
  case rest =>
    obtain ⟨rfl, hGc, hXc⟩ := hcut
    have HC := hid hc
    have HS := hid hs
    have HNM := hid hNm
    have z3 : wc.cell? ⟨W.heap.size, 3, none⟩ = some (.slice ao x.args.length cap) := by rw [cell_of_row _ _ _ _ 30 (0, 0) hXc.out]; rfl
    have hg0 : accAt k x ago acc 0 = ownRefs x ago acc := by simp [accAt]
    have hc0 : cntAt k x 0 = 1 := by simp [cntAt]
    have G0 : Hid (GI w0 bs bl bg mb b0 (accAt k x ago acc 0) (accAt k x ago acc 0) (N + cntAt k x 0) wc) := by rw [hg0, hc0]; exact hGc
    have END : Hid (accAt k x ago acc x.args.length = gat (k + 1) x ago acc ∧ cntAt k x x.args.length = cnt (k + 1) x) := hid (by unfold accAt cntAt; rw [List.take_length]; exact ⟨rfl, rfl⟩)
    have HA := hid hago
    have HN := hid hN
    clear hG hG0 b5 X5 G5 y0 y1 y2 y3 hc hs hNm hGc hXc hg0 hc0 hS hago hN hop hn hnm hcap
    refine hK1 _ _ ?_
    clear hK1 K1
    go_wp2
    go_loopw [40] (fun i wr => ∃ j : Nat, j ≤ x.args.length ∧ i = .int .i64 (j : Int) ∧ Hid (GI w0 bs bl bg mb b0 (accAt k x ago acc j) (accAt k x ago acc j) (N + cntAt k x j) wr)) (fun i _ => x.args.length - (intOf i).toNat)
    case atStart => exact ⟨0, Nat.zero_le _, rfl, G0⟩
    case round =>
      obtain ⟨j, hj, rfl, hGj⟩ := hrel
      by_cases hlt : j < x.args.length
      · have hlt' : (j : Int) < (x.args.length : Int) := by omega
        have hj0 : (0 : Int) ≤ (j : Int) := by omega
        obtain ⟨bb, o, rfl, hcc⟩ := HC.out.resolve_left (by omega)
        obtain ⟨a0, a1, a2, a3⟩ := hcc j hlt
        have v0 := cell_kept a0 hGj.out.below
        have v1 := cell_kept a1 hGj.out.below
        have v2 := cell_kept a2 hGj.out.below
        have v3 := cell_kept a3 hGj.out.below
        have hst := HS.out j hlt
        have hnm := HNM.out.2 _ (List.getElem_mem hlt)
        have E1 := hid (accAt_succ (k := k) (ago := ago) (acc := acc) hlt)
        have E2 := hid (cntAt_succ (k := k) hlt)
        have hle := cntAt_le k x (x.args.length - (j + 1)) (j + 1) (by omega)
        rw [END.out.2, E2.out] at hle
        have hna := nextAgo_le x ago
        have HAo := HA.out
        have HNo := HN.out
        generalize x.args[j] = y at *
        clear a0 a1 a2 a3 hcc
        generalize sl j = sv at *
        obtain ⟨a3, c3, _, rfl, _⟩ := hst.out
        have b1 := (Below.refl wr.heap.size wr).alloc (Nat.le_refl _) (.cells (ex4 y (.slice a3 y.args.length c3)) 30)
        have G1 := hGj.out.step b1
        have q4 : (wr.alloc (.cells (ex4 y (.slice a3 y.args.length c3)) 30)).cell? ⟨bg, 0, none⟩ = some (.func (.func 19) #[] #[ptr bs, ptr bl, ptr bg]) := by rw [cell_of_row _ _ _ _ 57 (0, 0) G1.self]; rfl
        have c := ih y _ (nextAgo x ago) w0 _ bs bl bg mb b0 _ _ hst hnm (by omega) (by omega) G1
        clear hst hnm hle hna HAo HNo G1 b1 ih
        generalize nextAgo x ago = ag at *
        go_wp2_with (go_at_call 19; refine c.mono ?_; rintro e w4 ⟨rfl, g4⟩; have G4 := hid g4; clear g4 c)
        go_roundw
        case rel => exact ⟨j + 1, by omega, by go_num, by rw [E1.out, E2.out, ← Nat.add_assoc]; exact G4⟩
        case measure => simp [intOf]; omega
      · have hlt' : ¬ (j : Int) < (x.args.length : Int) := by omega
        obtain rfl : j = x.args.length := by omega
        go_wp2
        refine bodyPost_end (by simp [results]) rfl ⟨rfl, ?_⟩
        have h := hGj.out
        rw [END.out.1, END.out.2] at h
        exact h
  case first =>
    have HW := hid (Array.getElem?_eq_some_iff.1 X5).1
    have X5h := hid X5
    by_cases h3 : x.op = 3
    · have NA : Hid (nextAgo x ago = ago) := hid (by unfold nextAgo; rw [if_neg (by omega)])
      have hop3 : ((x.op : Int) == 3) = true := by simp [h3]
      have hcl := fun V => clone x.name V hNm.1
      have hrok : RfOk (x.name, ago) := ⟨hNm.1, by show ago ≤ _; omega⟩
      have OWN0 : Hid (ownRefs x ago acc = addR acc (x.name, ago)) := hid (by unfold ownRefs; rw [if_pos h3])
      obtain ⟨i0, hi, hi0, hi1, hi2⟩ := info_parts i51
      have HNs := hid hN
      have H3 := hid h3
      clear ih hc hs hS hG b5 X5 hop hn hnm hlen hcap hago hN hNm h3 hK1
      go_wp2_with (go_at_call 20; refine (hcl _).mono ?_; rintro e w2 ⟨rfl, b2⟩; have B2 := hid b2; clear b2 hcl)
      have b3 := (Below.refl w2.heap.size w2).alloc (Nat.le_refl _) (.cells #[.string x.name, .int .i64 (ago : Int)] 37)
      have b23 := bstep B2.out b3
      have G3 := (G5.out.step b23).step (show Below _ (w2.alloc (.cells #[.string x.name, .int .i64 (ago : Int)] 37)) (w2.alloc (.cells #[.string x.name, .int .i64 (ago : Int)] 37)).drew from below_drewN (Below.refl _ _) 1)
      have X3 := heap_alloc_new w2 (.cells #[.string x.name, .int .i64 (ago : Int)] 37)
      have XB0 : (w2.alloc (.cells #[.string x.name, .int .i64 (ago : Int)] 37)).drew.heap[W.heap.size]? = some (.cells (ex4 x (.slice ao x.args.length cap)) 30 (0, 0)) := (b23.block _ HW.out).trans X5h.out
      have hlt2 : w2.heap.size < (w2.alloc (.cells #[.string x.name, .int .i64 (ago : Int)] 37)).drew.heap.size := (Array.getElem?_eq_some_iff.1 X3).1
      have hw2 : (W.alloc (.cells (ex4 x (.slice ao x.args.length cap)) 30)).heap.size ≤ w2.heap.size := B2.out.size
      obtain ⟨o1, o2, o3, o4, o5, o6, o7, o8, o9⟩ := G5.out.ord
      have hmb2 : w2.heap.size ≠ mb := by omega
      have hmbW : W.heap.size ≠ mb := by have := hG0.ord.2.2.2.2.2.2.2; omega
      obtain ⟨c, W1, W2, born, hcN, hc0, l0, m1, l1, s1, l2, M2, g1, g2⟩ := G3.map.bump (by have := HNs.out; have := cnt_pos (k + 1) x; omega) hrok
      simp only [rKey, rV] at l0 m1 l1 s1 l2
      have k1 : ∀ {b o}, (w2.alloc (.cells #[.string x.name, .int .i64 (ago : Int)] 37)).drew.heap[b]? = some o → b ≠ mb → W1.heap[b]? = some o := fun {b o} e hne => kept0 e g1 hne
      have k2 : ∀ {b o}, W1.heap[b]? = some o → b ≠ mb → W2.heap[b]? = some o := fun {b o} e hne => kept0 e g2 hne
      have n3 := hG0.ne.2.2.1
      have sS : ∀ {V : World}, V.heap[bs]? = some (.cells #[.map (some mb)] 56 (0, 0)) → V.heap[w2.heap.size]? = some (.cells #[.string x.name, .int .i64 (ago : Int)] 37 (0, 0)) → V.cell? ⟨bs, 0, none⟩ = some (.map (some mb)) ∧ V.cell? ⟨w2.heap.size, 0, none⟩ = some (.string x.name) ∧ V.cell? ⟨w2.heap.size, 1, none⟩ = some (.int .i64 (ago : Int)) := fun {V} e1 e2 => ⟨(cell_of_row _ _ _ _ 56 (0, 0) e1).trans rfl, (cell_of_row _ _ _ _ 37 (0, 0) e2).trans rfl, (cell_of_row _ _ _ _ 37 (0, 0) e2).trans rfl⟩
      have S0 := sS (V := (w2.alloc (.cells #[.string x.name, .int .i64 (ago : Int)] 37)).drew) G3.seen X3
      have S1 := sS (k1 G3.seen n3) (k1 (b := w2.heap.size) X3 hmb2)
      have S2 := sS (k2 (k1 G3.seen n3) n3) (k2 (k1 (b := w2.heap.size) X3 hmb2) hmb2)
      have XB := hid (k2 (k1 XB0 hmbW) hmbW)
      have GP := hid (G3.count (grown_on g1 g2) M2 (Nat.le_succ N))
      obtain ⟨lv0, hv0, hr0⟩ := hG0.list
      obtain ⟨lv, hv, hr⟩ := GP.out.list
      have hv1 : W2.heap[bl]? = some (.cells #[lv0] 34 (0, 0)) := k2 (k1 ((b23.block bl (Nat.lt_of_lt_of_le (Array.getElem?_eq_some_iff.1 hv0).1 (by simp))).trans ((Below.heap_alloc _ _ _ (Array.getElem?_eq_some_iff.1 hv0).1).trans hv0)) hG0.ne.2.2.2.2.1) hG0.ne.2.2.2.2.1
      rw [hv1] at hv
      injection hv with hv
      injection hv with hv _ _
      simp only [Array.mk.injEq, List.cons.injEq, and_true] at hv
      subst hv
      have hv := hv1
      have NEB : Hid (some W.heap.size ≠ lv0.ownBlock) := hid (fun e => by have := (hr0.lt _ e.symm).2; omega)
      have NB : Hid (W.heap.size ≠ bl) := hid (by have := (Array.getElem?_eq_some_iff.1 hv0).1; omega)
      have HV := hid hv
      have HR := hid hr
      have lbl : W2.cell? ⟨bl, 0, none⟩ = some lv0 := (cell_of_row _ _ _ _ 34 (0, 0) hv).trans rfl
      have FEW : Hid (acc.length ≤ N) := hid hG0.few
      have CN := hid hcN
      have S2c := S2
      obtain ⟨s20, s21, s22⟩ := S2c
      have hcB : (c : Int) ≤ 1099511627776 := by have := HNs.out; omega
      clear G3 X3 b3 b23 XB0 M2 g1 g2 k1 k2 hv hv0 hv1 hr0 hr sS hrok hcN
      cases hin : rIn acc (x.name, ago) with
      | false =>
        obtain rfl : c = 0 := hc0.2 hin
        have OWN : Hid (ownRefs x ago acc = acc ++ [(x.name, ago)]) := hid (by rw [OWN0.out]; unfold addR; rw [hin]; rfl)
        simp only [show ((0 : Nat) : Int) = 0 from rfl, Int.zero_add] at l0 m1 l1 s1 l2
        have hw1 : IntKind.i64.wrap 1 = 1 := by decide
        have b7 := (Below.refl W2.heap.size W2).alloc (Nat.le_refl _) (.cells #[.string x.name, .int .i64 (ago : Int)] 37)
        have eadd : addR acc (x.name, ago) = acc ++ [(x.name, ago)] := by unfold addR; rw [hin]; rfl
        have GP7h := GP.out.step b7
        rw [eadd] at GP7h
        have GP7 := hid GP7h
        clear GP7h eadd
        have HV7 := hid ((b7.block _ (Array.getElem?_eq_some_iff.1 HV.out).1).trans HV.out)
        have HR7 := hid (ownsRow_below HR.out b7)
        have XB7 := hid ((b7.block _ (Array.getElem?_eq_some_iff.1 XB.out).1).trans XB.out)
        have LTB := hid (Array.getElem?_eq_some_iff.1 XB7.out).1
        have FEW2 : Hid (acc.length + 1 ≤ N + 1) := hid (Nat.succ_le_succ FEW.out)
        have ORD := hid (GP7.out.ord.2.2.2.2.2.2.2.2)
        have FEW : Hid (acc.length + 1 ≤ 1099511627776) := hid (by have := FEW.out; have := HNs.out; have := cnt_pos (k + 1) x; omega)
        clear b7
        refine wp_region_held_drew (S := fun V => V.cell? ⟨bs, 0, none⟩ = some (.map (some mb)) ∧ V.cell? ⟨w2.heap.size, 0, none⟩ = some (.string x.name) ∧ V.cell? ⟨w2.heap.size, 1, none⟩ = some (.int .i64 (ago : Int))) (by kernel_rfl) ?_ (fun hHeld => ?_)
        · exact S0
        refine wpAnyH_take (i := 0) (oi := { dst := some 19, op := Go.Op.load 56 (Go.Operand.tmp 2), type := 56, pos := _, after := #[], guard := none }) (v := ?_) rfl (by kernel_rfl) (by kernel_rfl) (by kernel_rfl) (fun _ _ _ h => h) (Or.inl ⟨by rfl, ?_⟩) (by assumption) ?_
        rotate_left
        · intro w hSw; (try dsimp only at hSw); go_simp <;> with_reducible rfl
        simp only [Act.put, List.setIfInBounds_toArray, List.set_cons_zero, List.set_cons_succ]
        refine wpAnyH_take (i := 1) (oi := { dst := some 20, op := Go.Op.load 37 (Go.Operand.tmp 7), type := 37, pos := _, after := #[], guard := none }) (v := ?_) rfl (by kernel_rfl) (by kernel_rfl) (by kernel_rfl) (fun _ _ _ h => h) (Or.inl ⟨by rfl, ?_⟩) (by assumption) ?_
        rotate_left
        · intro w hSw; (try dsimp only at hSw); go_simp <;> with_reducible rfl
        simp only [Act.put, List.setIfInBounds_toArray, List.set_cons_zero, List.set_cons_succ]
        refine wpAnyH_ready (rs := [2, 4]) (by kernel_rfl) (by simp) ?_
        refine AllReadyH.cons (o := { dst := some 21, op := Go.Op.lookup 56 (Go.Operand.tmp 19) (Go.Operand.tmp 20) false, type := 3, pos := _, after := #[{ on := 0, ground := Go.Ground.data }, { on := 1, ground := Go.Ground.data }], guard := none }) rfl (fun K hK => ?_) (AllReadyH.cons (o := { dst := some 23, op := Go.Op.mapEntry 56 (Go.Operand.tmp 19) (Go.Operand.tmp 20), type := 0, pos := _, after := #[{ on := 0, ground := Go.Ground.data }, { on := 1, ground := Go.Ground.data }, { on := 0, ground := Go.Ground.phase }, { on := 1, ground := Go.Ground.phase }, { on := 2, ground := Go.Ground.textOnly Go.Departure.mapOpAssignEntry }, { on := 3, ground := Go.Ground.textOnly Go.Departure.mapOpAssignEntry }], guard := none }) rfl (fun K hK => ?_) AllReadyH.nil)
        · go_simp
          refine hK.out _ _ S0 (fun _ => ?_)
          clear hK K
          refine wpAnyH_take (i := 3) (oi := { dst := some 22, op := Go.Op.binOp Go.BinOp.add 3 (Go.Operand.tmp 21) (Go.Operand.const (Go.Value.int Go.IntKind.i64 1)) 3, type := 3, pos := _, after := #[{ on := 2, ground := Go.Ground.data }], guard := none }) (v := ?_) rfl (by kernel_rfl) (by kernel_rfl) (by kernel_rfl) (fun _ _ _ h => h) (Or.inl ⟨by rfl, ?_⟩) (by assumption) ?_
          rotate_left
          · intro w hSw; (try dsimp only at hSw); go_simp <;> with_reducible rfl
          simp only [Act.put, List.setIfInBounds_toArray, List.set_cons_zero, List.set_cons_succ]
          refine wpAnyH_ready (rs := [4]) (by kernel_rfl) (by simp) ?_
          refine AllReadyH.cons (o := { dst := some 23, op := Go.Op.mapEntry 56 (Go.Operand.tmp 19) (Go.Operand.tmp 20), type := 0, pos := _, after := #[{ on := 0, ground := Go.Ground.data }, { on := 1, ground := Go.Ground.data }, { on := 0, ground := Go.Ground.phase }, { on := 1, ground := Go.Ground.phase }, { on := 2, ground := Go.Ground.textOnly Go.Departure.mapOpAssignEntry }, { on := 3, ground := Go.Ground.textOnly Go.Departure.mapOpAssignEntry }], guard := none }) rfl (fun K hK => ?_) AllReadyH.nil
          go_simp
          refine hK.out _ _ S1 (fun _ => ?_)
          clear hK K
          refine wpAnyH_take (i := 5) (oi := { dst := some 24, op := Go.Op.extract (Go.Operand.tmp 23) 1, type := 3, pos := _, after := #[{ on := 4, ground := Go.Ground.data }], guard := none }) (v := ?_) rfl (by kernel_rfl) (by kernel_rfl) (by kernel_rfl) (fun _ _ _ h => h) (Or.inl ⟨by rfl, ?_⟩) (by assumption) ?_
          rotate_left
          · intro w hSw; (try dsimp only at hSw); go_simp <;> with_reducible rfl
          simp only [Act.put, List.setIfInBounds_toArray, List.set_cons_zero, List.set_cons_succ]
          refine wpAnyH_ready (rs := [6]) (by kernel_rfl) (by simp) ?_
          refine AllReadyH.cons (o := { dst := none, op := Go.Op.entryStore 56 (Go.Operand.tmp 19) (Go.Operand.tmp 24) (Go.Operand.tmp 22), type := 0, pos := _, after := #[{ on := 0, ground := Go.Ground.data }, { on := 5, ground := Go.Ground.data }, { on := 3, ground := Go.Ground.data }, { on := 4, ground := Go.Ground.chain }, { on := 0, ground := Go.Ground.phase }, { on := 1, ground := Go.Ground.phase }, { on := 2, ground := Go.Ground.phase }, { on := 3, ground := Go.Ground.phase }, { on := 4, ground := Go.Ground.phase }, { on := 5, ground := Go.Ground.phase }], guard := none }) rfl (fun K hK => ?_) AllReadyH.nil
          go_simp
          refine hK.out _ _ S2 (fun _ => ?_)
          clear hK K
          refine wpAnyH_done (by kernel_rfl) ?_ _
          go_wp2_with (first
            | (obtain ⟨ie, hie, hz, hsz⟩ := inf51; refine wpList_buildSlice rfl 34 37 1 _ rfl (rV (x.name, ago)) ie (.agg #[.string ByteArray.empty, .int .i64 0]) Tryd.underlying34 hie hz (by rw [hsz]; decide) (by rw [hsz]; decide) (by rw [hsz]; simp only [List.map_toArray, List.map_cons, List.map_nil]; exact fill51 (x.name, ago)) ?_; clear hie hz hsz)
            | (at_builtin; refine wpList_append_own _ rfl (.tmp 29) (.tmp 31) 34 rfl b0 37 i0 (.agg #[.string ByteArray.empty, .int .i64 0]) 2 24 Tryd.underlying34 hi hi0 hi1 hi2 rfl (by decide) _ _ _ rfl HR7.out ⟨W2.heap.size, 0, none⟩ 1 1 [.string x.name, .int .i64 (ago : Int)] rfl rfl (two_new _ _ _) (by simp [Value.oneCell']) (by have := FEW.out; unfold maxLen; omega) (by have := FEW.out; omega) ORD.out ?_; intro v' w' hown1 hgrow1 _; obtain ⟨gv, cv, rfl⟩ := own_slice hown1; obtain ⟨hbl, gi⟩ := GP7.out.push (r := (x.name, ago)) HV7.out HR7.out hgrow1 hown1 FEW2.out; have t0 : w'.cell? ⟨bl, 0, none⟩ = some lv0 := (cell_of_row _ _ _ _ 34 (0, 0) hbl).trans rfl; have t1 : w'.frozen? ⟨bl, 0, none⟩ = false := frozen_of_row _ _ _ _ _ hbl; have GF := hid gi; have XF := hid ((Below.heap_setCell w' ⟨bl, 0, none⟩ (.slice (some ⟨gv, 0, none⟩) (acc.length + 1) cv) W.heap.size NB.out).trans ((hgrow1.block _ LTB.out NEB.out).trans XB7.out)); clear hown1 hgrow1 gi))
          go_meet
          case rel => exact ⟨by rw [NA.out], by rw [OWN.out]; exact GF, XF⟩
        · go_simp
          refine hK.out _ _ S1 (fun _ => ?_)
          clear hK K
          refine wpAnyH_take (i := 5) (oi := { dst := some 24, op := Go.Op.extract (Go.Operand.tmp 23) 1, type := 3, pos := _, after := #[{ on := 4, ground := Go.Ground.data }], guard := none }) (v := ?_) rfl (by kernel_rfl) (by kernel_rfl) (by kernel_rfl) (fun _ _ _ h => h) (Or.inl ⟨by rfl, ?_⟩) (by assumption) ?_
          rotate_left
          · intro w hSw; (try dsimp only at hSw); go_simp <;> with_reducible rfl
          simp only [Act.put, List.setIfInBounds_toArray, List.set_cons_zero, List.set_cons_succ]
          refine wpAnyH_ready (rs := [2]) (by kernel_rfl) (by simp) ?_
          refine AllReadyH.cons (o := { dst := some 21, op := Go.Op.lookup 56 (Go.Operand.tmp 19) (Go.Operand.tmp 20) false, type := 3, pos := _, after := #[{ on := 0, ground := Go.Ground.data }, { on := 1, ground := Go.Ground.data }], guard := none }) rfl (fun K hK => ?_) AllReadyH.nil
          go_simp
          refine hK.out _ _ S1 (fun _ => ?_)
          clear hK K
          refine wpAnyH_take (i := 3) (oi := { dst := some 22, op := Go.Op.binOp Go.BinOp.add 3 (Go.Operand.tmp 21) (Go.Operand.const (Go.Value.int Go.IntKind.i64 1)) 3, type := 3, pos := _, after := #[{ on := 2, ground := Go.Ground.data }], guard := none }) (v := ?_) rfl (by kernel_rfl) (by kernel_rfl) (by kernel_rfl) (fun _ _ _ h => h) (Or.inl ⟨by rfl, ?_⟩) (by assumption) ?_
          rotate_left
          · intro w hSw; (try dsimp only at hSw); go_simp <;> with_reducible rfl
          simp only [Act.put, List.setIfInBounds_toArray, List.set_cons_zero, List.set_cons_succ]
          refine wpAnyH_ready (rs := [6]) (by kernel_rfl) (by simp) ?_
          refine AllReadyH.cons (o := { dst := none, op := Go.Op.entryStore 56 (Go.Operand.tmp 19) (Go.Operand.tmp 24) (Go.Operand.tmp 22), type := 0, pos := _, after := #[{ on := 0, ground := Go.Ground.data }, { on := 5, ground := Go.Ground.data }, { on := 3, ground := Go.Ground.data }, { on := 4, ground := Go.Ground.chain }, { on := 0, ground := Go.Ground.phase }, { on := 1, ground := Go.Ground.phase }, { on := 2, ground := Go.Ground.phase }, { on := 3, ground := Go.Ground.phase }, { on := 4, ground := Go.Ground.phase }, { on := 5, ground := Go.Ground.phase }], guard := none }) rfl (fun K hK => ?_) AllReadyH.nil
          go_simp
          refine hK.out _ _ S2 (fun _ => ?_)
          clear hK K
          refine wpAnyH_done (by kernel_rfl) ?_ _
          go_wp2_with (first
            | (obtain ⟨ie, hie, hz, hsz⟩ := inf51; refine wpList_buildSlice rfl 34 37 1 _ rfl (rV (x.name, ago)) ie (.agg #[.string ByteArray.empty, .int .i64 0]) Tryd.underlying34 hie hz (by rw [hsz]; decide) (by rw [hsz]; decide) (by rw [hsz]; simp only [List.map_toArray, List.map_cons, List.map_nil]; exact fill51 (x.name, ago)) ?_; clear hie hz hsz)
            | (at_builtin; refine wpList_append_own _ rfl (.tmp 29) (.tmp 31) 34 rfl b0 37 i0 (.agg #[.string ByteArray.empty, .int .i64 0]) 2 24 Tryd.underlying34 hi hi0 hi1 hi2 rfl (by decide) _ _ _ rfl HR7.out ⟨W2.heap.size, 0, none⟩ 1 1 [.string x.name, .int .i64 (ago : Int)] rfl rfl (two_new _ _ _) (by simp [Value.oneCell']) (by have := FEW.out; unfold maxLen; omega) (by have := FEW.out; omega) ORD.out ?_; intro v' w' hown1 hgrow1 _; obtain ⟨gv, cv, rfl⟩ := own_slice hown1; obtain ⟨hbl, gi⟩ := GP7.out.push (r := (x.name, ago)) HV7.out HR7.out hgrow1 hown1 FEW2.out; have t0 : w'.cell? ⟨bl, 0, none⟩ = some lv0 := (cell_of_row _ _ _ _ 34 (0, 0) hbl).trans rfl; have t1 : w'.frozen? ⟨bl, 0, none⟩ = false := frozen_of_row _ _ _ _ _ hbl; have GF := hid gi; have XF := hid ((Below.heap_setCell w' ⟨bl, 0, none⟩ (.slice (some ⟨gv, 0, none⟩) (acc.length + 1) cv) W.heap.size NB.out).trans ((hgrow1.block _ LTB.out NEB.out).trans XB7.out)); clear hown1 hgrow1 gi))
          go_meet
          case rel => exact ⟨by rw [NA.out], by rw [OWN.out]; exact GF, XF⟩
      | true =>
        have OWN : Hid (ownRefs x ago acc = acc) := hid (by rw [OWN0.out]; unfold addR; rw [hin]; rfl)
        have GPo : Hid (GI w0 bs bl bg mb b0 acc acc (N + 1) W2) := by
          have h := GP.out
          have e : addR acc (x.name, ago) = acc := by unfold addR; rw [hin]; rfl
          rw [e] at h
          exact hid h
        have hc1 : 1 ≤ c := by
          by_cases e : c = 0
          · rw [hc0.1 e] at hin; cases hin
          · omega
        have hc1' : (1 : Int) ≤ (c : Int) := by omega
        have hcc : (((c : Int) + 1) == 1) = false := by simp; omega
        have hw1 : IntKind.i64.wrap ((c : Int) + 1) = (c : Int) + 1 := by rw [IntKind.wrap_i64]; omega
        refine wp_region_held_drew (S := fun V => V.cell? ⟨bs, 0, none⟩ = some (.map (some mb)) ∧ V.cell? ⟨w2.heap.size, 0, none⟩ = some (.string x.name) ∧ V.cell? ⟨w2.heap.size, 1, none⟩ = some (.int .i64 (ago : Int))) (by kernel_rfl) ?_ (fun hHeld => ?_)
        · exact S0
        refine wpAnyH_take (i := 0) (oi := { dst := some 19, op := Go.Op.load 56 (Go.Operand.tmp 2), type := 56, pos := _, after := #[], guard := none }) (v := ?_) rfl (by kernel_rfl) (by kernel_rfl) (by kernel_rfl) (fun _ _ _ h => h) (Or.inl ⟨by rfl, ?_⟩) (by assumption) ?_
        rotate_left
        · intro w hSw; (try dsimp only at hSw); go_simp <;> with_reducible rfl
        simp only [Act.put, List.setIfInBounds_toArray, List.set_cons_zero, List.set_cons_succ]
        refine wpAnyH_take (i := 1) (oi := { dst := some 20, op := Go.Op.load 37 (Go.Operand.tmp 7), type := 37, pos := _, after := #[], guard := none }) (v := ?_) rfl (by kernel_rfl) (by kernel_rfl) (by kernel_rfl) (fun _ _ _ h => h) (Or.inl ⟨by rfl, ?_⟩) (by assumption) ?_
        rotate_left
        · intro w hSw; (try dsimp only at hSw); go_simp <;> with_reducible rfl
        simp only [Act.put, List.setIfInBounds_toArray, List.set_cons_zero, List.set_cons_succ]
        refine wpAnyH_ready (rs := [2, 4]) (by kernel_rfl) (by simp) ?_
        refine AllReadyH.cons (o := { dst := some 21, op := Go.Op.lookup 56 (Go.Operand.tmp 19) (Go.Operand.tmp 20) false, type := 3, pos := _, after := #[{ on := 0, ground := Go.Ground.data }, { on := 1, ground := Go.Ground.data }], guard := none }) rfl (fun K hK => ?_) (AllReadyH.cons (o := { dst := some 23, op := Go.Op.mapEntry 56 (Go.Operand.tmp 19) (Go.Operand.tmp 20), type := 0, pos := _, after := #[{ on := 0, ground := Go.Ground.data }, { on := 1, ground := Go.Ground.data }, { on := 0, ground := Go.Ground.phase }, { on := 1, ground := Go.Ground.phase }, { on := 2, ground := Go.Ground.textOnly Go.Departure.mapOpAssignEntry }, { on := 3, ground := Go.Ground.textOnly Go.Departure.mapOpAssignEntry }], guard := none }) rfl (fun K hK => ?_) AllReadyH.nil)
        · go_simp
          refine hK.out _ _ S0 (fun _ => ?_)
          clear hK K
          refine wpAnyH_take (i := 3) (oi := { dst := some 22, op := Go.Op.binOp Go.BinOp.add 3 (Go.Operand.tmp 21) (Go.Operand.const (Go.Value.int Go.IntKind.i64 1)) 3, type := 3, pos := _, after := #[{ on := 2, ground := Go.Ground.data }], guard := none }) (v := ?_) rfl (by kernel_rfl) (by kernel_rfl) (by kernel_rfl) (fun _ _ _ h => h) (Or.inl ⟨by rfl, ?_⟩) (by assumption) ?_
          rotate_left
          · intro w hSw; (try dsimp only at hSw); go_simp <;> with_reducible rfl
          simp only [Act.put, List.setIfInBounds_toArray, List.set_cons_zero, List.set_cons_succ]
          refine wpAnyH_ready (rs := [4]) (by kernel_rfl) (by simp) ?_
          refine AllReadyH.cons (o := { dst := some 23, op := Go.Op.mapEntry 56 (Go.Operand.tmp 19) (Go.Operand.tmp 20), type := 0, pos := _, after := #[{ on := 0, ground := Go.Ground.data }, { on := 1, ground := Go.Ground.data }, { on := 0, ground := Go.Ground.phase }, { on := 1, ground := Go.Ground.phase }, { on := 2, ground := Go.Ground.textOnly Go.Departure.mapOpAssignEntry }, { on := 3, ground := Go.Ground.textOnly Go.Departure.mapOpAssignEntry }], guard := none }) rfl (fun K hK => ?_) AllReadyH.nil
          go_simp
          refine hK.out _ _ S1 (fun _ => ?_)
          clear hK K
          refine wpAnyH_take (i := 5) (oi := { dst := some 24, op := Go.Op.extract (Go.Operand.tmp 23) 1, type := 3, pos := _, after := #[{ on := 4, ground := Go.Ground.data }], guard := none }) (v := ?_) rfl (by kernel_rfl) (by kernel_rfl) (by kernel_rfl) (fun _ _ _ h => h) (Or.inl ⟨by rfl, ?_⟩) (by assumption) ?_
          rotate_left
          · intro w hSw; (try dsimp only at hSw); go_simp <;> with_reducible rfl
          simp only [Act.put, List.setIfInBounds_toArray, List.set_cons_zero, List.set_cons_succ]
          refine wpAnyH_ready (rs := [6]) (by kernel_rfl) (by simp) ?_
          refine AllReadyH.cons (o := { dst := none, op := Go.Op.entryStore 56 (Go.Operand.tmp 19) (Go.Operand.tmp 24) (Go.Operand.tmp 22), type := 0, pos := _, after := #[{ on := 0, ground := Go.Ground.data }, { on := 5, ground := Go.Ground.data }, { on := 3, ground := Go.Ground.data }, { on := 4, ground := Go.Ground.chain }, { on := 0, ground := Go.Ground.phase }, { on := 1, ground := Go.Ground.phase }, { on := 2, ground := Go.Ground.phase }, { on := 3, ground := Go.Ground.phase }, { on := 4, ground := Go.Ground.phase }, { on := 5, ground := Go.Ground.phase }], guard := none }) rfl (fun K hK => ?_) AllReadyH.nil
          go_simp
          refine hK.out _ _ S2 (fun _ => ?_)
          clear hK K
          refine wpAnyH_done (by kernel_rfl) ?_ _
          go_wp2
          go_meet
          case rel => exact ⟨by rw [NA.out], by rw [OWN.out]; exact GPo, XB⟩
        · go_simp
          refine hK.out _ _ S1 (fun _ => ?_)
          clear hK K
          refine wpAnyH_take (i := 5) (oi := { dst := some 24, op := Go.Op.extract (Go.Operand.tmp 23) 1, type := 3, pos := _, after := #[{ on := 4, ground := Go.Ground.data }], guard := none }) (v := ?_) rfl (by kernel_rfl) (by kernel_rfl) (by kernel_rfl) (fun _ _ _ h => h) (Or.inl ⟨by rfl, ?_⟩) (by assumption) ?_
          rotate_left
          · intro w hSw; (try dsimp only at hSw); go_simp <;> with_reducible rfl
          simp only [Act.put, List.setIfInBounds_toArray, List.set_cons_zero, List.set_cons_succ]
          refine wpAnyH_ready (rs := [2]) (by kernel_rfl) (by simp) ?_
          refine AllReadyH.cons (o := { dst := some 21, op := Go.Op.lookup 56 (Go.Operand.tmp 19) (Go.Operand.tmp 20) false, type := 3, pos := _, after := #[{ on := 0, ground := Go.Ground.data }, { on := 1, ground := Go.Ground.data }], guard := none }) rfl (fun K hK => ?_) AllReadyH.nil
          go_simp
          refine hK.out _ _ S1 (fun _ => ?_)
          clear hK K
          refine wpAnyH_take (i := 3) (oi := { dst := some 22, op := Go.Op.binOp Go.BinOp.add 3 (Go.Operand.tmp 21) (Go.Operand.const (Go.Value.int Go.IntKind.i64 1)) 3, type := 3, pos := _, after := #[{ on := 2, ground := Go.Ground.data }], guard := none }) (v := ?_) rfl (by kernel_rfl) (by kernel_rfl) (by kernel_rfl) (fun _ _ _ h => h) (Or.inl ⟨by rfl, ?_⟩) (by assumption) ?_
          rotate_left
          · intro w hSw; (try dsimp only at hSw); go_simp <;> with_reducible rfl
          simp only [Act.put, List.setIfInBounds_toArray, List.set_cons_zero, List.set_cons_succ]
          refine wpAnyH_ready (rs := [6]) (by kernel_rfl) (by simp) ?_
          refine AllReadyH.cons (o := { dst := none, op := Go.Op.entryStore 56 (Go.Operand.tmp 19) (Go.Operand.tmp 24) (Go.Operand.tmp 22), type := 0, pos := _, after := #[{ on := 0, ground := Go.Ground.data }, { on := 5, ground := Go.Ground.data }, { on := 3, ground := Go.Ground.data }, { on := 4, ground := Go.Ground.chain }, { on := 0, ground := Go.Ground.phase }, { on := 1, ground := Go.Ground.phase }, { on := 2, ground := Go.Ground.phase }, { on := 3, ground := Go.Ground.phase }, { on := 4, ground := Go.Ground.phase }, { on := 5, ground := Go.Ground.phase }], guard := none }) rfl (fun K hK => ?_) AllReadyH.nil
          go_simp
          refine hK.out _ _ S2 (fun _ => ?_)
          clear hK K
          refine wpAnyH_done (by kernel_rfl) ?_ _
          go_wp2
          go_meet
          case rel => exact ⟨by rw [NA.out], by rw [OWN.out]; exact GPo, XB⟩
    · by_cases h19 : x.op = 19
      · have NA : Hid (nextAgo x ago = ago + 1) := hid (by unfold nextAgo; rw [if_pos h19])
        have OWN : Hid (ownRefs x ago acc = acc) := hid (by unfold ownRefs; rw [if_neg h3])
        have hop3 : ((x.op : Int) == 3) = false := by simp; omega
        have hop19 : ((x.op : Int) == 19) = true := by simp [h19]
        have hab : (ago : Int) ≤ 1099511627776 := by omega
        have GF := hid (G5.out.mono (Nat.le_succ N))
        clear ih hc hs hS hG hG0 b5 hop hn hnm hlen hcap hago hN hNm h3 h19 hK1 G5
        go_wp2
        go_meet
        case rel => exact ⟨by rw [NA.out]; go_num, by rw [OWN.out]; exact GF, X5h⟩
      · have NA : Hid (nextAgo x ago = ago) := hid (by unfold nextAgo; rw [if_neg h19])
        have OWN : Hid (ownRefs x ago acc = acc) := hid (by unfold ownRefs; rw [if_neg h3])
        have hop3 : ((x.op : Int) == 3) = false := by simp; omega
        have hop19 : ((x.op : Int) == 19) = false := by simp; omega
        have GF := hid (G5.out.mono (Nat.le_succ N))
        clear ih hc hs hS hG hG0 b5 hop hn hnm hlen hcap hago hN hNm h3 h19 hK1 G5
        go_wp2
        go_meet
        case rel => exact ⟨by rw [NA.out], by rw [OWN.out]; exact GF, X5h⟩
/-- The closure of Refs, whatever it is called with. -/
theorem gather_any : ∀ k, GatC k
  | 0 => fun _ _ _ _ _ _ _ _ _ _ _ _ _ h => h.elim
  | k + 1 => gather_of k (gather_any k)
end Go.Proofs.YtejacmgppnafcabDoor.Lex
namespace Go.Proofs.YtejacmgppnafcabDoor.Lex
open Go.ChangeShapes Go.WideShapes Go.ChangeAt Go.RowKit Go.Joins Go.WideMaps Go.WideElems Go.Maps
theorem push_old {w : World} {b : Nat} {o o' : Obj} (h : w.heap[b]? = some o) : (w.alloc o').heap[b]? = some o := (Below.heap_alloc _ _ _ (Array.getElem?_eq_some_iff.1 h).1).trans h
theorem push_new (w : World) (o : Obj) (n : Nat) (h : w.heap.size = n) : (w.alloc o).heap[n]? = some o := by subst h; exact (MapKept.heap_alloc w o).1
theorem gi_start (w : World) (c : Array Value) : GI w (w.heap.size + 1 + 1 + 1) (w.heap.size + 1) (w.heap.size + 1 + 1 + 1 + 1) (w.heap.size + 1 + 1) (w.heap.size + 5) [] [] 0 (((((w.alloc (.cells c 30)).alloc (.cells #[.slice none 0 0] 34)).alloc (.map #[] 0)).alloc (.cells #[.map (some (w.heap.size + 1 + 1))] 56)).alloc (.cells #[.func (.func 19) #[] #[ptr (w.heap.size + 1 + 1 + 1), ptr (w.heap.size + 1), ptr (w.heap.size + 1 + 1 + 1 + 1)]] 57)) := by
  have s1 : (w.alloc (.cells c 30)).heap.size = w.heap.size + 1 := by simp
  have s2 : ((w.alloc (.cells c 30)).alloc (.cells #[.slice none 0 0] 34)).heap.size = w.heap.size + 1 + 1 := by simp
  have s3 : (((w.alloc (.cells c 30)).alloc (.cells #[.slice none 0 0] 34)).alloc (.map #[] 0)).heap.size = w.heap.size + 1 + 1 + 1 := by simp
  have s4 : ((((w.alloc (.cells c 30)).alloc (.cells #[.slice none 0 0] 34)).alloc (.map #[] 0)).alloc (.cells #[.map (some (w.heap.size + 1 + 1))] 56)).heap.size = w.heap.size + 1 + 1 + 1 + 1 := by simp
  have b1 := (Below.refl w.heap.size w).alloc (Nat.le_refl _) (.cells c 30)
  have b2 := bstep b1 ((Below.refl _ _).alloc (Nat.le_refl _) (.cells #[.slice none 0 0] 34))
  have b3 := bstep b2 ((Below.refl _ _).alloc (Nat.le_refl _) (.map #[] 0))
  have b4 := bstep b3 ((Below.refl _ _).alloc (Nat.le_refl _) (.cells #[.map (some (w.heap.size + 1 + 1))] 56))
  have b5 := bstep b4 ((Below.refl _ _).alloc (Nat.le_refl _) (.cells #[.func (.func 19) #[] #[ptr (w.heap.size + 1 + 1 + 1), ptr (w.heap.size + 1), ptr (w.heap.size + 1 + 1 + 1 + 1)]] 57))
  refine ⟨b5, push_old (push_new _ _ _ s3), push_new _ _ _ s4, ⟨_, push_old (push_old (push_old (push_new _ _ _ s1))), ⟨rfl, .inl ⟨rfl, rfl⟩⟩⟩, SeenM.none _ _ (push_old (push_old (push_new _ _ _ s2))), Nat.le_refl _, ⟨by omega, by omega, by omega, by omega, by omega, by omega, by omega, by omega, by simp⟩, ⟨by omega, by omega, by omega, by omega, by omega, by omega⟩⟩
set_option maxRecDepth 100000 in
set_option maxHeartbeats 1000000 in
theorem refs (k : Nat) (x : Ex) (s : Value) (w : World) (hS : St w x s) (hNm : NmOk k x) (hk : k ≤ 1099511627776) (hc : cnt k x ≤ 1099511627776) : Calls Tryd.prog 7 #[exV x s] w fun e w' => ∃ v, e = .returned v ∧ w'.ownsRow w.heap.size 37 2 v (gat k x 0 []).length (refsV (gat k x 0 [])) ∧ Below w.heap.size w w' := by
  obtain ⟨ao, cap, sl, rfl, _⟩ := hS.out
  have hmm := @run_makeMap Tryd.prog
  have hmf : ∀ (fn : Fn) (first cap : Array Value) (w : World), (Instr.makeFunc fn first cap).run Tryd.prog w = .ok (.func fn first cap) w := fun _ _ _ _ => rfl
  have c37 := gather_any k x (.slice ao x.args.length cap) 0 w _ _ _ _ _ _ 0 [] hS hNm (by omega) (by omega) (gi_start w (ex4 x (.slice ao x.args.length cap)))
  generalize hL : gat k x 0 [] = L at *
  generalize hN : cnt k x = N at *
  clear hS hNm hk hc hL hN
  go_enter Tryd.func7, Tryd.ntmps7
  go_wp2_with (go_at_call 19; refine c37.mono ?_; rintro e w2 ⟨rfl, g2⟩; obtain ⟨v, hv, hr⟩ := g2.list; have t0 : w2.cell? ⟨w.heap.size + 1, 0, none⟩ = some v := (cell_of_row _ _ _ _ 34 (0, 0) hv).trans rfl; have HR := hid hr; have HB := hid g2.below; clear g2 hv hr c37)
  go_ret
  exact ⟨v, rfl, ownsRow_mono HR.out (by omega), HB.out⟩
end Go.Proofs.YtejacmgppnafcabDoor.Lex
namespace Go.Proofs.YtejacmgppnafcabDoor.Lex
open Go.ChangeShapes Go.WideShapes Go.ChangeAt Go.RowKit Go.Shelf
attribute [local go_sem] Oper.semAt_some
theorem name_small {op : Nat} {n : Int} {nm : ByteArray} {len : Nat} (h : fieldsOk op n nm len = true) : nm.size ≤ 65536 := by
  unfold fieldsOk at h
  unfold isName at h
  split at h
  · simp only [Bool.and_eq_true, decide_eq_true_eq] at h; omega
  split at h
  · simp only [Bool.and_eq_true, decide_eq_true_eq] at h; omega
  split at h
  · simp only [Bool.and_eq_true, decide_eq_true_eq] at h; omega
  · simp only [Bool.and_eq_true, decide_eq_true_eq] at h; omega
theorem szL_nm {f : Nat → Ex → Option Nat} {d : Nat} (hf : ∀ m a k, f m a = some k → NmOk d a ∧ cnt d a = k) (most : Nat) : ∀ (l : List Ex) (n r : Nat), szL f most n l = some r → (∀ y ∈ l, NmOk d y) ∧ l.foldl (fun n y => n + cnt d y) n = r
  | [], n, r, h => by simp only [szL, Option.some.injEq] at h; exact ⟨by simp, h⟩
  | a :: l, n, r, h => by
    simp only [szL] at h
    cases e : f (most - n) a with
    | none => rw [e] at h; cases h
    | some k =>
      rw [e] at h
      obtain ⟨h1, h2⟩ := hf _ _ _ e
      obtain ⟨h3, h4⟩ := szL_nm hf most l (n + k) r h
      refine ⟨fun y hy => ?_, ?_⟩
      · rcases List.mem_cons.1 hy with rfl | hy
        · exact h1
        · exact h3 y hy
      · rw [List.foldl_cons, h2]; exact h4
theorem sz_nm : ∀ (d most : Nat) (x : Ex) (k : Nat), sz d most x = some k → NmOk d x ∧ cnt d x = k
  | 0, most, x, k, h => by simp [sz] at h
  | d + 1, most, x, k, h => by
    rw [sz] at h
    split at h
    · cases h
    · next hn =>
      obtain ⟨h1, h2⟩ := szL_nm (fun m a k => sz_nm d m a k) most x.args 1 k h
      have hfo : fieldsOk x.op x.n x.name x.args.length = true := by
        cases e : fieldsOk x.op x.n x.name x.args.length
        · exact (hn (.inr e)).elim
        · rfl
      exact ⟨⟨name_small hfo, h1⟩, h2⟩
theorem chk_nm {x : Ex} (h : chk x = true) : NmOk 32 x ∧ cnt 32 x ≤ 200 := by
  unfold chk at h
  cases e : sz 32 200 x with
  | none => rw [e] at h; cases h
  | some k =>
    have h1 := sz_nm 32 200 x k e
    have h2 := sz_le 32 200 x k e
    exact ⟨h1.1, by omega⟩
def RfAt (w : World) (v : Value) (L : List Rf) : Prop :=
  ∃ a cap, v = .slice a L.length cap ∧ (L.length = 0 ∨ ∃ g, a = some ⟨g, 0, none⟩ ∧ ∀ i (h : i < L.length), w.cell? ⟨g, i * 2, none⟩ = some (.string L[i].1) ∧ w.cell? ⟨g, i * 2 + 1, none⟩ = some (.int .i64 (L[i].2 : Int)))
theorem refsV_at (L : List Rf) (i : Nat) (hi : i < L.length) : (refsV L)[2 * i]? = some (.string L[i].1) ∧ (refsV L)[2 * i + 1]? = some (.int .i64 (L[i].2 : Int)) := by
  induction L generalizing i with
  | nil => simp at hi
  | cons t ts ih =>
    have e : refsV (t :: ts) = [.string t.1, .int .i64 (t.2 : Int)] ++ refsV ts := by simp [refsV]
    rw [e]
    cases i with
    | zero => exact ⟨rfl, rfl⟩
    | succ i =>
      have := ih i (by simpa using hi)
      have hl : ([.string t.1, .int .i64 (t.2 : Int)] : List Value).length = 2 := rfl
      refine ⟨?_, ?_⟩
      · rw [List.getElem?_append_right (by omega), hl, show 2 * (i + 1) - 2 = 2 * i by omega]; simpa using this.1
      · rw [List.getElem?_append_right (by omega), hl, show 2 * (i + 1) + 1 - 2 = 2 * i + 1 by omega]; simpa using this.2
theorem RfAt.of_own {w : World} {B : Nat} {v : Value} {L : List Rf} (h : w.ownsRow B 37 2 v L.length (refsV L)) : RfAt w v L := by
  rcases h.2 with ⟨rfl, h0⟩ | ⟨g, cap, cur, rfl, hg0, hg, rest⟩
  · exact ⟨none, 0, by rw [h0], .inl h0⟩
  · refine ⟨_, cap, rfl, .inr ⟨g, rfl, fun i hi => ?_⟩⟩
    obtain ⟨a, b⟩ := refsV_at L i hi
    refine ⟨?_, ?_⟩
    · rw [h.cellAt _ (by omega), Nat.mul_comm]; exact a
    · rw [h.cellAt _ (by omega), Nat.mul_comm]; exact b
theorem gat_fold {k : Nat} (ih : ∀ (x : Ex) (ago : Nat) (acc : List Rf), (gat k x ago acc).length ≤ acc.length + cnt k x) (ago B : Nat) : ∀ (l : List Ex) (acc : List Rf) (n : Nat), acc.length ≤ B + n → (l.foldl (fun acc y => gat k y ago acc) acc).length ≤ B + l.foldl (fun n y => n + cnt k y) n
  | [], acc, n, h => h
  | y :: l, acc, n, h => by
    rw [List.foldl_cons, List.foldl_cons]
    exact gat_fold ih ago B l _ _ (by have := ih y ago acc; omega)
theorem gat_len : ∀ (k : Nat) (x : Ex) (ago : Nat) (acc : List Rf), (gat k x ago acc).length ≤ acc.length + cnt k x
  | 0, x, ago, acc => by simp [gat, cnt]
  | k + 1, x, ago, acc => by
    rw [gat, cnt]
    refine gat_fold (gat_len k) _ acc.length x.args _ 1 ?_
    unfold ownRefs addR
    split
    · split <;> simp
    · omega
/-- The names that a Body asks for; that all ask for. -/
def asksOf (f : Fl) : List ByteArray := (gat 32 f.body 0 []).map (·.1)
def asksN (p : Pg) (k : Nat) : List ByteArray := (p.flows.take k).flatMap asksOf
def askedL (p : Pg) : List ByteArray := p.flows.flatMap asksOf
theorem asksN_succ (p : Pg) (k : Nat) (h : k < p.flows.length) : asksN p (k + 1) = asksN p k ++ asksOf p.flows[k] := by
  unfold asksN
  rw [List.take_succ_eq_append_getElem h, List.flatMap_append]
  simp
theorem asksN_prefix (p : Pg) (k : Nat) : asksN p k <+: askedL p := by
  refine ⟨(p.flows.drop k).flatMap asksOf, ?_⟩
  unfold asksN askedL
  rw [← List.flatMap_append, List.take_append_drop]
/-- What a round keeps: all below some block, and all cells. -/
def KpA (n₀ : Nat) (W W' : World) : Prop := Below n₀ W W' ∧ ∀ (a : Addr) (v : Value), W.cell? a = some v → W'.cell? a = some v
theorem KpA.trans {n₀ : Nat} {A B C : World} (h : KpA n₀ A B) (k : KpA n₀ B C) : KpA n₀ A C := ⟨h.1.trans k.1, fun a v e => k.2 a v (h.2 a v e)⟩
theorem RfAt.kept {W W' : World} {ao : Option Addr} {L : List Rf} (h : L.length = 0 ∨ ∃ g, ao = some ⟨g, 0, none⟩ ∧ ∀ i (h : i < L.length), W.cell? ⟨g, i * 2, none⟩ = some (.string L[i].1) ∧ W.cell? ⟨g, i * 2 + 1, none⟩ = some (.int .i64 (L[i].2 : Int)))
    (k : ∀ (a : Addr) (v : Value), W.cell? a = some v → W'.cell? a = some v) : L.length = 0 ∨ ∃ g, ao = some ⟨g, 0, none⟩ ∧ ∀ i (h : i < L.length), W'.cell? ⟨g, i * 2, none⟩ = some (.string L[i].1) ∧ W'.cell? ⟨g, i * 2 + 1, none⟩ = some (.int .i64 (L[i].2 : Int)) := by
  rcases h with h | ⟨g, e, hc⟩
  · exact .inl h
  · exact .inr ⟨g, e, fun i hi => ⟨k _ _ (hc i hi).1, k _ _ (hc i hi).2⟩⟩
theorem grown_none {V V' : World} (hb : Below V.heap.size V V') : V.grownBy V' none := ⟨hb.os, hb.tape, hb.output, hb.size, fun k hk _ => hb.block k hk⟩
theorem cells_alloc (V : World) (o : Obj) : ∀ (a : Addr) (v : Value), V.cell? a = some v → (V.alloc o).cell? a = some v := fun _ _ h => cell_kept h ((Below.refl _ V).alloc (Nat.le_refl _) o)
set_option maxRecDepth 100000 in
set_option maxHeartbeats 2000000 in
theorem asked1 (n : Nat) (hn : 1 ≤ n) (l Bn n₀ : Nat) (p : Pg) (a b c : Value) (J Jx : List ByteArray → World → Prop) (W0 W : World) (hW0 : n₀ = W0.heap.size) (hW : Below n₀ W0 W) (hP : PgAt W0 p a b c) (hC : ∀ f ∈ p.flows, chk f.body = true)
    (hA : AbidesFrom W.heap.size J)
    (hY : ∀ pre x W, J pre W → pre ++ [x] <+: askedL p → YieldAt Fence.wide (n - 1) Tryd.prog l #[.string x] W fun e W' =>
      (e = .returned (.bool true) ∧ J (pre ++ [x]) W' ∧ KpA n₀ W W') ∨ (e = .returned (.bool false) ∧ Jx (pre ++ [x]) W'))
    (hBx : W.heap[Bn]? = some (.cells (pgC p a b c) 26 (0, 0))) (h0 : J [] W) :
    CallsIn Fence.wide n Tryd.prog 45 #[.func (.yield l) #[] #[], .pointer (some ⟨Bn, 0, none⟩)] W fun e W' => (∃ v, e = .returned v) ∧
      ((∃ ys, ys = askedL p ∧ J ys W') ∨ (∃ pre, pre <+: askedL p ∧ Jx pre W')) := by
  have h15 : Fence.wide.fn 7 := trivial
  subst hW0
  obtain ⟨bo, cbp, sl, rfl, hlen2, _, _, hc2, hs2⟩ := hP.flows
  have HS2 := hid hs2
  have HC2 := hid hc2
  have HCH := hid hC
  clear hc2 hs2 hP hC
  have x2 : W.cell? ⟨Bn, 2, none⟩ = some (.slice bo p.flows.length cbp) := by rw [cell_of_row _ _ _ _ 26 (0, 0) hBx]; rfl
  have AL : ∀ (s : List ByteArray) (V V' : World), J s V → Below V.heap.size V V' → J s V' := fun s V V' h hb => hA s V _ none h (grown_none hb) (fun r e => by cases e)
  clear hBx hA
  refine callsIn_of_wp Tryd.func45 rfl trivial ?_ rfl
  simp only [Tryd.ntmps45, List.size_toArray, List.length_cons, List.length_nil, Nat.reduceAdd, Nat.reduceSub, Array.replicate_succ, Array.replicate_zero, List.push_toArray, List.append_toArray, List.nil_append, List.cons_append]
  gi_wp2
  gi_loopw [10] (fun i wr => ∃ k : Nat, k ≤ p.flows.length ∧ i = .int .i64 (k : Int) ∧ Hid (J (asksN p k) wr) ∧ Hid (Below W0.heap.size W0 wr)) (fun i wr => p.flows.length - (intOf i).toNat)
  case atStart => exact ⟨0, Nat.zero_le _, rfl, hid h0, hid hW⟩
  case round =>
    obtain ⟨j, hj, rfl, hJ, hB⟩ := hrel
    by_cases hjl : j < p.flows.length
    · have hjl' : (j : Int) < (p.flows.length : Int) := by omega
      have hj0 : (0 : Int) ≤ (j : Int) := by omega
      obtain ⟨b2, o2, rfl, hcc⟩ := HC2.out.resolve_left (by omega)
      have X := (hcc j hjl).keep hB.out
      have hSt := (HS2.out j hjl).keep hB.out
      obtain ⟨a3, c3, _, e3, _⟩ := (HS2.out j hjl).out
      rw [e3] at X hSt
      have HSU := hid (asksN_succ p j hjl)
      have hnm := chk_nm (HCH.out _ (List.getElem_mem hjl))
      have HPX := hid (asksN_prefix p (j + 1))
      clear hcc e3
      obtain ⟨v0, v1, v2, v3, v4, v5, v6, v7⟩ := X
      generalize p.flows[j] = y at *
      have hBa := (Below.refl wr.heap.size wr).alloc (Nat.le_refl _) (.cells #[.string y.name, .int .u8 (y.ty : Int), .int .i64 y.st, .int .i64 y.df, .int .u8 (y.body.op : Int), .int .i64 y.body.n, .string y.body.name, .slice a3 y.body.args.length c3] 40)
      have c15 := (callsIn_wide (n := n - 1)).2 (refs 32 y.body _ _ (hSt.keep hBa) hnm.1 (by omega) (by omega))
      have HL : Hid ((gat 32 y.body 0 []).map (·.1) = asksOf y) := hid rfl
      have HBA := hid hBa
      have hLl : (gat 32 y.body 0 []).length ≤ 1000000 := by have h1 := gat_len 32 y.body 0 []; have h2 := hnm.2; simp at h1; omega
      clear hSt hnm hBa
      generalize gat 32 y.body 0 [] = L at *
      gi_wp2_with (gi_at_call 7; refine c15.mono ?_; rintro e w2 ⟨v, rfl, hrow, hb2⟩; obtain ⟨ao, cap, rfl, hrf⟩ := RfAt.of_own hrow; have HRF := hid hrf; have HB2 := hid hb2; clear hrow hrf hb2 c15)
      gi_loopw [18] (fun i wr => ∃ m : Nat, m ≤ L.length ∧ i = .int .i64 (m : Int) ∧ Hid (J (asksN p j ++ (L.take m).map (·.1)) wr) ∧ Hid (Below W0.heap.size W0 wr) ∧ Hid (L.length = 0 ∨ ∃ g, ao = some ⟨g, 0, none⟩ ∧ ∀ i (h : i < L.length), wr.cell? ⟨g, i * 2, none⟩ = some (.string L[i].1) ∧ wr.cell? ⟨g, i * 2 + 1, none⟩ = some (.int .i64 (L[i].2 : Int)))) (fun i wr => L.length - (intOf i).toNat)
      case atStart => exact ⟨0, Nat.zero_le _, rfl, hid (by rw [List.take_zero, List.map_nil, List.append_nil]; exact AL _ _ _ (AL _ _ _ hJ.out HBA.out) HB2.out), hid ((hB.out.trans (HBA.out.mono hB.out.size)).trans (HB2.out.mono (Nat.le_trans hB.out.size HBA.out.size))), HRF⟩
      case round =>
        obtain ⟨m, hm, rfl, hJ2, hB3, hRF⟩ := hrel
        by_cases hml : m < L.length
        · have hml' : (m : Int) < (L.length : Int) := by omega
          have hm0 : (0 : Int) ≤ (m : Int) := by omega
          obtain ⟨g, rfl, hcc⟩ := hRF.out.resolve_left (by omega)
          obtain ⟨u0, u1⟩ := hcc m hml
          have HSM : Hid ((L.take (m + 1)).map (·.1) = (L.take m).map (·.1) ++ [L[m].1]) := hid (by rw [List.take_succ_eq_append_getElem hml, List.map_append]; rfl)
          have HPM : Hid (asksN p j ++ ((L.take m).map (·.1) ++ [L[m].1]) <+: askedL p) := hid (by
            refine List.IsPrefix.trans ?_ HPX.out
            rw [HSU.out, ← HL.out, ← HSM.out, List.map_take]
            exact (List.prefix_append_right_inj _).2 (List.take_prefix _ _))
          obtain ⟨fn, tmps, assign, body, hy, hR⟩ := hY (asksN p j ++ (L.take m).map (·.1)) L[m].1 (wr.alloc (.cells #[.string L[m].1, .int .i64 (L[m].2 : Int)] 37)) (AL _ _ _ hJ2.out ((Below.refl _ _).alloc (Nat.le_refl _) _)) (by rw [List.append_assoc]; exact HPM.out)
          clear hcc
          generalize L[m] = z at *
          gi_wp2
          refine hR.mono ?_
          rintro e W3 (⟨rfl, hJ3, hk3⟩ | ⟨rfl, hJx3⟩)
          · gi_wp2
            go_roundw
            case rel => exact ⟨m + 1, by omega, by go_num, hid (by rw [HSM.out, ← List.append_assoc]; exact hJ3), hid ((hB3.out.alloc hB3.out.size _).trans hk3.1), hid (RfAt.kept hRF.out (fun a v e => hk3.2 a v (cells_alloc _ _ a v e)))⟩
            case measure => simp [intOf]; omega
          · gi_wp2
            refine bodyPost_ret (results_none rfl _ _ _) rfl ?_
            exact ⟨⟨_, rfl⟩, .inr ⟨_, by rw [List.append_assoc]; exact HPM.out, hJx3⟩⟩
        · have hml' : ¬ (m : Int) < (L.length : Int) := by omega
          gi_wp2
          go_roundw
          case rel => exact ⟨j + 1, by omega, by go_num, hid (by rw [HSU.out, ← HL.out]; have := hJ2.out; rw [List.take_of_length_le (by omega)] at this; exact this), hB3⟩
          case measure => simp [intOf]; omega
    · have hjl' : ¬ (j : Int) < (p.flows.length : Int) := by omega
      gi_wp2
      go_end0
      refine ⟨⟨_, rfl⟩, .inl ?_⟩
      have := hJ.out
      unfold asksN at this
      rw [List.take_of_length_le (by omega)] at this
      exact this
end Go.Proofs.YtejacmgppnafcabDoor.Lex
namespace Go.Proofs.YtejacmgppnafcabDoor.Lex
open Go.ChangeShapes Go.WideShapes Go.ChangeAt Go.RowKit Go.Shelf
attribute [local go_sem] Oper.semAt_some
/-- A name that is a string. -/
abbrev Ts := { s : ByteArray // s.size ≤ 140737488355328 }
theorem gat_small : ∀ (k : Nat) (x : Ex) (ago : Nat) (acc : List Rf), NmOk k x → (∀ r ∈ acc, r.1.size ≤ 65536) → ∀ r ∈ gat k x ago acc, r.1.size ≤ 65536
  | 0, x, ago, acc, _, h => h
  | k + 1, x, ago, acc, hn, h => by
    rw [gat]
    have h1 : ∀ r ∈ ownRefs x ago acc, r.1.size ≤ 65536 := by
      unfold ownRefs addR
      split
      · split
        · exact h
        · intro r hr
          rcases List.mem_append.1 hr with hr | hr
          · exact h r hr
          · simp only [List.mem_singleton] at hr
            subst hr
            exact hn.1
      · exact h
    have h2 : ∀ (l : List Ex) (acc : List Rf), (∀ y ∈ l, NmOk k y) → (∀ r ∈ acc, r.1.size ≤ 65536) → ∀ r ∈ l.foldl (fun acc y => gat k y (nextAgo x ago) acc) acc, r.1.size ≤ 65536 := by
      intro l
      induction l with
      | nil => intro acc _ h; exact h
      | cons y l ih =>
        intro acc hl h
        rw [List.foldl_cons]
        exact ih _ (fun z hz => hl z (List.mem_cons_of_mem _ hz)) (gat_small k y _ acc (hl y (by simp)) h)
    exact h2 x.args _ hn.2 h1
theorem asked_size {p : Pg} (hC : ∀ f ∈ p.flows, chk f.body = true) : ∀ s ∈ askedL p, s.size ≤ 140737488355328 := fun s hs => by
  unfold askedL at hs
  obtain ⟨f, hf, hs⟩ := List.mem_flatMap.1 hs
  obtain ⟨r, hr, rfl⟩ := List.mem_map.1 hs
  have := gat_small 32 f.body 0 [] (chk_nm (hC f hf)).1 (by simp) r hr
  omega
theorem asked (n : Nat) (p : Pg) (a b c : Value) (w : World) :
    CallsIn Fence.wide n Tryd.prog 37 #[pgV p a b c] w fun e w' => e = .returned (.func (.func 45) #[] #[.pointer (some ⟨w.heap.size, 0, none⟩)]) ∧ w' = w.alloc (.cells (pgC p a b c) 26) := by
  refine callsIn_of_wp Tryd.func37 rfl trivial ?_ rfl
  simp only [Tryd.ntmps37, List.size_toArray, List.length_cons, List.length_nil, Nat.reduceAdd, Nat.reduceSub, Array.replicate_succ, Array.replicate_zero, List.push_toArray, List.append_toArray, List.nil_append, List.cons_append]
  gi_wp2
  go_ret
  exact ⟨rfl, rfl⟩
/-- What it hands back goes through the names. -/
theorem asked_stops (n : Nat) (hn : 1 ≤ n) (Bn : Nat) (p : Pg) (a b c : Value) (w0 w : World) (hP : PgAt w0 p a b c) (hC : ∀ f ∈ p.flows, chk f.body = true) (hb : Below w0.heap.size w0 w) (hBx : w.heap[Bn]? = some (.cells (pgC p a b c) 26 (0, 0))) :
    SeqStopsK Fence.wide n Tryd.prog 45 #[.pointer (some ⟨Bn, 0, none⟩)] (fun x : Ts => #[.string x.1]) (KpA w0.heap.size) (fun ys => ys.map (·.1) = askedL p) (fun pre => pre.map (·.1) <+: askedL p) (askedL p).length w := fun l J Jx W hW hA _ hY h0 => by
  have hsz := asked_size hC
  refine (asked1 n hn l Bn w0.heap.size p a b c (fun pre V => ∃ q : List Ts, q.map (·.1) = pre ∧ J q V) (fun pre V => ∃ q : List Ts, q.map (·.1) = pre ∧ Jx q V) w0 W rfl (hb.trans (hW.mono hb.size)) hP hC ?_ ?_ ((hW.block Bn (Array.getElem?_eq_some_iff.1 hBx).1).trans hBx) ⟨[], rfl, h0⟩).mono ?_
  · rintro s V V' row ⟨q, e, hJ⟩ hg hr
    exact ⟨q, e, hA q V V' row hJ hg hr⟩
  · rintro pre x V ⟨q, rfl, hJ⟩ hpre
    have hx : x ∈ askedL p := hpre.subset (by simp)
    have hlen : q.length < (askedL p).length := by have := hpre.length_le; simp at this; omega
    refine (hY q ⟨x, hsz x hx⟩ V hJ hlen).mono ?_
    rintro e V' (⟨rfl, h1, h2⟩ | ⟨rfl, h1⟩)
    · exact .inl ⟨rfl, ⟨q ++ [⟨x, hsz x hx⟩], by simp, h1⟩, h2⟩
    · exact .inr ⟨rfl, ⟨q ++ [⟨x, hsz x hx⟩], by simp, h1⟩⟩
  · rintro e V' ⟨hv, ⟨ys, rfl, q, e1, hJ⟩ | ⟨pre, hp, q, rfl, hJ⟩⟩
    · exact ⟨hv, .inl ⟨q, e1, hJ⟩⟩
    · exact ⟨hv, .inr ⟨q, hp, hJ⟩⟩
end Go.Proofs.YtejacmgppnafcabDoor.Lex
namespace Go.Proofs.YtejacmgppnafcabDoor.Lex
open Go.ChangeShapes Go.WideShapes Go.ChangeAt Go.RowKit Go.Shelf
attribute [local go_sem] Oper.semAt_some
def twice (p : Pg) (s : ByteArray) : Bool := decide (1 < cntT (thingsL p) s.data.toList)
def none_ (p : Pg) (s : ByteArray) : Bool := decide (cntT (thingsL p) s.data.toList = 0)
def told (p : Pg) (s : ByteArray) : Bool := decide (1 < cntO p.outs s.data.toList)
/-- Does each name mean one thing, that is there? -/
def nmOk (p : Pg) : Bool := (thingsL p).all (fun x => !twice p x.2.name) && ((askedL p).all (fun s => !none_ p s) && p.outs.all (fun s => !(none_ p s || told p s)))
def nmErr (p : Pg) : Int := if pgOk p then (if nmOk p then 0 else 6) else 1
theorem pgOk_chk {p : Pg} (h : pgOk p = true) : ∀ f ∈ p.flows, chk f.body = true := fun f hf => by
  unfold pgOk at h
  simp only [Bool.and_eq_true, List.all_eq_true] at h
  have := h.2.2.1 f hf
  unfold flOk at this
  simp only [Bool.and_eq_true] at this
  exact this.2.2
/-- None of them is there twice. -/
def FineT (p : Pg) (pre : List Tg) : Prop := ∀ x ∈ pre, twice p x.1.2.name = false
theorem field61 (a b : Int) (W : World) : (Instr.field 79 (.agg #[.int .i64 a, .int .i64 b]) 0).run Tryd.prog W = .ok (.int .i64 a) W := by kernel_rfl
theorem nmOk_twice {p : Pg} {x : Int × Hd} (hx : x ∈ thingsL p) (h : twice p x.2.name = true) : nmOk p = false := by
  unfold nmOk
  have : (thingsL p).all (fun x => !twice p x.2.name) = false := by rw [List.all_eq_false]; exact ⟨x, hx, by simp [h]⟩
  rw [this]; rfl
theorem nmOk_none {p : Pg} {s : ByteArray} (hx : s ∈ askedL p) (h : none_ p s = true) : nmOk p = false := by
  unfold nmOk
  have : (askedL p).all (fun s => !none_ p s) = false := by rw [List.all_eq_false]; exact ⟨s, hx, by simp [h]⟩
  rw [this, Bool.false_and, Bool.and_false]
theorem nmOk_told {p : Pg} {s : ByteArray} (hx : s ∈ p.outs) (h : (none_ p s || told p s) = true) : nmOk p = false := by
  unfold nmOk
  have : p.outs.all (fun s => !(none_ p s || told p s)) = false := by rw [List.all_eq_false]; exact ⟨s, hx, by rw [h]; simp⟩
  rw [this, Bool.and_false, Bool.and_false]
theorem leave2 {w X : World} {D1 D2 r : Nat} {v : Value} (k2 : X.heap[D2]? = some (.deferred (some []))) (k1 : X.heap[D1]? = some (.deferred (some []))) (hne : D1 < D2) (hw : w.heap.size ≤ D1) (hb : Boxed X r 43 v) (hB : Below w.heap.size w X) :
    (X.putObj D2 (.deferred none)).heap[D1]? = some (.deferred (some [])) ∧ ((X.putObj D2 (.deferred none)).putObj D1 (.deferred none)).cell? ⟨r, 0, none⟩ = some v ∧ Below w.heap.size w ((X.putObj D2 (.deferred none)).putObj D1 (.deferred none)) := by
  have k1' : (X.putObj D2 (.deferred none)).heap[D1]? = some (.deferred (some [])) := ((grownBy_putObj' X D2 (.deferred none)).block D1 (Array.getElem?_eq_some_iff.1 k1).1 (by intro e; injection e with e; omega)).trans k1
  refine ⟨k1', ?_, ?_⟩
  · exact Go.cell_kept (Go.cell_kept hb.cell (grownBy_putObj' _ D2 (.deferred none)) (fun r e => by cases e; exact ⟨_, k2, rfl⟩)) (grownBy_putObj' _ D1 (.deferred none)) (fun r e => by cases e; exact ⟨_, k1', rfl⟩)
  · exact (hB.trans (belowK_b (w := w) (Nat.le_refl _) X D2 _ _ (by omega) k2 rfl rfl)).trans (belowK_b (w := w) (Nat.le_refl _) _ D1 _ _ (by omega) k1' rfl rfl)
/-- What stands while names are looked up. -/
structure CK (w : World) (p : Pg) (c4 : Array Value) (mb vb : Nat) (W : World) : Prop where
  map : ∃ n, TMap W mb n (tly (thingsL p) p.outs)
  var : W.heap[vb]? = some (.cells #[.map (some mb)] 76 (0, 0))
  res : Boxed W (w.heap.size + 1) 43 (.int .i64 0)
  prog : W.heap[w.heap.size]? = some (.cells c4 26 (0, 0))
  below : Below w.heap.size w W
theorem CK.keep {w W W' : World} {p : Pg} {c4 : Array Value} {mb vb : Nat} (h : CK w p c4 mb vb W) (hb : Below W.heap.size W W') : CK w p c4 mb vb W' := by
  obtain ⟨n, hm⟩ := h.map
  exact ⟨⟨n, hm.keep hb⟩, (hb.block _ (Array.getElem?_eq_some_iff.1 h.var).1).trans h.var, (hb.block _ h.res.lt).trans h.res, (hb.block _ (Array.getElem?_eq_some_iff.1 h.prog).1).trans h.prog, h.below.trans (hb.mono h.below.size)⟩
theorem CK.own {w : World} {p : Pg} {c4 : Array Value} {mb vb B0 : Nat} (hmb : mb < B0) (hw : w.heap.size ≤ B0) : OwnFrom B0 (fun (_ : Unit) W => CK w p c4 mb vb W) := fun _ X Y row hs hg hr => by
  obtain ⟨n, hm⟩ := hs.map
  exact ⟨⟨n, hm.kept hg (fun e => by have := (hr _ e.symm).1; omega)⟩, cells_turn hg (fun r e => (hr r e).2) hs.var, box_turn hs.res hg hr, cells_turn hg (fun r e => (hr r e).2) hs.prog,
    (ownFrom_below (w₀ := w) (Nat.le_refl _) hw : OwnFrom B0 (fun (_ : Unit) W => Below w.heap.size w W)) () X Y row hs.below hg hr⟩
set_option maxRecDepth 100000 in
set_option maxHeartbeats 2000000 in
theorem names_check (p : Pg) (w : World) (a b c : Value) (hP : PgAt w p a b c) (hR : TabR w) (hJ : TabJ w) :
    CallsIn Fence.wide 20 Tryd.prog 25 #[pgV p a b c] w fun e W' => e = .returned (.int .i64 (nmErr p)) ∧ Below w.heap.size w W' := by
  have h22 : Fence.wide.fn 35 := trivial
  have h23 : Fence.wide.fn 36 := trivial
  have h24 : Fence.wide.fn 21 := trivial
  have h25 : Fence.wide.fn 37 := trivial
  obtain ⟨a0, a1, rfl, hl1, _, ho1, _⟩ := hP.ins
  obtain ⟨b0, b1, _, rfl, hl2, _, ho2, _⟩ := hP.flows
  obtain ⟨c0, c1, rfl, hl3, _, ho3, hc3⟩ := hP.outs
  have HP := hid hP
  have HC3 := hid hc3
  have HO3 := hid ho3
  have W1B : Below w.heap.size w ((w.alloc (.cells (pgC p (.slice a0 p.ins.length a1) (.slice b0 p.flows.length b1) (.slice c0 p.outs.length c1)) 26)).alloc (.cells #[.int .i64 0] 43)) := ((Below.refl w.heap.size w).alloc (Nat.le_refl _) _).alloc (by simp) _
  have hbp : ((w.alloc (.cells (pgC p (.slice a0 p.ins.length a1) (.slice b0 p.flows.length b1) (.slice c0 p.outs.length c1)) 26)).alloc (.cells #[.int .i64 0] 43)).heap[w.heap.size]? = some (.cells (pgC p (.slice a0 p.ins.length a1) (.slice b0 p.flows.length b1) (.slice c0 p.outs.length c1)) 26 (0, 0)) := by
    rw [Below.heap_alloc _ _ _ (by simp)]; exact heap_alloc_new w _
  have hbr : Boxed ((w.alloc (.cells (pgC p (.slice a0 p.ins.length a1) (.slice b0 p.flows.length b1) (.slice c0 p.outs.length c1)) 26)).alloc (.cells #[.int .i64 0] 43)) (w.heap.size + 1) 43 (.int .i64 0) := by
    have := Boxed.new (w.alloc (.cells (pgC p (.slice a0 p.ins.length a1) (.slice b0 p.flows.length b1) (.slice c0 p.outs.length c1)) 26)) 43 (.int .i64 0)
    simpa using this
  have c22 := (callsIn_wide (n := 19)).2 (prog_check p _ _ _ _ (hP.keep W1B) (hR.below W1B) (hJ.below W1B))
  clear hP hc3 ho1 ho2 ho3 hR hJ
  have x0 : ((w.alloc (.cells (pgC p (.slice a0 p.ins.length a1) (.slice b0 p.flows.length b1) (.slice c0 p.outs.length c1)) 26)).alloc (.cells #[.int .i64 0] 43)).cell? ⟨w.heap.size, 0, none⟩ = some (.int .i64 p.st) := by rw [cell_of_row _ _ _ _ 26 (0, 0) hbp]; rfl
  have x1 : ((w.alloc (.cells (pgC p (.slice a0 p.ins.length a1) (.slice b0 p.flows.length b1) (.slice c0 p.outs.length c1)) 26)).alloc (.cells #[.int .i64 0] 43)).cell? ⟨w.heap.size, 1, none⟩ = some (.slice a0 p.ins.length a1) := by rw [cell_of_row _ _ _ _ 26 (0, 0) hbp]; rfl
  have x2 : ((w.alloc (.cells (pgC p (.slice a0 p.ins.length a1) (.slice b0 p.flows.length b1) (.slice c0 p.outs.length c1)) 26)).alloc (.cells #[.int .i64 0] 43)).cell? ⟨w.heap.size, 2, none⟩ = some (.slice b0 p.flows.length b1) := by rw [cell_of_row _ _ _ _ 26 (0, 0) hbp]; rfl
  have x3 : ((w.alloc (.cells (pgC p (.slice a0 p.ins.length a1) (.slice b0 p.flows.length b1) (.slice c0 p.outs.length c1)) 26)).alloc (.cells #[.int .i64 0] 43)).cell? ⟨w.heap.size, 3, none⟩ = some (.slice c0 p.outs.length c1) := by rw [cell_of_row _ _ _ _ 26 (0, 0) hbp]; rfl
  have HBP := hid hbp
  have HBR := hid hbr
  have HWB := hid W1B
  clear hbp hbr W1B
  refine callsIn_of_wp_marks Tryd.func25 rfl trivial ?_ rfl
  simp only [Tryd.ntmps25, List.size_toArray, List.length_cons, List.length_nil, Nat.reduceAdd, Nat.reduceSub, Array.replicate_succ, Array.replicate_zero, List.push_toArray, List.append_toArray, List.nil_append, List.cons_append]
  cases hk : pgOk p with
  | false =>
    rw [hk] at c22
    have HE : Hid (nmErr p = 1) := hid (by unfold nmErr; rw [hk]; rfl)
    clear hk
    gi_wp2_with (gi_at_call 35; refine c22.mono ?_; rintro e w3 ⟨rfl, hb3⟩; have hr3 : Boxed w3 (w.heap.size + 1) 43 (.int .i64 0) := (hb3.block _ HBR.out.lt).trans HBR.out; have d3 := hr3.cell; have f3 := hr3.frozen; have HR3 := hid hr3; have HB3 := hid hb3; clear hb3 hr3)
    have hr' := HR3.out.set (.int .i64 1)
    have e2 := hr'.cell
    exact ⟨.int .i64 1, by simp [results, Tryd.f25, go_sem, e2], by rw [HE.out], (HWB.out.trans (HB3.out.mono HWB.out.size)).setCell (p := ⟨w.heap.size + 1, 0, none⟩) (by simp) _⟩
  | true =>
    rw [hk] at c22
    have HE : Hid (nmErr p = if nmOk p then 0 else 6) := hid (by unfold nmErr; rw [hk]; rfl)
    have HCK := hid (pgOk_chk hk)
    have hrm : p.ins.length ≤ 64 ∧ p.flows.length ≤ 128 ∧ p.outs.length ≤ p.ins.length + p.flows.length := by
      unfold pgOk roomOk at hk
      simp only [Bool.and_eq_true, decide_eq_true_eq] at hk
      exact hk.1.2
    clear hk
    gi_wp2_with (first
      | (gi_at_call 35; refine c22.mono ?_; rintro e w3 ⟨rfl, hb3⟩; have hp3 := (hb3.block _ (Array.getElem?_eq_some_iff.1 HBP.out).1).trans HBP.out; have hw3 := HWB.out.trans (hb3.mono HWB.out.size)
         have y0 : w3.cell? ⟨w.heap.size, 0, none⟩ = some (.int .i64 p.st) := by rw [cell_of_row _ _ _ _ 26 (0, 0) hp3]; rfl
         have y1 : w3.cell? ⟨w.heap.size, 1, none⟩ = some (.slice a0 p.ins.length a1) := by rw [cell_of_row _ _ _ _ 26 (0, 0) hp3]; rfl
         have y2 : w3.cell? ⟨w.heap.size, 2, none⟩ = some (.slice b0 p.flows.length b1) := by rw [cell_of_row _ _ _ _ 26 (0, 0) hp3]; rfl
         have y3 : w3.cell? ⟨w.heap.size, 3, none⟩ = some (.slice c0 p.outs.length c1) := by rw [cell_of_row _ _ _ _ 26 (0, 0) hp3]; rfl
         have hr3 : Boxed w3 (w.heap.size + 1) 43 (.int .i64 0) := (hb3.block _ HBR.out.lt).trans HBR.out
         have c23 := counted_in Fence.wide 19 trivial trivial trivial rfl (by omega) p w3 _ _ _ (HP.out.keep hw3)
         have HP3 := hid hp3; have HR3 := hid hr3; have HW3 := hid hw3; clear hp3 hr3 hw3 hb3 c22)
      | (gi_at_call 36; refine c23.mono ?_; rintro e w4 ⟨rfl, hm4, hb4⟩; have hp4 := (Below.heap_alloc w4 (.cells #[.map (some (w3.heap.size + 1))] 76) _ (Nat.lt_of_lt_of_le (Array.getElem?_eq_some_iff.1 HP3.out).1 hb4.size)).trans ((hb4.block _ (Array.getElem?_eq_some_iff.1 HP3.out).1).trans HP3.out)
         have z0 : (w4.alloc (.cells #[.map (some (w3.heap.size + 1))] 76)).cell? ⟨w.heap.size, 0, none⟩ = some (.int .i64 p.st) := by rw [cell_of_row _ _ _ _ 26 (0, 0) hp4]; rfl
         have z1 : (w4.alloc (.cells #[.map (some (w3.heap.size + 1))] 76)).cell? ⟨w.heap.size, 1, none⟩ = some (.slice a0 p.ins.length a1) := by rw [cell_of_row _ _ _ _ 26 (0, 0) hp4]; rfl
         have z2 : (w4.alloc (.cells #[.map (some (w3.heap.size + 1))] 76)).cell? ⟨w.heap.size, 2, none⟩ = some (.slice b0 p.flows.length b1) := by rw [cell_of_row _ _ _ _ 26 (0, 0) hp4]; rfl
         have z3 : (w4.alloc (.cells #[.map (some (w3.heap.size + 1))] 76)).cell? ⟨w.heap.size, 3, none⟩ = some (.slice c0 p.outs.length c1) := by rw [cell_of_row _ _ _ _ 26 (0, 0) hp4]; rfl
         have HM4 := hid hm4; have HB4 := hid hb4; have HP4 := hid hp4; clear hm4 hb4 hp4 c23)
      | (gi_at_call 21; refine (things Fence.wide 19 trivial rfl p _ _ _ _).mono ?_; rintro e w' ⟨rfl, rfl⟩))
    clear y0 y1 y2 y3 z0 z1 z2 z3 x0 x1 x2 x3
    have hm4 := HM4.out
    have hlt4 := hm4.lt
    have hsz : ((w4.alloc (.cells #[.map (some (w3.heap.size + 1))] 76)).alloc (.cells (pgC p (.slice a0 p.ins.length a1) (.slice b0 p.flows.length b1) (.slice c0 p.outs.length c1)) 26)).heap.size = w4.heap.size + 2 := by simp
    have g1 := World.grownBy_alloc w4 (.cells #[.map (some (w3.heap.size + 1))] 76) none
    have g2 := World.grownBy_alloc (w4.alloc (.cells #[.map (some (w3.heap.size + 1))] 76)) (.cells (pgC p (.slice a0 p.ins.length a1) (.slice b0 p.flows.length b1) (.slice c0 p.outs.length c1)) 26) none
    have hw3 := HW3.out.size
    have hr4 : Boxed w4 (w.heap.size + 1) 43 (.int .i64 0) := (HB4.out.block _ HR3.out.lt).trans HR3.out
    have ck0 : CK w p (pgC p (.slice a0 p.ins.length a1) (.slice b0 p.flows.length b1) (.slice c0 p.outs.length c1)) (w3.heap.size + 1) w4.heap.size ((w4.alloc (.cells #[.map (some (w3.heap.size + 1))] 76)).alloc (.cells (pgC p (.slice a0 p.ins.length a1) (.slice b0 p.flows.length b1) (.slice c0 p.outs.length c1)) 26)) :=
      ⟨⟨_, (hm4.kept g1 (by simp)).kept g2 (by simp)⟩, (Below.heap_alloc _ _ _ (by simp)).trans (heap_alloc_new w4 _), (hr4.alloc _).alloc _, (Below.heap_alloc _ _ _ (Array.getElem?_eq_some_iff.1 HP4.out).1).trans HP4.out, (((HW3.out.trans (HB4.out.mono hw3)).alloc (by have := HB4.out.size; omega) _).alloc (by have := HB4.out.size; simp; omega) _)⟩
    have q0 : ((w4.alloc (.cells #[.map (some (w3.heap.size + 1))] 76)).alloc (.cells (pgC p (.slice a0 p.ins.length a1) (.slice b0 p.flows.length b1) (.slice c0 p.outs.length c1)) 26)).heap[w4.heap.size + 1]? = some (.cells (pgC p (.slice a0 p.ins.length a1) (.slice b0 p.flows.length b1) (.slice c0 p.outs.length c1)) 26 (0, 0)) := by
      have := heap_alloc_new (w4.alloc (.cells #[.map (some (w3.heap.size + 1))] 76)) (.cells (pgC p (.slice a0 p.ins.length a1) (.slice b0 p.flows.length b1) (.slice c0 p.outs.length c1)) 26)
      simpa using this
    have hr3l := HR3.out.lt
    obtain ⟨W0, hW0⟩ : ∃ W0, ((w4.alloc (.cells #[.map (some (w3.heap.size + 1))] 76)).alloc (.cells (pgC p (.slice a0 p.ins.length a1) (.slice b0 p.flows.length b1) (.slice c0 p.outs.length c1)) 26)) = W0 := ⟨_, rfl⟩
    rw [hW0] at hsz ck0 q0 ⊢
    clear hW0 g1 g2 hm4 hr4 HM4 HB4 HP4 HP3 HR3 HW3 HBP HBR HWB
    obtain ⟨mb, hmb⟩ : ∃ mb, w3.heap.size + 1 = mb := ⟨_, rfl⟩
    obtain ⟨vb, hvb⟩ : ∃ vb, w4.heap.size = vb := ⟨_, rfl⟩
    have hrb : w.heap.size + 1 < mb := by omega
    rw [hmb] at hlt4 ck0 ⊢
    rw [hvb] at hlt4 ck0 q0 hsz ⊢
    clear hmb hvb hr3l hw3
    refine wpIn_rangeFunc_ownH rfl (by omega) (gf := 30) (lb := #[.pointer (some ⟨vb + 1, 0, none⟩)]) rfl trivial (enters_of Tryd.func30 (by kernel_rfl) rfl)
      (things_stops2 Fence.wide 19 trivial rfl (by omega) (vb + 1) p _ _ _ w W0 HP.out ck0.below q0) KpT.trans (fun W l o o' hl ho hc hw => ⟨belowK_b (w := W0) (by omega) W l o o' hl ho hc hw, (grownBy_putObj' W l o').block _ (by have := (Array.getElem?_eq_some_iff.1 ho).1; omega) (by intro e; injection e with e; omega)⟩) (Below.refl _ _) (fun _ => rfl)
      (fun pre W => FineT p pre ∧ (CK w p (pgC p (.slice a0 p.ins.length a1) (.slice b0 p.flows.length b1) (.slice c0 p.outs.length c1)) mb vb W ∧ W0.heap.size ≤ W.heap.size))
      (fun c pre W => ∃ (q : List Tg) (x : Tg), (c = .ret ∧ pre = q ++ [x] ∧ twice p x.1.2.name = true) ∧ Boxed W (w.heap.size + 1) 43 (.int .i64 6) ∧ Below w.heap.size w W)
      (fun pre X Y row hs hg hr => ⟨hs.1, CK.own (by omega) (by omega) () X Y row hs.2.1 hg hr, Nat.le_trans hs.2.2 hg.size⟩)
      (fun c pre X Y row hs hg hr => by
        obtain ⟨q, x, e, e2, e3⟩ := hs
        exact ⟨q, x, e, box_turn e2 hg hr, (ownFrom_below (w₀ := w) (Nat.le_refl _) (by omega) : OwnFrom W0.heap.size (fun (_ : Unit) W => Below w.heap.size w W)) () X Y row e3 hg hr⟩)
      ⟨(fun _ h => by cases h), ck0, Nat.le_refl _⟩
      (fun x a' W => ∃ Bx, W0.heap.size ≤ Bx ∧ W.heap[Bx]? = some (.cells #[.string x.1.2.name, .int .u8 (x.1.2.ty : Int), .int .i64 x.1.2.st] 63 (0, 0)) ∧ a' = { tmps := #[pgV p (.slice a0 p.ins.length a1) (.slice b0 p.flows.length b1) (.slice c0 p.outs.length c1), .pointer (some ⟨w.heap.size, 0, none⟩), .pointer (some ⟨w.heap.size + 1, 0, none⟩), .pointer (some ⟨vb, 0, none⟩), undef, .pointer (some ⟨Bx, 0, none⟩), undef, undef, undef, undef, pgV p (.slice a0 p.ins.length a1) (.slice b0 p.flows.length b1) (.slice c0 p.outs.length c1), .bool true, .bool false, pgV p (.slice a0 p.ins.length a1) (.slice b0 p.flows.length b1) (.slice c0 p.outs.length c1), .map (some mb), pgV p (.slice a0 p.ins.length a1) (.slice b0 p.flows.length b1) (.slice c0 p.outs.length c1), .func (.func 30) #[] #[.pointer (some ⟨vb + 1, 0, none⟩)], .int .i64 x.1.1, hdV x.1.2, undef, undef, undef, undef, undef, undef, undef, undef, undef, undef, undef, undef, undef, undef, undef, undef, undef, undef, undef, undef, undef, undef, undef, undef, undef, undef, undef, undef, undef, undef, undef, undef, undef], defers := [] })
      (fun x a' _ X Y row hs hg hr => by obtain ⟨Bx, e1, e2, e3⟩ := hs; exact ⟨Bx, e1, cells_turn hg (fun r e => (hr r e).2) e2, e3⟩)
      ?assign ?body ?done ?stop
    case assign =>
      rintro l pre x W K ⟨hf, ck, hz⟩ hK
      gi_wp2
      exact hK _ _ ((KeepsOthers.alloc _ _).from _) ⟨(Below.refl _ W).alloc (by omega) _, Below.heap_alloc _ _ _ (by omega)⟩ ⟨hf, ck.keep ((Below.refl _ W).alloc (Nat.le_refl _) _), by simp; omega⟩ ⟨W.heap.size, hz, World.alloc_heap_new W _, rfl⟩
    case body =>
      rintro l pre x a' W hl _ ⟨hf, ck, hz⟩ ⟨Bx, hBx, hRow, rfl⟩ hlt
      have cV : W.cell? ⟨vb, 0, none⟩ = some (.map (some mb)) := by rw [cell_of_row _ _ _ _ 76 (0, 0) ck.var]; rfl
      have cN : W.cell? ⟨Bx, 0, none⟩ = some (.string x.1.2.name) := by rw [cell_of_row _ _ _ _ 63 (0, 0) hRow]; rfl
      have d3 := ck.res.cell
      have f3 := ck.res.frozen
      obtain ⟨nM, hM⟩ := ck.map
      have hlk := hM.look x.2
      have htl : tly (thingsL p) p.outs x.1.2.name.data.toList = ((cntT (thingsL p) x.1.2.name.data.toList : Int), (cntO p.outs x.1.2.name.data.toList : Int)) := rfl
      rw [htl] at hlk
      have HT : Hid (twice p x.1.2.name = decide (1 < cntT (thingsL p) x.1.2.name.data.toList)) := hid rfl
      generalize cntT (thingsL p) x.1.2.name.data.toList = N at *
      generalize cntO p.outs x.1.2.name.data.toList = M at *
      have HC := hid ck
      have HF := hid hf
      clear ck hM hRow htl hf
      dsimp only [tlV] at hlk
      have hfd := field61
      by_cases hN : 1 < N
      · have hN1 : (1 : Int) < (N : Int) := by omega
        gi_wp2_with (gi_at_lookup; refine wpListIn_look rfl (.tmp 19) (.tmp 21) 76 rfl _ hlk ?_)
        exact ⟨(KeepsOthers.setCell _ _ _).from _, pre, x, ⟨rfl, rfl, by rw [HT.out]; simpa using hN⟩, HC.out.res.set _, HC.out.below.setCell (p := ⟨w.heap.size + 1, 0, none⟩) (by simp) _⟩
      · have hN1 : ¬ (1 : Int) < (N : Int) := by omega
        gi_wp2_with (gi_at_lookup; refine wpListIn_look rfl (.tmp 19) (.tmp 21) 76 rfl _ hlk ?_)
        refine ⟨KeepsFrom.refl _ _, ⟨Below.refl _ _, rfl⟩, fun y hy => ?_, HC.out, by omega⟩
        rcases List.mem_append.1 hy with hy | hy
        · exact HF.out y hy
        · simp only [List.mem_singleton] at hy
          rw [hy, HT.out]; simpa using hN
    case done =>
      rintro D1 ys W hD hys ⟨hf, ck, hz⟩ hK
      have HT1 : Hid ((thingsL p).all (fun x => !twice p x.2.name) = true) := hid (by
        rw [List.all_eq_true]
        intro x hx
        rw [← hys] at hx
        obtain ⟨y, hy, rfl⟩ := List.mem_map.1 hx
        simp [hf y hy])
      clear hf hys ck0 q0
      have s0 : W.cell? ⟨w.heap.size, 0, none⟩ = some (.int .i64 p.st) := by rw [cell_of_row _ _ _ _ 26 (0, 0) ck.prog]; rfl
      have s1 : W.cell? ⟨w.heap.size, 1, none⟩ = some (.slice a0 p.ins.length a1) := by rw [cell_of_row _ _ _ _ 26 (0, 0) ck.prog]; rfl
      have s2 : W.cell? ⟨w.heap.size, 2, none⟩ = some (.slice b0 p.flows.length b1) := by rw [cell_of_row _ _ _ _ 26 (0, 0) ck.prog]; rfl
      have s3 : W.cell? ⟨w.heap.size, 3, none⟩ = some (.slice c0 p.outs.length c1) := by rw [cell_of_row _ _ _ _ 26 (0, 0) ck.prog]; rfl
      have hal : Below W.heap.size W (W.alloc (.cells (pgC p (.slice a0 p.ins.length a1) (.slice b0 p.flows.length b1) (.slice c0 p.outs.length c1)) 26)) := (Below.refl _ W).alloc (Nat.le_refl _) _
      have ck1 := ck.keep hal
      have q1 := heap_alloc_new W (.cells (pgC p (.slice a0 p.ins.length a1) (.slice b0 p.flows.length b1) (.slice c0 p.outs.length c1)) 26)
      have hD1 := (Array.getElem?_eq_some_iff.1 hK).1
      have hK1 := (Below.heap_alloc W (.cells (pgC p (.slice a0 p.ins.length a1) (.slice b0 p.flows.length b1) (.slice c0 p.outs.length c1)) 26) _ hD1).trans hK
      have hsz5 : (W.alloc (.cells (pgC p (.slice a0 p.ins.length a1) (.slice b0 p.flows.length b1) (.slice c0 p.outs.length c1)) 26)).heap.size = W.heap.size + 1 := by simp
      have CK1 := hid ck1
      have Q1 := hid q1
      have HK1 := hid hK1
      have HSZ5 := hid hsz5
      clear ck ck1 q1 hK hK1 hsz5 hal
      gi_wp2_with (gi_at_call 37; refine (asked 19 p _ _ _ _).mono ?_; rintro e w' ⟨rfl, rfl⟩)
      clear s0 s1 s2 s3
      obtain ⟨W5, hW5⟩ : ∃ W5, (W.alloc (.cells (pgC p (.slice a0 p.ins.length a1) (.slice b0 p.flows.length b1) (.slice c0 p.outs.length c1)) 26)) = W5 := ⟨_, rfl⟩
      obtain ⟨bn, hbn⟩ : ∃ bn, W.heap.size = bn := ⟨_, rfl⟩
      rw [hW5] at CK1 Q1 HK1 HSZ5 ⊢
      rw [hbn] at hz hD1 Q1 HSZ5 ⊢
      clear hW5 hbn
      have ck1 := CK1.out
      have q1 := Q1.out
      have hK1 := HK1.out
      have hsz5 := HSZ5.out
      refine wpIn_rangeFunc_ownH rfl (by omega) (gf := 45) (lb := #[.pointer (some ⟨bn, 0, none⟩)]) rfl trivial (enters_of Tryd.func45 (by kernel_rfl) rfl)
        (asked_stops 19 (by omega) bn p _ _ _ w W5 HP.out HCK.out ck1.below q1) KpA.trans (fun W l o o' hl ho hc hw => ⟨belowK_b (w := W5) (by omega) W l o o' hl ho hc hw, fun a v e => Go.cell_kept e (grownBy_putObj' W l o') (fun r e => by cases e; exact ⟨_, ho, hc⟩)⟩) (Below.refl _ _) (fun _ => rfl)
        (fun pre V => (∀ x ∈ pre, none_ p x.1 = false) ∧ (CK w p (pgC p (.slice a0 p.ins.length a1) (.slice b0 p.flows.length b1) (.slice c0 p.outs.length c1)) mb vb V ∧ V.heap[D1]? = some (.deferred (some []))))
        (fun c pre V => ∃ (q : List Ts) (x : Ts), (c = .ret ∧ pre = q ++ [x] ∧ none_ p x.1 = true) ∧ Boxed V (w.heap.size + 1) 43 (.int .i64 6) ∧ Below w.heap.size w V ∧ V.heap[D1]? = some (.deferred (some [])))
        (fun pre X Y row hs hg hr => ⟨hs.1, CK.own (by omega) (by omega) () X Y row hs.2.1 hg hr, (hg.block D1 (Array.getElem?_eq_some_iff.1 hs.2.2).1 (fun e => by have := (hr _ e.symm).1; omega)).trans hs.2.2⟩)
        (fun c pre X Y row hs hg hr => by
          obtain ⟨q, x, e, e2, e3, e4⟩ := hs
          exact ⟨q, x, e, box_turn e2 hg hr, (ownFrom_below (w₀ := w) (Nat.le_refl _) (by omega) : OwnFrom W5.heap.size (fun (_ : Unit) W => Below w.heap.size w W)) () X Y row e3 hg hr, (hg.block D1 (Array.getElem?_eq_some_iff.1 e4).1 (fun e => by have := (hr _ e.symm).1; omega)).trans e4⟩)
        ⟨(by simp), ck1, hK1⟩
        (fun x a' V => a' = { tmps := #[pgV p (.slice a0 p.ins.length a1) (.slice b0 p.flows.length b1) (.slice c0 p.outs.length c1), .pointer (some ⟨w.heap.size, 0, none⟩), .pointer (some ⟨w.heap.size + 1, 0, none⟩), .pointer (some ⟨vb, 0, none⟩), undef, undef, .string x.1, undef, undef, undef, pgV p (.slice a0 p.ins.length a1) (.slice b0 p.flows.length b1) (.slice c0 p.outs.length c1), .bool true, .bool false, pgV p (.slice a0 p.ins.length a1) (.slice b0 p.flows.length b1) (.slice c0 p.outs.length c1), .map (some mb), pgV p (.slice a0 p.ins.length a1) (.slice b0 p.flows.length b1) (.slice c0 p.outs.length c1), .func (.func 30) #[] #[.pointer (some ⟨vb + 1, 0, none⟩)], undef, undef, undef, undef, undef, undef, undef, undef, pgV p (.slice a0 p.ins.length a1) (.slice b0 p.flows.length b1) (.slice c0 p.outs.length c1), .func (.func 45) #[] #[.pointer (some ⟨bn, 0, none⟩)], .string x.1, undef, undef, undef, undef, undef, undef, undef, undef, undef, undef, undef, undef, undef, undef, undef, undef, undef, undef, undef, undef, undef, undef, undef, undef], defers := [] })
        (fun x a' _ X Y row hs hg hr => hs)
        ?assign2 ?body2 ?done2 ?stop2
      case assign2 =>
        rintro l pre x V K hI hK
        gi_wp2
        exact hK _ _ (KeepsFrom.refl _ _) ⟨Below.refl _ _, fun _ _ h => h⟩ hI rfl
      case body2 =>
        rintro l pre x a' V hl _ ⟨hf, ck, hk1⟩ rfl hlt
        have cV : V.cell? ⟨vb, 0, none⟩ = some (.map (some mb)) := by rw [cell_of_row _ _ _ _ 76 (0, 0) ck.var]; rfl
        have d3 := ck.res.cell
        have f3 := ck.res.frozen
        obtain ⟨nM, hM⟩ := ck.map
        have hlk := hM.look x.2
        have htl : tly (thingsL p) p.outs x.1.data.toList = ((cntT (thingsL p) x.1.data.toList : Int), (cntO p.outs x.1.data.toList : Int)) := rfl
        rw [htl] at hlk
        have HT : Hid (none_ p x.1 = decide (cntT (thingsL p) x.1.data.toList = 0)) := hid rfl
        generalize cntT (thingsL p) x.1.data.toList = N at *
        generalize cntO p.outs x.1.data.toList = M at *
        have HC := hid ck
        have HF := hid hf
        have HK0 := hid hk1
        clear ck hM htl hf hk1
        dsimp only [tlV] at hlk
        have hfd := field61
        by_cases hN : N = 0
        · have hN1 : ((N : Int) == 0) = true := by simp [hN]
          have HN := hid hN
          clear hN
          gi_wp2_with (gi_at_lookup; refine wpListIn_look rfl (.tmp 28) (.tmp 29) 76 rfl _ hlk ?_)
          exact ⟨(KeepsOthers.setCell _ _ _).from _, pre, x, ⟨rfl, rfl, by rw [HT.out]; simpa using HN.out⟩, HC.out.res.set _, HC.out.below.setCell (p := ⟨w.heap.size + 1, 0, none⟩) (by simp) _, ((KeepsOthers.setCell _ _ _).same _ _ HK0.out rfl)⟩
        · have hN1 : ((N : Int) == 0) = false := by simp [hN]
          have HN := hid hN
          clear hN
          gi_wp2_with (gi_at_lookup; refine wpListIn_look rfl (.tmp 28) (.tmp 29) 76 rfl _ hlk ?_)
          refine ⟨KeepsFrom.refl _ _, ⟨Below.refl _ _, fun _ _ h => h⟩, fun y hy => ?_, HC.out, HK0.out⟩
          rcases List.mem_append.1 hy with hy | hy
          · exact HF.out y hy
          · simp only [List.mem_singleton] at hy
            rw [hy, HT.out]; simpa using HN.out
      case done2 =>
        rintro D2 ys V hD2 hys ⟨hf, ck, hk1⟩ hk2
        have HT2 : Hid ((askedL p).all (fun s => !none_ p s) = true) := hid (by
          rw [List.all_eq_true]
          intro s hs
          rw [← hys] at hs
          obtain ⟨y, hy, rfl⟩ := List.mem_map.1 hs
          simp [hf y hy])
        clear hf hys ck1 q1 hK1 CK1 Q1 HK1
        have cP : V.cell? ⟨w.heap.size, 3, none⟩ = some (.slice c0 p.outs.length c1) := by rw [cell_of_row _ _ _ _ 26 (0, 0) ck.prog]; rfl
        have HC := hid ck
        have HK1 := hid hk1
        have HK2 := hid hk2
        clear ck hk1 hk2
        gi_wp2
        gi_loopw [36] (fun i wr => ∃ k : Nat, k ≤ p.outs.length ∧ i = .int .i64 (k : Int) ∧ Hid ((p.outs.take k).all (fun s => !(none_ p s || told p s)) = true) ∧ Hid (Below V.heap.size V wr)) (fun i wr => p.outs.length - (intOf i).toNat)
        case atStart => exact ⟨0, Nat.zero_le _, rfl, hid rfl, hid (Below.refl _ _)⟩
        case round =>
          obtain ⟨k, hk, rfl, hA, hB⟩ := hrel
          have ck := HC.out.keep hB.out
          by_cases hlt : k < p.outs.length
          · have hlt' : (k : Int) < (p.outs.length : Int) := by omega
            have hk0 : (0 : Int) ≤ (k : Int) := by omega
            obtain ⟨bb, o, rfl, hcc⟩ := HC3.out.resolve_left (by omega)
            have v0 := cell_kept (hcc k hlt) ck.below
            have hy := HO3.out p.outs[k] (List.getElem_mem hlt)
            have HM : Hid (p.outs[k] ∈ p.outs) := hid (List.getElem_mem hlt)
            have cV : wr.cell? ⟨vb, 0, none⟩ = some (.map (some mb)) := by rw [cell_of_row _ _ _ _ 76 (0, 0) ck.var]; rfl
            obtain ⟨nM, hM⟩ := ck.map
            have hlk := hM.look hy
            have htl : tly (thingsL p) p.outs p.outs[k].data.toList = ((cntT (thingsL p) p.outs[k].data.toList : Int), (cntO p.outs p.outs[k].data.toList : Int)) := rfl
            rw [htl] at hlk
            have HN : Hid (none_ p p.outs[k] = decide (cntT (thingsL p) p.outs[k].data.toList = 0)) := hid rfl
            have HO : Hid (told p p.outs[k] = decide (1 < cntO p.outs p.outs[k].data.toList)) := hid rfl
            have HTK : Hid ((none_ p p.outs[k] || told p p.outs[k]) = false → (p.outs.take (k + 1)).all (fun s => !(none_ p s || told p s)) = true) := hid (fun h => by
              rw [List.take_succ_eq_append_getElem hlt, List.all_append, hA.out, Bool.true_and]
              simp only [List.all_cons, List.all_nil, Bool.and_true]
              rw [h]; rfl)
            clear hcc htl hM hy
            generalize p.outs[k] = y at *
            generalize cntT (thingsL p) y.data.toList = N at *
            generalize cntO p.outs y.data.toList = M at *
            have hB1 := hB.out.alloc hB.out.size (.cells #[.int .i64 (N : Int), .int .i64 (M : Int)] 79)
            have hr1 := ck.res.alloc (.cells #[.int .i64 (N : Int), .int .i64 (M : Int)] 79)
            have d3 := hr1.cell
            have f3 := hr1.frozen
            have HB1 := hid hB1
            have HR1 := hid hr1
            clear hB1 hr1 ck
            dsimp only [tlV] at hlk
            by_cases hg : (none_ p y || told p y) = true
            · have HG := hid (nmOk_told HM.out hg)
              have hor : ((N : Int) == 0) = true ∨ (((N : Int) == 0) = false ∧ (1 : Int) < (M : Int)) := by
                rw [HN.out, HO.out] at hg
                by_cases hN0 : N = 0
                · exact .inl (by simp [hN0])
                · refine .inr ⟨by simp [hN0], ?_⟩
                  simp [hN0] at hg
                  omega
              clear hg
              rcases hor with hN1 | ⟨hN1, hM1⟩
              · gi_wp2_with (gi_at_lookup; refine wpListIn_look rfl (.tmp 40) (.tmp 41) 76 rfl _ hlk ?_)
                obtain ⟨l1, l2, l3⟩ := leave2 (w := w) (v := .int .i64 6) ((KeepsOthers.setCell _ _ _).same _ _ ((HB1.out.block _ (Array.getElem?_eq_some_iff.1 HK2.out).1).trans HK2.out) rfl) ((KeepsOthers.setCell _ _ _).same _ _ ((HB1.out.block _ (Array.getElem?_eq_some_iff.1 HK1.out).1).trans HK1.out) rfl) (by omega) (by omega) (HR1.out.set (.int .i64 6)) ((HC.out.below.trans (HB1.out.mono HC.out.below.size)).setCell (p := ⟨w.heap.size + 1, 0, none⟩) (by simp) _)
                refine ⟨by simp, .inl ⟨_, _, rfl, run_takeDeferred ((KeepsOthers.setCell _ _ _).same _ _ ((HB1.out.block _ (Array.getElem?_eq_some_iff.1 HK2.out).1).trans HK2.out) rfl), ⟨by simp, .inl ⟨_, _, rfl, run_takeDeferred l1, ?_⟩⟩⟩⟩
                exact ⟨.int .i64 6, by simp [results, Tryd.f25, go_sem, l2], by rw [HE.out, HG.out]; rfl, l3⟩
              · gi_wp2_with (gi_at_lookup; refine wpListIn_look rfl (.tmp 40) (.tmp 41) 76 rfl _ hlk ?_)
                obtain ⟨l1, l2, l3⟩ := leave2 (w := w) (v := .int .i64 6) ((KeepsOthers.setCell _ _ _).same _ _ ((HB1.out.block _ (Array.getElem?_eq_some_iff.1 HK2.out).1).trans HK2.out) rfl) ((KeepsOthers.setCell _ _ _).same _ _ ((HB1.out.block _ (Array.getElem?_eq_some_iff.1 HK1.out).1).trans HK1.out) rfl) (by omega) (by omega) (HR1.out.set (.int .i64 6)) ((HC.out.below.trans (HB1.out.mono HC.out.below.size)).setCell (p := ⟨w.heap.size + 1, 0, none⟩) (by simp) _)
                refine ⟨by simp, .inl ⟨_, _, rfl, run_takeDeferred ((KeepsOthers.setCell _ _ _).same _ _ ((HB1.out.block _ (Array.getElem?_eq_some_iff.1 HK2.out).1).trans HK2.out) rfl), ⟨by simp, .inl ⟨_, _, rfl, run_takeDeferred l1, ?_⟩⟩⟩⟩
                exact ⟨.int .i64 6, by simp [results, Tryd.f25, go_sem, l2], by rw [HE.out, HG.out]; rfl, l3⟩
            · have hg0 : (none_ p y || told p y) = false := by simpa using hg
              have HG := hid (HTK.out hg0)
              have hor : ((N : Int) == 0) = false ∧ ¬ (1 : Int) < (M : Int) := by
                rw [HN.out, HO.out] at hg0
                simp at hg0
                exact ⟨by simp; omega, by omega⟩
              clear hg hg0
              obtain ⟨hN1, hM1⟩ := hor
              gi_wp2_with (gi_at_lookup; refine wpListIn_look rfl (.tmp 40) (.tmp 41) 76 rfl _ hlk ?_)
              go_roundw
              case rel => exact ⟨k + 1, by omega, by go_num, HG, HB1⟩
              case measure => simp [intOf]; omega
          · have hlt' : ¬ (k : Int) < (p.outs.length : Int) := by omega
            have HN : Hid (nmOk p = true) := hid (by
              have h3 := hA.out
              rw [List.take_of_length_le (by omega)] at h3
              unfold nmOk
              rw [HT1.out, HT2.out, h3]; rfl)
            have d3 := ck.res.cell
            have f3 := ck.res.frozen
            have HR1 := hid ck.res
            clear ck
            gi_wp2
            obtain ⟨l1, l2, l3⟩ := leave2 (w := w) (v := .int .i64 0) ((KeepsOthers.setCell _ _ _).same _ _ ((hB.out.block _ (Array.getElem?_eq_some_iff.1 HK2.out).1).trans HK2.out) rfl) ((KeepsOthers.setCell _ _ _).same _ _ ((hB.out.block _ (Array.getElem?_eq_some_iff.1 HK1.out).1).trans HK1.out) rfl) (by omega) (by omega) (HR1.out.set (.int .i64 0)) ((HC.out.below.trans (hB.out.mono HC.out.below.size)).setCell (p := ⟨w.heap.size + 1, 0, none⟩) (by simp) _)
            refine ⟨by simp, .inl ⟨_, _, rfl, run_takeDeferred ((KeepsOthers.setCell _ _ _).same _ _ ((hB.out.block _ (Array.getElem?_eq_some_iff.1 HK2.out).1).trans HK2.out) rfl), ⟨by simp, .inl ⟨_, _, rfl, run_takeDeferred l1, ?_⟩⟩⟩⟩
            exact ⟨.int .i64 0, by simp [results, Tryd.f25, go_sem, l2], by rw [HE.out, HN.out]; rfl, l3⟩
      case stop2 =>
        rintro D2 c pre V hD2 hpre ⟨q, x, ⟨rfl, rfl, hx⟩, hr, hB1, hk1⟩ hK2
        have HN := hid (nmOk_none (hpre.subset (by simp)) hx)
        clear hpre hx
        gi_wp2
        obtain ⟨l1, l2, l3⟩ := leave2 hK2 hk1 (by omega) (by omega) hr hB1
        refine ⟨by simp, .inl ⟨_, _, rfl, run_takeDeferred hK2, ⟨by simp, .inl ⟨_, _, rfl, run_takeDeferred l1, ?_⟩⟩⟩⟩
        exact ⟨.int .i64 6, by simp [results, Tryd.f25, go_sem, l2], by rw [HE.out, HN.out]; rfl, l3⟩
    case stop =>
      rintro D1 c pre W hD hpre ⟨q, x, ⟨rfl, rfl, hx⟩, hr, hB1⟩ hK
      have HN := hid (nmOk_twice (hpre.subset (by simp)) hx)
      clear hpre hx
      gi_wp2
      refine ⟨by simp, .inl ⟨_, _, rfl, run_takeDeferred hK, ?_⟩⟩
      have e2 : (W.putObj D1 (.deferred none)).cell? ⟨w.heap.size + 1, 0, none⟩ = some (.int .i64 6) := Go.cell_kept hr.cell (grownBy_putObj' _ D1 (.deferred none)) (fun r e => by cases e; exact ⟨_, hK, rfl⟩)
      exact ⟨.int .i64 6, by simp [results, Tryd.f25, go_sem, e2], by rw [HE.out, HN.out]; rfl, hB1.trans (belowK_b (w := w) (Nat.le_refl _) W D1 _ _ (by omega) hK rfl rfl)⟩
end Go.Proofs.YtejacmgppnafcabDoor.Lex
namespace Go.Proofs.YtejacmgppnafcabDoor.Lex
open Go.ChangeShapes Go.WideShapes Go.ChangeAt Go.RowKit Go.Joins
set_option maxRecDepth 100000 in
set_option maxHeartbeats 1000000 in
theorem ins_size (l : List Hd) (w : World) (s : Value) (hS : InsAt w l s) :
    Calls Tryd.prog 26 #[s] w fun e w' => (∃ m : Int, e = .returned (.int .i64 m)) ∧ Below w.heap.size w w' := by
  obtain ⟨ao, cap, rfl, hlen, _, hok, hc⟩ := hS
  have HC := hid hc
  have HO := hid hok
  clear hc hok
  go_enter Tryd.func26, Tryd.ntmps26
  go_wp2
  go_loopw [3, 4] (fun n i wr => ∃ (z : Int) (k : Nat), k ≤ l.length ∧ n = .int .i64 z ∧ i = .int .i64 (k : Int) ∧ Hid (Below w.heap.size w wr)) (fun _ i _ => l.length - (intOf i).toNat)
  case atStart => exact ⟨_, 0, Nat.zero_le _, rfl, rfl, Below.refl _ _⟩
  case round =>
    obtain ⟨z, k, hk, rfl, rfl, hB⟩ := hrel
    by_cases hlt : k < l.length
    · have hlt' : (k : Int) < (l.length : Int) := by omega
      have hk0 : (0 : Int) ≤ (k : Int) := by omega
      by_cases hz : z ≤ 1048576
      · obtain ⟨b, o, rfl, hc⟩ := HC.out.resolve_left (by omega)
        obtain ⟨y0, y1, y2⟩ := (hc k hlt).keep hB.out
        clear hc
        generalize l[k] = y at *
        go_wp2
        go_roundw
        case rel => exact ⟨_, k + 1, by omega, rfl, by go_num, hB⟩
        case measure => simp [intOf]; omega
      · go_wp2
        go_ret
        exact ⟨⟨_, rfl⟩, hB.out⟩
    · have hlt' : ¬ (k : Int) < (l.length : Int) := by omega
      go_wp2
      go_ret
      exact ⟨⟨_, rfl⟩, hB.out⟩
set_option maxRecDepth 100000 in
set_option maxHeartbeats 1000000 in
theorem texts_size (l : List ByteArray) (w : World) (s : Value) (hS : TextsAt w l s) :
    Calls Tryd.prog 28 #[s] w fun e w' => (∃ m : Int, e = .returned (.int .i64 m)) ∧ Below w.heap.size w w' := by
  obtain ⟨ao, cap, rfl, hlen, _, hok, hc⟩ := hS
  have HC := hid hc
  have HO := hid hok
  clear hc hok
  go_enter Tryd.func28, Tryd.ntmps28
  go_wp2
  go_loopw [3, 4] (fun n i wr => ∃ (z : Int) (k : Nat), k ≤ l.length ∧ n = .int .i64 z ∧ i = .int .i64 (k : Int) ∧ Hid (Below w.heap.size w wr)) (fun _ i _ => l.length - (intOf i).toNat)
  case atStart => exact ⟨_, 0, Nat.zero_le _, rfl, rfl, Below.refl _ _⟩
  case round =>
    obtain ⟨z, k, hk, rfl, rfl, hB⟩ := hrel
    by_cases hlt : k < l.length
    · have hlt' : (k : Int) < (l.length : Int) := by omega
      have hk0 : (0 : Int) ≤ (k : Int) := by omega
      by_cases hz : z ≤ 1048576
      · obtain ⟨b, o, rfl, hc⟩ := HC.out.resolve_left (by omega)
        have y0 := cell_kept (hc k hlt) hB.out
        clear hc
        generalize l[k] = y at *
        go_wp2
        go_roundw
        case rel => exact ⟨_, k + 1, by omega, rfl, by go_num, hB⟩
        case measure => simp [intOf]; omega
      · go_wp2
        go_ret
        exact ⟨⟨_, rfl⟩, hB.out⟩
    · have hlt' : ¬ (k : Int) < (l.length : Int) := by omega
      go_wp2
      go_ret
      exact ⟨⟨_, rfl⟩, hB.out⟩
set_option maxRecDepth 100000 in
theorem flow_size (x : Fl) (w : World) (s : Value) (hok : x.ok) (hS : St w x.body s) :
    Calls Tryd.prog 38 #[flV x s] w fun e w' => (∃ m : Int, e = .returned (.int .i64 m)) ∧ Below w.heap.size w w' := by
  obtain ⟨ao, cap, sl, rfl, _⟩ := hS.out
  obtain ⟨hnm, _, _, _⟩ := hok
  have HS := hid hS
  clear hS
  by_cases hle : (1 : Int) + (x.name.size : Int) ≤ 1048576
  · go_enter Tryd.func38, Tryd.ntmps38
    go_wp2_with (go_at_call 6; refine (size_any _ x.body (Nat.le_refl _) _ _ (HS.out.keep ((Below.refl _ _).alloc (Nat.le_refl _) _))).mono ?_; rintro e w2 ⟨⟨m, rfl⟩, hb2⟩)
    go_ret
    exact ⟨⟨_, rfl⟩, bstep ((Below.refl _ _).alloc (Nat.le_refl _) _) hb2⟩
  · go_enter Tryd.func38, Tryd.ntmps38
    go_wp2
    go_ret
    exact ⟨⟨_, rfl⟩, (Below.refl _ _).alloc (Nat.le_refl _) _⟩
set_option maxRecDepth 100000 in
set_option maxHeartbeats 1000000 in
theorem flows_size (l : List Fl) (w : World) (s : Value) (hS : FlowsAt w l s) :
    Calls Tryd.prog 27 #[s] w fun e w' => (∃ m : Int, e = .returned (.int .i64 m)) ∧ Below w.heap.size w w' := by
  obtain ⟨ao, cap, sl, rfl, hlen, _, hok, hc, hs⟩ := hS
  have HC := hid hc
  have HO := hid hok
  have HS := hid hs
  clear hc hok hs
  go_enter Tryd.func27, Tryd.ntmps27
  go_wp2
  go_loopw [3, 4] (fun n i wr => ∃ (z : Int) (k : Nat), k ≤ l.length ∧ n = .int .i64 z ∧ i = .int .i64 (k : Int) ∧ Hid (Below w.heap.size w wr)) (fun _ i _ => l.length - (intOf i).toNat)
  case atStart => exact ⟨_, 0, Nat.zero_le _, rfl, rfl, Below.refl _ _⟩
  case round =>
    obtain ⟨z, k, hk, rfl, rfl, hB⟩ := hrel
    by_cases hlt : k < l.length
    · have hlt' : (k : Int) < (l.length : Int) := by omega
      have hk0 : (0 : Int) ≤ (k : Int) := by omega
      by_cases hz : z ≤ 1048576
      · obtain ⟨b, o, rfl, hc⟩ := HC.out.resolve_left (by omega)
        obtain ⟨y0, y1, y2, y3, y4, y5, y6, y7⟩ := (hc k hlt).keep hB.out
        have c := flow_size l[k] wr (sl k) (HO.out _ (List.getElem_mem hlt)) ((HS.out k hlt).keep hB.out)
        clear hc
        generalize l[k] = y at *
        go_wp2_with (go_at_call 38; refine c.mono ?_; rintro e w2 ⟨⟨m, rfl⟩, hb2⟩)
        go_roundw
        case rel => exact ⟨_, k + 1, by omega, rfl, by go_num, bstep hB.out hb2⟩
        case measure => simp [intOf]; omega
      · go_wp2
        go_ret
        exact ⟨⟨_, rfl⟩, hB.out⟩
    · have hlt' : ¬ (k : Int) < (l.length : Int) := by omega
      go_wp2
      go_ret
      exact ⟨⟨_, rfl⟩, hB.out⟩
set_option maxRecDepth 100000 in
set_option maxHeartbeats 1000000 in
theorem prog_size (p : Pg) (w : World) (a b c : Value) (hP : PgAt w p a b c) :
    Calls Tryd.prog 17 #[pgV p a b c] w fun e w' => (∃ m : Int, e = .returned (.int .i64 m)) ∧ Below w.heap.size w w' := by
  obtain ⟨a0, a1, rfl, _⟩ := hP.ins
  obtain ⟨b0, b1, _, rfl, _⟩ := hP.flows
  obtain ⟨c0, c1, rfl, _⟩ := hP.outs
  have B0 := hid ((Below.refl w.heap.size w).alloc (Nat.le_refl _) (.cells (pgC p (.slice a0 p.ins.length a1) (.slice b0 p.flows.length b1) (.slice c0 p.outs.length c1)) 26))
  have P0 := hid (hP.keep B0.out)
  have bx := fun j v => box_at w (pgC p (.slice a0 p.ins.length a1) (.slice b0 p.flows.length b1) (.slice c0 p.outs.length c1)) 26 j v
  have x1 := bx 1 _ rfl
  have x2 := bx 2 _ rfl
  have x3 := bx 3 _ rfl
  clear hP bx
  go_enter Tryd.func17, Tryd.ntmps17
  go_wp2_with (first
    | (go_at_call 26; refine (ins_size _ _ _ P0.out.ins).mono ?_; rintro e w1 ⟨⟨m1, rfl⟩, hb1⟩; have y2 := cell_kept x2 hb1; have y3 := cell_kept x3 hb1; have P1 := hid (P0.out.keep hb1); have B1 := hid (bstep B0.out hb1); clear x1 x2 x3 P0 hb1)
    | (go_at_call 27; refine (flows_size _ _ _ P1.out.flows).mono ?_; rintro e w2 ⟨⟨m2, rfl⟩, hb2⟩; have z3 := cell_kept y3 hb2; have P2 := hid (P1.out.keep hb2); have B2 := hid (bstep B1.out hb2); clear y2 y3 P1 hb2)
    | (go_at_call 28; refine (texts_size _ _ _ P2.out.outs).mono ?_; rintro e w3 ⟨⟨m3, rfl⟩, hb3⟩; have B3 := hid (bstep B2.out hb3); clear z3 P2 hb3))
  all_goals (go_ret; first | exact ⟨⟨_, rfl⟩, B3.out⟩ | exact ⟨⟨_, rfl⟩, B2.out⟩ | exact ⟨⟨_, rfl⟩, B1.out⟩)
/-- great returns yes or no; where it says no, the rows are short. -/
def GreatP (p : Pg) (e : Ending) : Prop := ∃ g : Bool, e = .returned (.bool g) ∧ (g = false → p.ins.length ≤ 300 ∧ p.flows.length ≤ 300 ∧ p.outs.length ≤ 1000)
end Go.Proofs.YtejacmgppnafcabDoor.Lex
namespace Go.Proofs.YtejacmgppnafcabDoor.Lex
open Go.ChangeShapes Go.WideShapes Go.ChangeAt Go.RowKit Go.Shelf
theorem row4 {W : World} {k : Nat} {st : Int} {A B C : Value} (h : W.heap[k]? = some (.cells #[.int .i64 st, A, B, C] 26 (0, 0))) : W.cell? ⟨k, 0, none⟩ = some (.int .i64 st) ∧ W.cell? ⟨k, 1, none⟩ = some A ∧ W.cell? ⟨k, 2, none⟩ = some B ∧ W.cell? ⟨k, 3, none⟩ = some C :=
  ⟨(cell_of_row _ _ _ _ 26 (0, 0) h).trans rfl, (cell_of_row _ _ _ _ 26 (0, 0) h).trans rfl, (cell_of_row _ _ _ _ 26 (0, 0) h).trans rfl, (cell_of_row _ _ _ _ 26 (0, 0) h).trans rfl⟩
theorem keep_row {W W' : World} {k : Nat} {o : Obj} (h : W.heap[k]? = some o) (hb : Below W.heap.size W W') : W'.heap[k]? = some o := (hb.block _ (Array.getElem?_eq_some_iff.1 h).1).trans h
/-- A program in its variable. -/
structure FV (w : World) (p : Pg) (A B C : Value) (W : World) : Prop where
  row : W.heap[w.heap.size]? = some (.cells (pgC p A B C) 26 (0, 0))
  P : PgAt W p A B C
  R : TabR W
  J : TabJ W
  below : Below w.heap.size w W
theorem FV.keep {w W W' : World} {p : Pg} {A B C : Value} (h : FV w p A B C W) (hb : Below W.heap.size W W') : FV w p A B C W' := ⟨keep_row h.row hb, h.P.keep hb, h.R.below hb, h.J.below hb, h.below.trans (hb.mono h.below.size)⟩
theorem FV.new {w : World} {p : Pg} {A B C : Value} (hP : PgAt w p A B C) (hR : TabR w) (hJ : TabJ w) : FV w p A B C (w.alloc (.cells (pgC p A B C) 26)) := by
  have hb := (Below.refl w.heap.size w).alloc (Nat.le_refl _) (.cells (pgC p A B C) 26)
  exact ⟨heap_alloc_new w _, hP.keep hb, hR.below hb, hJ.below hb, hb⟩
end Go.Proofs.YtejacmgppnafcabDoor.Lex
namespace Go.Proofs.YtejacmgppnafcabDoor.Lex
theorem name_eq (a b : ByteArray) : (a.toList == b.toList) = decide (b.data.toList = a.data.toList) := by
  rw [ByteArray.toList_eq, ByteArray.toList_eq]
  by_cases e : b.data.toList = a.data.toList
  · rw [decide_eq_true e, e]; simp
  · rw [decide_eq_false e]; simp; intro h; exact e (by rw [h])
theorem cntT_app (a b : List (Int × Hd)) (u : List UInt8) : cntT (a ++ b) u = cntT a u + cntT b u := by
  unfold cntT; rw [List.filter_append, List.length_append]
theorem free_of_none {l : List (Int × Hd)} {name : ByteArray} (h : cntT l name.data.toList = 0) : Free l name := fun x hx => by
  rw [name_eq]
  unfold cntT at h
  have h' := List.eq_nil_of_length_eq_zero h
  rw [List.filter_eq_nil_iff] at h'
  have := h' x hx
  simpa using this
theorem none_of_free {l : List (Int × Hd)} {name : ByteArray} (h : Free l name) : cntT l name.data.toList = 0 := by
  unfold cntT
  rw [List.length_eq_zero_iff, List.filter_eq_nil_iff]
  intro x hx
  have := h x hx
  rw [name_eq] at this
  simpa using this
/-- What is there once is found. -/
theorem find_once {l pre post : List (Int × Hd)} {x : Int × Hd} (hl : l = pre ++ x :: post) (h : ¬ 1 < cntT l x.2.name.data.toList) : findT l x.2.name = some x := by
  subst hl
  have h1 : cntT [x] x.2.name.data.toList = 1 := by simp [cntT]
  have h2 : x :: post = [x] ++ post := rfl
  rw [h2, cntT_app, cntT_app, h1] at h
  refine findT_some (pre := pre) ⟨post, by simp⟩ (free_of_none (by omega)) ?_
  simp
/-- What is there is found. -/
theorem find_some {l : List (Int × Hd)} {name : ByteArray} (h : cntT l name.data.toList ≠ 0) : ∃ x, findT l name = some x := by
  cases e : findT l name with
  | some x => exact ⟨x, rfl⟩
  | none =>
    refine (h (none_of_free fun x hx => ?_)).elim
    unfold findT at e
    rw [List.find?_eq_none] at e
    simpa using e x hx
theorem nmErr_zero {p : Pg} (h : nmErr p = 0) : pgOk p = true ∧ nmOk p = true := by
  unfold nmErr at h
  split at h
  · next h1 =>
    split at h
    · next h2 => exact ⟨h1, h2⟩
    · omega
  · omega
theorem once {p : Pg} (h : nmOk p = true) {x : Int × Hd} (hx : x ∈ thingsL p) : ¬ 1 < cntT (thingsL p) x.2.name.data.toList := by
  unfold nmOk at h
  simp only [Bool.and_eq_true, List.all_eq_true] at h
  have := h.1 x hx
  simpa [twice] using this
theorem find_in_ok {p : Pg} (h : nmOk p = true) (i : Nat) (hi : i < p.ins.length) : findT (thingsL p) p.ins[i].name = some (-1, p.ins[i]) := by
  have hl : thingsL p = (insL p).take i ++ (-1, p.ins[i]) :: ((insL p).drop (i + 1) ++ flowsL p) := by
    have := insL_succ p i hi
    unfold thingsL
    conv => lhs; rw [← List.take_append_drop (i + 1) (insL p), this]
    simp
  exact find_once (x := (-1, p.ins[i])) hl (once h (by rw [hl]; simp))
theorem find_flow_ok {p : Pg} (h : nmOk p = true) (i : Nat) (hi : i < p.flows.length) : findT (thingsL p) p.flows[i].name = some ((i : Int), p.flows[i].hd) := by
  have hl : thingsL p = (insL p ++ (flowsL p).take i) ++ ((i : Int), p.flows[i].hd) :: (flowsL p).drop (i + 1) := by
    have := flowsL_succ p i hi
    unfold thingsL
    conv => lhs; rw [← List.take_append_drop (i + 1) (flowsL p), this]
    simp
  exact find_once (x := ((i : Int), p.flows[i].hd)) hl (once h (by rw [hl]; simp))
theorem find_asked_ok {p : Pg} (h : nmOk p = true) {s : ByteArray} (hs : s ∈ askedL p) : ∃ x, findT (thingsL p) s = some x := by
  unfold nmOk at h
  simp only [Bool.and_eq_true, List.all_eq_true] at h
  have := h.2.1 s hs
  exact find_some (by simpa [none_] using this)
theorem find_out_ok {p : Pg} (h : nmOk p = true) {s : ByteArray} (hs : s ∈ p.outs) : ∃ x, findT (thingsL p) s = some x := by
  unfold nmOk at h
  simp only [Bool.and_eq_true, List.all_eq_true] at h
  have := h.2.2 s hs
  refine find_some ?_
  simp [none_] at this
  exact this.1
theorem asked_mem {p : Pg} {i : Nat} (hi : i < p.flows.length) {k : Nat} (hk : k < (gat 32 p.flows[i].body 0 []).length) : (gat 32 p.flows[i].body 0 [])[k].1 ∈ askedL p :=
  List.mem_flatMap.2 ⟨p.flows[i], List.getElem_mem hi, List.mem_map.2 ⟨_, List.getElem_mem hk, rfl⟩⟩
end Go.Proofs.YtejacmgppnafcabDoor.Lex
namespace Go.Proofs.YtejacmgppnafcabDoor.Lex
/-- The names of the things, in their order. -/
def namesOf (p : Pg) : List ByteArray := p.ins.map (·.name) ++ p.flows.map (·.name)
theorem things_names (p : Pg) : (thingsL p).map (fun x => x.2.name) = namesOf p := by
  unfold thingsL namesOf
  rw [List.map_append]
  congr 1
  · unfold insL; rw [List.map_map]; rfl
  · apply List.ext_getElem
    · simp [flowsL]
    · intro i h1 h2
      have hi : i < p.flows.length := by simpa using h2
      simp [flowsL, hi, Fl.hd]
/-- How many of them have the name. -/
def cntN (l : List ByteArray) (u : List UInt8) : Nat := (l.filter fun s => decide (u = s.data.toList)).length
theorem cntT_names (p : Pg) (u : List UInt8) : cntT (thingsL p) u = cntN (namesOf p) u := by
  rw [← things_names]
  unfold cntT cntN
  rw [List.filter_map, List.length_map]
  rfl
theorem all_names (p : Pg) (f : ByteArray → Bool) : (thingsL p).all (fun x => f x.2.name) = (namesOf p).all f := by
  rw [← things_names, List.all_map]
  rfl
theorem cntN_perm {l l' : List ByteArray} (h : l.Perm l') (u : List UInt8) : cntN l u = cntN l' u := (h.filter _).length_eq
theorem all_perm {α : Type} {l l' : List α} (h : l.Perm l') (f : α → Bool) : l.all f = l'.all f := by
  rw [Bool.eq_iff_iff, List.all_eq_true, List.all_eq_true]
  exact ⟨fun k x hx => k x (h.mem_iff.2 hx), fun k x hx => k x (h.mem_iff.1 hx)⟩
/-- With its flows in another order. -/
theorem nmOk_perm {p q : Pg} (hi : q.ins = p.ins) (ho : q.outs = p.outs) (hf : q.flows.Perm p.flows) : nmOk q = nmOk p := by
  have hn : (namesOf q).Perm (namesOf p) := by unfold namesOf; rw [hi]; exact (hf.map _).append_left _
  have hc : ∀ u, cntT (thingsL q) u = cntT (thingsL p) u := fun u => by rw [cntT_names, cntT_names]; exact cntN_perm hn u
  have h1 : ∀ s, twice q s = twice p s := fun s => by unfold twice; rw [hc]
  have h2 : ∀ s, none_ q s = none_ p s := fun s => by unfold none_; rw [hc]
  have h3 : ∀ s, told q s = told p s := fun s => by unfold told; rw [ho]
  have ha : (askedL q).Perm (askedL p) := by unfold askedL; exact hf.flatMap_right _
  unfold nmOk
  rw [all_names q (fun s => !twice q s), all_names p (fun s => !twice p s)]
  simp only [h1, h2, h3]
  rw [all_perm hn, all_perm ha, ho]
theorem pgOk_perm {p q : Pg} (hs : q.st = p.st) (hi : q.ins = p.ins) (ho : q.outs = p.outs) (hf : q.flows.Perm p.flows) : pgOk q = pgOk p := by
  unfold pgOk roomOk
  rw [hs, hi, ho, hf.length_eq, all_perm hf]
theorem nmErr_perm {p q : Pg} (hs : q.st = p.st) (hi : q.ins = p.ins) (ho : q.outs = p.outs) (hf : q.flows.Perm p.flows) : nmErr q = nmErr p := by
  unfold nmErr
  rw [pgOk_perm hs hi ho hf, nmOk_perm hi ho hf]
end Go.Proofs.YtejacmgppnafcabDoor.Lex
namespace Go.Proofs.YtejacmgppnafcabDoor.Lex
theorem cntN_app (a b : List ByteArray) (u : List UInt8) : cntN (a ++ b) u = cntN a u + cntN b u := by
  unfold cntN; rw [List.filter_append, List.length_append]
theorem cntN_cons (s : ByteArray) (l : List ByteArray) (u : List UInt8) : cntN (s :: l) u = (if u = s.data.toList then 1 else 0) + cntN l u := by
  unfold cntN
  by_cases e : u = s.data.toList
  · simp [e]; omega
  · simp [e]
theorem nmOk_parts {p : Pg} : nmOk p = true ↔ (∀ s ∈ namesOf p, ¬ 1 < cntN (namesOf p) s.data.toList) ∧ (∀ s ∈ askedL p, cntN (namesOf p) s.data.toList ≠ 0) ∧ (∀ s ∈ p.outs, cntN (namesOf p) s.data.toList ≠ 0 ∧ ¬ 1 < cntO p.outs s.data.toList) := by
  unfold nmOk
  rw [all_names p (fun s => !twice p s)]
  simp only [Bool.and_eq_true, List.all_eq_true]
  unfold twice none_ told
  simp only [cntT_names]
  simp
/-- Without its outs. -/
theorem less_outs {p : Pg} (hp : pgOk p = true) (hn : nmOk p = true) : nmErr { p with outs := [] } = 0 := by
  have h1 : pgOk { p with outs := [] } = true := by
    unfold pgOk roomOk at hp ⊢
    simp only [Bool.and_eq_true, decide_eq_true_eq, List.all_nil, List.length_nil, and_true] at hp ⊢
    exact ⟨⟨hp.1.1, hp.1.2.1, hp.1.2.2.1, by omega⟩, hp.2.1, hp.2.2.1⟩
  have h2 : nmOk { p with outs := [] } = true := by
    rw [nmOk_parts] at hn ⊢
    exact ⟨hn.1, hn.2.1, fun s hs => by cases hs⟩
  unfold nmErr
  rw [h1, h2]; rfl
/-- With a flow that is there twice. -/
theorem twice_flow {p : Pg} (hp : pgOk p = true) (k : Nat) (hk : k < p.flows.length) : nmErr { p with flows := p.flows ++ [p.flows[k]] } = if p.flows.length + 1 ≤ 128 then 6 else 1 := by
  have h2 : nmOk { p with flows := p.flows ++ [p.flows[k]] } = false := by
    cases e : nmOk { p with flows := p.flows ++ [p.flows[k]] } with
    | false => rfl
    | true =>
      rw [nmOk_parts] at e
      have hm : p.flows[k].name ∈ namesOf { p with flows := p.flows ++ [p.flows[k]] } := by unfold namesOf; simp
      have h := e.1 _ hm
      refine (h ?_).elim
      unfold namesOf
      simp only [List.map_append, List.map_cons, List.map_nil]
      rw [cntN_app, cntN_app, cntN_cons]
      have hin : p.flows[k].name ∈ p.flows.map (·.name) := List.mem_map.2 ⟨_, List.getElem_mem hk, rfl⟩
      have : 1 ≤ cntN (p.flows.map (·.name)) p.flows[k].name.data.toList := by
        unfold cntN
        exact List.length_pos_of_mem (List.mem_filter.2 ⟨hin, by simp⟩)
      simp
      omega
  unfold nmErr
  rw [h2]
  have h1 : pgOk { p with flows := p.flows ++ [p.flows[k]] } = decide (p.flows.length + 1 ≤ 128) := by
    rw [Bool.eq_iff_iff, decide_eq_true_eq]
    unfold pgOk roomOk at hp ⊢
    simp only [Bool.and_eq_true, decide_eq_true_eq, List.all_append, List.length_append, List.length_cons, List.length_nil, List.all_cons, List.all_nil, and_true] at hp ⊢
    constructor
    · intro h; exact h.1.2.2.1
    · intro h
      exact ⟨⟨hp.1.1, hp.1.2.1, by omega, by omega⟩, hp.2.1, ⟨hp.2.2.1, List.all_eq_true.1 hp.2.2.1 _ (List.getElem_mem hk)⟩, hp.2.2.2⟩
  rw [h1]
  by_cases hh : p.flows.length + 1 ≤ 128
  · simp [hh]
  · simp [hh]
theorem erase_perm {α : Type} (l : List α) (k : Nat) (hk : k < l.length) : l.Perm (l[k] :: (l.take k ++ l.drop (k + 1))) := by
  have h : l = l.take k ++ l[k] :: l.drop (k + 1) := by
    conv => lhs; rw [← List.take_append_drop k l, List.drop_eq_getElem_cons hk]
  conv => lhs; rw [h]
  exact List.perm_middle
/-- Without its outs, and without a flow: it is checked just if nobody asks for that. -/
theorem less_flow {p : Pg} (hp : pgOk p = true) (hn : nmOk p = true) (k : Nat) (hk : k < p.flows.length) :
    nmErr { p with flows := p.flows.take k ++ p.flows.drop (k + 1), outs := [] } = if (p.flows.take k ++ p.flows.drop (k + 1)).all (fun f => (asksOf f).all fun s => !decide (p.flows[k].name.data.toList = s.data.toList)) then 0 else 6 := by
  have hperm := erase_perm p.flows k hk
  have hsub : ∀ f ∈ p.flows.take k ++ p.flows.drop (k + 1), f ∈ p.flows := fun f hf => hperm.mem_iff.2 (List.mem_cons_of_mem _ hf)
  have hlen := hperm.length_eq
  simp only [List.length_cons] at hlen
  have hc : ∀ u, cntN (namesOf p) u = (if u = p.flows[k].name.data.toList then 1 else 0) + cntN (namesOf { p with flows := p.flows.take k ++ p.flows.drop (k + 1), outs := [] }) u := fun u => by
    unfold namesOf
    rw [cntN_app, cntN_perm (hperm.map _) u, List.map_cons, cntN_cons, cntN_app]
    dsimp only
    omega
  generalize p.flows.take k ++ p.flows.drop (k + 1) = l at *
  have h1 : pgOk { p with flows := l, outs := [] } = true := by
    unfold pgOk roomOk at hp ⊢
    simp only [Bool.and_eq_true, decide_eq_true_eq, List.all_nil, List.length_nil, and_true, List.all_eq_true] at hp ⊢
    exact ⟨⟨hp.1.1, hp.1.2.1, by omega, by omega⟩, hp.2.1, fun f hf => hp.2.2.1 f (hsub f hf)⟩
  have h2 : nmOk { p with flows := l, outs := [] } = l.all (fun f => (asksOf f).all fun s => !decide (p.flows[k].name.data.toList = s.data.toList)) := by
    rw [nmOk_parts] at hn
    rw [Bool.eq_iff_iff, nmOk_parts]
    simp only [List.all_eq_true]
    have hmem : ∀ s ∈ namesOf { p with flows := l, outs := [] }, s ∈ namesOf p := fun s hs => by
      unfold namesOf at hs ⊢
      rcases List.mem_append.1 hs with hs | hs
      · exact List.mem_append_left _ hs
      · obtain ⟨f, hf, rfl⟩ := List.mem_map.1 hs
        exact List.mem_append_right _ (List.mem_map.2 ⟨f, hsub f hf, rfl⟩)
    have hask : ∀ f ∈ l, ∀ s ∈ asksOf f, s ∈ askedL p := fun f hf s hs => List.mem_flatMap.2 ⟨f, hsub f hf, hs⟩
    constructor
    · intro h f hf s hs
      have h3 := h.2.1 s (List.mem_flatMap.2 ⟨f, hf, hs⟩)
      have h4 := hc s.data.toList
      have h5 : ¬ p.flows[k].name.data.toList = s.data.toList := fun e => by
        rw [← e] at h3 h4
        rw [if_pos rfl] at h4
        have := hn.1 p.flows[k].name (by unfold namesOf; exact List.mem_append_right _ (List.mem_map.2 ⟨_, List.getElem_mem hk, rfl⟩))
        omega
      simp [h5]
    · intro h
      refine ⟨fun s hs => ?_, fun s hs => ?_, fun s hs => by cases hs⟩
      · have h3 := hn.1 s (hmem s hs)
        have h4 := hc s.data.toList
        omega
      · obtain ⟨f, hf, hs⟩ := List.mem_flatMap.1 hs
        have h3 := hn.2.1 s (hask f hf s hs)
        have h4 := hc s.data.toList
        have h5 := h f hf s hs
        simp only [Bool.not_eq_true', decide_eq_false_iff_not] at h5
        rw [if_neg (fun e => h5 e.symm)] at h4
        omega
  unfold nmErr
  rw [h1, h2]; rfl
end Go.Proofs.YtejacmgppnafcabDoor.Lex
