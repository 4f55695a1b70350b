/-
  What is asked for, gathered: the contract of the closure of Refs.
-/
import Derived.Test.YtkieljleopbhoaaDoorGat
import Derived.Deep.Cut
import Derived.Test.YtkieljleopbhoaaDoorParse
namespace Go.Proofs.YtkieljleopbhoaaDoor.Lex
open Go.ChangeShapes Go.WideShapes Go.ChangeAt Go.RowKit Go.Joins Go.WideMaps Go.WideElems Go.Maps
def GatC (k : Nat) : Prop := ∀ (x : Ex) (s : Value) (ago : Nat) (w0 W : World) (bs bl bg mb b0 N : Nat) (acc : List Rf), St w0 x s → NmOk k x → ago + k ≤ 1099511627776 → N + cnt k x ≤ 1099511627776 → GI w0 bs bl bg mb b0 acc acc N W →
  Calls Tryd.prog 37 #[exV x s, .int .i64 (ago : Int), ptr bs, ptr bl, ptr bg] W fun e w' => e = .returned (.tuple #[]) ∧ GI w0 bs bl bg mb b0 (gat k x ago acc) (gat k x ago acc) (N + cnt k x) w'
def accAt (k : Nat) (x : Ex) (ago : Nat) (acc : List Rf) (i : Nat) : List Rf := (x.args.take i).foldl (fun acc y => gat k y (nextAgo x ago) acc) (ownRefs x ago acc)
def cntAt (k : Nat) (x : Ex) (i : Nat) : Nat := (x.args.take i).foldl (fun n y => n + cnt k y) 1
theorem accAt_succ {k : Nat} {x : Ex} {ago : Nat} {acc : List Rf} {j : Nat} (h : j < x.args.length) : accAt k x ago acc (j + 1) = gat k x.args[j] (nextAgo x ago) (accAt k x ago acc j) := by
  unfold accAt
  rw [List.take_add_one, List.getElem?_eq_getElem h, Option.toList_some, List.foldl_append]
  rfl
theorem cntAt_succ {k : Nat} {x : Ex} {j : Nat} (h : j < x.args.length) : cntAt k x (j + 1) = cntAt k x j + cnt k x.args[j] := by
  unfold cntAt
  rw [List.take_add_one, List.getElem?_eq_getElem h, Option.toList_some, List.foldl_append]
  rfl
theorem cntAt_le (k : Nat) (x : Ex) : ∀ (n j : Nat), j + n = x.args.length → cntAt k x j ≤ cntAt k x x.args.length
  | 0, j, h => by rw [← h, Nat.add_zero]; exact Nat.le_refl _
  | n + 1, j, h => by
    have h1 := cntAt_le k x n (j + 1) (by omega)
    rw [cntAt_succ (by omega)] at h1
    omega
theorem foldl_ge (f : Ex → Nat) : ∀ (l : List Ex) (n : Nat), n ≤ l.foldl (fun n y => n + f y) n
  | [], _ => Nat.le_refl _
  | a :: l, n => Nat.le_trans (Nat.le_add_right n (f a)) (foldl_ge f l (n + f a))
theorem cnt_pos (k : Nat) (x : Ex) : 1 ≤ cnt k x := by
  cases k with
  | zero => exact Nat.le_refl _
  | succ k => exact foldl_ge (cnt k) x.args 1

theorem nextAgo_le (x : Ex) (ago : Nat) : nextAgo x ago ≤ ago + 1 := by unfold nextAgo; split <;> omega
theorem own_slice {w : World} {base e size n : Nat} {v : Value} {xs : List Value} (h : w.ownsRow base e size v (n + 1) xs) : ∃ g c, v = .slice (some ⟨g, 0, none⟩) (n + 1) c := by
  rcases h.2 with ⟨_, h0⟩ | ⟨g, cap, cur, rfl, _⟩
  · omega
  · exact ⟨g, cap, rfl⟩
theorem inf51 : ∃ ie, Tryd.prog.info? 51 = some ie ∧ ie.zero = some (.agg #[.string ByteArray.empty, .int .i64 0]) ∧ ie.size = 2 := by
  have h : (Tryd.prog.info? 51).map (fun i => (i.zero, i.size)) = some (some (.agg #[.string ByteArray.empty, .int .i64 0]), 2) := by kernel_rfl
  obtain ⟨ie, h1, h2⟩ := Option.map_eq_some_iff.1 h
  injection h2 with h2 h3
  exact ⟨ie, h1, h2, h3⟩
theorem fill51 (r : Rf) : Instr.fill (fun i => some (i * 2, 2)) ((Array.range (1 * 2)).map ((Value.agg #[.string ByteArray.empty, .int .i64 0]).cells[· % (Value.agg #[.string ByteArray.empty, .int .i64 0]).cells.size]!)) [(0, rKey r)] = some (rV r) := by
  have e : ((Array.range (1 * 2)).map ((Value.agg #[.string ByteArray.empty, .int .i64 0]).cells[· % (Value.agg #[.string ByteArray.empty, .int .i64 0]).cells.size]!)) = #[.string ByteArray.empty, .int .i64 0] := by kernel_rfl
  rw [e]
  simp [Instr.fill]
  exact ⟨⟨rfl, Nat.le_refl 2⟩, rfl⟩
theorem two_new (w : World) (x y : Value) : ∀ j u, [x, y][j]? = some u → (w.alloc (.cells #[x, y] 51)).cell? ((⟨w.heap.size, 0, none⟩ : Addr).add j) = some u := by
  intro j u hj
  have hadd : (⟨w.heap.size, 0, none⟩ : Addr).add j = ⟨w.heap.size, j, none⟩ := by unfold Addr.add; split <;> simp_all
  rw [hadd, World.cell?_alloc_at _ _ _ _ rfl]
  rcases j with _ | _ | j
  · simpa using hj
  · simpa using hj
  · simp at hj
set_option maxRecDepth 100000 in
set_option maxHeartbeats 2000000 in
theorem gather_of (k : Nat) (ih : GatC k) : GatC (k + 1) := by
  intro x s ago w0 W bs bl bg mb b0 N acc hS hNm hago hN hG
  obtain ⟨ao, cap, sl, rfl, hop, hn, hnm, hlen, hcap, hc, hs⟩ := hS.out
  have b5 := (Below.refl W.heap.size W).alloc (Nat.le_refl _) (.cells (ex4 x (.slice ao x.args.length cap)) 25)
  have X5 := heap_alloc_new W (.cells (ex4 x (.slice ao x.args.length cap)) 25)
  have G5 := hid (hG.step b5)
  have hG0 := hG
  obtain ⟨y0, y1, y2, y3⟩ : (W.alloc (.cells (ex4 x (.slice ao x.args.length cap)) 25)).cell? ⟨W.heap.size, 0, none⟩ = some (.int .u8 (x.op : Int)) ∧ (W.alloc (.cells (ex4 x (.slice ao x.args.length cap)) 25)).cell? ⟨W.heap.size, 1, none⟩ = some (.int .i64 x.n) ∧ (W.alloc (.cells (ex4 x (.slice ao x.args.length cap)) 25)).cell? ⟨W.heap.size, 2, none⟩ = some (.string x.name) ∧ (W.alloc (.cells (ex4 x (.slice ao x.args.length cap)) 25)).cell? ⟨W.heap.size, 3, none⟩ = some (.slice ao x.args.length cap) := by
    refine ⟨?_, ?_, ?_, ?_⟩ <;> (rw [cell_of_row _ _ _ _ 25 (0, 0) X5]; rfl)
  go_enter Tryd.func37, Tryd.ntmps37
  refine wp_seq_k fun K0 hK0 => ?_
  have HK0 := hid hK0
  clear hK0
  go_wp2
  refine HK0.out _ _ ?_
  clear HK0 K0
  refine wp_seq_k fun K1 hK1 => ?_
  go_cut [1] from 6 (fun ag Wc => ag = .int .i64 (nextAgo x ago : Int) ∧ Hid (GI w0 bs bl bg mb b0 (ownRefs x ago acc) (ownRefs x ago acc) (N + 1) Wc) ∧ Hid (Wc.heap[W.heap.size]? = some (.cells (ex4 x (.slice ao x.args.length cap)) 25 (0, 0))))
  case rest =>
    obtain ⟨rfl, hGc, hXc⟩ := hcut
    have HC := hid hc
    have HS := hid hs
    have HNM := hid hNm
    have z3 : wc.cell? ⟨W.heap.size, 3, none⟩ = some (.slice ao x.args.length cap) := by rw [cell_of_row _ _ _ _ 25 (0, 0) hXc.out]; rfl
    have hg0 : accAt k x ago acc 0 = ownRefs x ago acc := by simp [accAt]
    have hc0 : cntAt k x 0 = 1 := by simp [cntAt]
    have G0 : Hid (GI w0 bs bl bg mb b0 (accAt k x ago acc 0) (accAt k x ago acc 0) (N + cntAt k x 0) wc) := by rw [hg0, hc0]; exact hGc
    have END : Hid (accAt k x ago acc x.args.length = gat (k + 1) x ago acc ∧ cntAt k x x.args.length = cnt (k + 1) x) := hid (by unfold accAt cntAt; rw [List.take_length]; exact ⟨rfl, rfl⟩)
    have HA := hid hago
    have HN := hid hN
    clear hG hG0 b5 X5 G5 y0 y1 y2 y3 hc hs hNm hGc hXc hg0 hc0 hS hago hN hop hn hnm hcap
    refine hK1 _ _ ?_
    clear hK1 K1
    go_wp2
    go_loopw [40] (fun i wr => ∃ j : Nat, j ≤ x.args.length ∧ i = .int .i64 (j : Int) ∧ Hid (GI w0 bs bl bg mb b0 (accAt k x ago acc j) (accAt k x ago acc j) (N + cntAt k x j) wr)) (fun i _ => x.args.length - (intOf i).toNat)
    case atStart => exact ⟨0, Nat.zero_le _, rfl, G0⟩
    case round =>
      obtain ⟨j, hj, rfl, hGj⟩ := hrel
      by_cases hlt : j < x.args.length
      · have hlt' : (j : Int) < (x.args.length : Int) := by omega
        have hj0 : (0 : Int) ≤ (j : Int) := by omega
        obtain ⟨bb, o, rfl, hcc⟩ := HC.out.resolve_left (by omega)
        obtain ⟨a0, a1, a2, a3⟩ := hcc j hlt
        have v0 := cell_kept a0 hGj.out.below
        have v1 := cell_kept a1 hGj.out.below
        have v2 := cell_kept a2 hGj.out.below
        have v3 := cell_kept a3 hGj.out.below
        have hst := HS.out j hlt
        have hnm := HNM.out.2 _ (List.getElem_mem hlt)
        have E1 := hid (accAt_succ (k := k) (ago := ago) (acc := acc) hlt)
        have E2 := hid (cntAt_succ (k := k) hlt)
        have hle := cntAt_le k x (x.args.length - (j + 1)) (j + 1) (by omega)
        rw [END.out.2, E2.out] at hle
        have hna := nextAgo_le x ago
        have HAo := HA.out
        have HNo := HN.out
        generalize x.args[j] = y at *
        clear a0 a1 a2 a3 hcc
        generalize sl j = sv at *
        obtain ⟨a3, c3, _, rfl, _⟩ := hst.out
        have b1 := (Below.refl wr.heap.size wr).alloc (Nat.le_refl _) (.cells (ex4 y (.slice a3 y.args.length c3)) 25)
        have G1 := hGj.out.step b1
        have q4 : (wr.alloc (.cells (ex4 y (.slice a3 y.args.length c3)) 25)).cell? ⟨bg, 0, none⟩ = some (.func (.func 37) #[] #[ptr bs, ptr bl, ptr bg]) := by rw [cell_of_row _ _ _ _ 75 (0, 0) G1.self]; rfl
        have c := ih y _ (nextAgo x ago) w0 _ bs bl bg mb b0 _ _ hst hnm (by omega) (by omega) G1
        clear hst hnm hle hna HAo HNo G1 b1 ih
        generalize nextAgo x ago = ag at *
        go_wp2_with (go_at_call 37; refine c.mono ?_; rintro e w4 ⟨rfl, g4⟩; have G4 := hid g4; clear g4 c)
        go_roundw
        case rel => exact ⟨j + 1, by omega, by go_num, by rw [E1.out, E2.out, ← Nat.add_assoc]; exact G4⟩
        case measure => simp [intOf]; omega
      · have hlt' : ¬ (j : Int) < (x.args.length : Int) := by omega
        obtain rfl : j = x.args.length := by omega
        go_wp2
        refine bodyPost_end (by simp [results]) rfl ⟨rfl, ?_⟩
        have h := hGj.out
        rw [END.out.1, END.out.2] at h
        exact h
  case first =>
    have HW := hid (Array.getElem?_eq_some_iff.1 X5).1
    have X5h := hid X5
    by_cases h3 : x.op = 3
    · have NA : Hid (nextAgo x ago = ago) := hid (by unfold nextAgo; rw [if_neg (by omega)])
      have hop3 : ((x.op : Int) == 3) = true := by simp [h3]
      have hcl := fun V => clone x.name V hNm.1
      have hrok : RfOk (x.name, ago) := ⟨hNm.1, by show ago ≤ _; omega⟩
      have OWN0 : Hid (ownRefs x ago acc = addR acc (x.name, ago)) := hid (by unfold ownRefs; rw [if_pos h3])
      obtain ⟨i0, hi, hi0, hi1, hi2⟩ := info_parts i51
      have HNs := hid hN
      have H3 := hid h3
      clear ih hc hs hS hG b5 X5 hop hn hnm hlen hcap hago hN hNm h3 hK1
      go_wp2_with (go_at_call 38; refine (hcl _).mono ?_; rintro e w2 ⟨rfl, b2⟩; have B2 := hid b2; clear b2 hcl)
      have b3 := (Below.refl w2.heap.size w2).alloc (Nat.le_refl _) (.cells #[.string x.name, .int .i64 (ago : Int)] 51)
      have b23 := bstep B2.out b3
      have G3 := (G5.out.step b23).step (show Below _ (w2.alloc (.cells #[.string x.name, .int .i64 (ago : Int)] 51)) (w2.alloc (.cells #[.string x.name, .int .i64 (ago : Int)] 51)).drew from below_drewN (Below.refl _ _) 1)
      have X3 := heap_alloc_new w2 (.cells #[.string x.name, .int .i64 (ago : Int)] 51)
      have XB0 : (w2.alloc (.cells #[.string x.name, .int .i64 (ago : Int)] 51)).drew.heap[W.heap.size]? = some (.cells (ex4 x (.slice ao x.args.length cap)) 25 (0, 0)) := (b23.block _ HW.out).trans X5h.out
      have hlt2 : w2.heap.size < (w2.alloc (.cells #[.string x.name, .int .i64 (ago : Int)] 51)).drew.heap.size := (Array.getElem?_eq_some_iff.1 X3).1
      have hw2 : (W.alloc (.cells (ex4 x (.slice ao x.args.length cap)) 25)).heap.size ≤ w2.heap.size := B2.out.size
      obtain ⟨o1, o2, o3, o4, o5, o6, o7, o8, o9⟩ := G5.out.ord
      have hmb2 : w2.heap.size ≠ mb := by omega
      have hmbW : W.heap.size ≠ mb := by have := hG0.ord.2.2.2.2.2.2.2; omega
      obtain ⟨c, W1, W2, born, hcN, hc0, l0, m1, l1, s1, l2, M2, g1, g2⟩ := G3.map.bump (by have := HNs.out; have := cnt_pos (k + 1) x; omega) hrok
      simp only [rKey, rV] at l0 m1 l1 s1 l2
      have k1 : ∀ {b o}, (w2.alloc (.cells #[.string x.name, .int .i64 (ago : Int)] 51)).drew.heap[b]? = some o → b ≠ mb → W1.heap[b]? = some o := fun {b o} e hne => kept0 e g1 hne
      have k2 : ∀ {b o}, W1.heap[b]? = some o → b ≠ mb → W2.heap[b]? = some o := fun {b o} e hne => kept0 e g2 hne
      have n3 := hG0.ne.2.2.1
      have sS : ∀ {V : World}, V.heap[bs]? = some (.cells #[.map (some mb)] 74 (0, 0)) → V.heap[w2.heap.size]? = some (.cells #[.string x.name, .int .i64 (ago : Int)] 51 (0, 0)) → V.cell? ⟨bs, 0, none⟩ = some (.map (some mb)) ∧ V.cell? ⟨w2.heap.size, 0, none⟩ = some (.string x.name) ∧ V.cell? ⟨w2.heap.size, 1, none⟩ = some (.int .i64 (ago : Int)) := fun {V} e1 e2 => ⟨(cell_of_row _ _ _ _ 74 (0, 0) e1).trans rfl, (cell_of_row _ _ _ _ 51 (0, 0) e2).trans rfl, (cell_of_row _ _ _ _ 51 (0, 0) e2).trans rfl⟩
      have S0 := sS (V := (w2.alloc (.cells #[.string x.name, .int .i64 (ago : Int)] 51)).drew) G3.seen X3
      have S1 := sS (k1 G3.seen n3) (k1 (b := w2.heap.size) X3 hmb2)
      have S2 := sS (k2 (k1 G3.seen n3) n3) (k2 (k1 (b := w2.heap.size) X3 hmb2) hmb2)
      have XB := hid (k2 (k1 XB0 hmbW) hmbW)
      have GP := hid (G3.count (grown_on g1 g2) M2 (Nat.le_succ N))
      obtain ⟨lv0, hv0, hr0⟩ := hG0.list
      obtain ⟨lv, hv, hr⟩ := GP.out.list
      have hv1 : W2.heap[bl]? = some (.cells #[lv0] 47 (0, 0)) := k2 (k1 ((b23.block bl (Nat.lt_of_lt_of_le (Array.getElem?_eq_some_iff.1 hv0).1 (by simp))).trans ((Below.heap_alloc _ _ _ (Array.getElem?_eq_some_iff.1 hv0).1).trans hv0)) hG0.ne.2.2.2.2.1) hG0.ne.2.2.2.2.1
      rw [hv1] at hv
      injection hv with hv
      injection hv with hv _ _
      simp only [Array.mk.injEq, List.cons.injEq, and_true] at hv
      subst hv
      have hv := hv1
      have NEB : Hid (some W.heap.size ≠ lv0.ownBlock) := hid (fun e => by have := (hr0.lt _ e.symm).2; omega)
      have NB : Hid (W.heap.size ≠ bl) := hid (by have := (Array.getElem?_eq_some_iff.1 hv0).1; omega)
      have HV := hid hv
      have HR := hid hr
      have lbl : W2.cell? ⟨bl, 0, none⟩ = some lv0 := (cell_of_row _ _ _ _ 47 (0, 0) hv).trans rfl
      have FEW : Hid (acc.length ≤ N) := hid hG0.few
      have CN := hid hcN
      have S2c := S2
      obtain ⟨s20, s21, s22⟩ := S2c
      have hcB : (c : Int) ≤ 1099511627776 := by have := HNs.out; omega
      clear G3 X3 b3 b23 XB0 M2 g1 g2 k1 k2 hv hv0 hv1 hr0 hr sS hrok hcN
      cases hin : rIn acc (x.name, ago) with
      | false =>
        obtain rfl : c = 0 := hc0.2 hin
        have OWN : Hid (ownRefs x ago acc = acc ++ [(x.name, ago)]) := hid (by rw [OWN0.out]; unfold addR; rw [hin]; rfl)
        simp only [show ((0 : Nat) : Int) = 0 from rfl, Int.zero_add] at l0 m1 l1 s1 l2
        have hw1 : IntKind.i64.wrap 1 = 1 := by decide
        have b7 := (Below.refl W2.heap.size W2).alloc (Nat.le_refl _) (.cells #[.string x.name, .int .i64 (ago : Int)] 51)
        have eadd : addR acc (x.name, ago) = acc ++ [(x.name, ago)] := by unfold addR; rw [hin]; rfl
        have GP7h := GP.out.step b7
        rw [eadd] at GP7h
        have GP7 := hid GP7h
        clear GP7h eadd
        have HV7 := hid ((b7.block _ (Array.getElem?_eq_some_iff.1 HV.out).1).trans HV.out)
        have HR7 := hid (ownsRow_below HR.out b7)
        have XB7 := hid ((b7.block _ (Array.getElem?_eq_some_iff.1 XB.out).1).trans XB.out)
        have LTB := hid (Array.getElem?_eq_some_iff.1 XB7.out).1
        have FEW2 : Hid (acc.length + 1 ≤ N + 1) := hid (Nat.succ_le_succ FEW.out)
        have ORD := hid (GP7.out.ord.2.2.2.2.2.2.2.2)
        have FEW : Hid (acc.length + 1 ≤ 1099511627776) := hid (by have := FEW.out; have := HNs.out; have := cnt_pos (k + 1) x; omega)
        clear b7
        refine wp_region_held_drew (S := fun V => V.cell? ⟨bs, 0, none⟩ = some (.map (some mb)) ∧ V.cell? ⟨w2.heap.size, 0, none⟩ = some (.string x.name) ∧ V.cell? ⟨w2.heap.size, 1, none⟩ = some (.int .i64 (ago : Int))) (by kernel_rfl) ?_ (fun hHeld => ?_)
        · exact S0
        refine wpAnyH_take (i := 0) (oi := { dst := some 19, op := Go.Op.load 74 (Go.Operand.tmp 2), type := 74, pos := _, after := #[], guard := none }) (v := ?_) rfl (by kernel_rfl) (by kernel_rfl) (by kernel_rfl) (fun _ _ _ h => h) (Or.inl ⟨by rfl, ?_⟩) (by assumption) ?_
        rotate_left
        · intro w hSw; (try dsimp only at hSw); go_simp <;> with_reducible rfl
        simp only [Act.put, List.setIfInBounds_toArray, List.set_cons_zero, List.set_cons_succ]
        refine wpAnyH_take (i := 1) (oi := { dst := some 20, op := Go.Op.load 51 (Go.Operand.tmp 7), type := 51, pos := _, after := #[], guard := none }) (v := ?_) rfl (by kernel_rfl) (by kernel_rfl) (by kernel_rfl) (fun _ _ _ h => h) (Or.inl ⟨by rfl, ?_⟩) (by assumption) ?_
        rotate_left
        · intro w hSw; (try dsimp only at hSw); go_simp <;> with_reducible rfl
        simp only [Act.put, List.setIfInBounds_toArray, List.set_cons_zero, List.set_cons_succ]
        refine wpAnyH_ready (rs := [2, 4]) (by kernel_rfl) (by simp) ?_
        refine AllReadyH.cons (o := { dst := some 21, op := Go.Op.lookup 74 (Go.Operand.tmp 19) (Go.Operand.tmp 20) false, type := 3, pos := _, after := #[{ on := 0, ground := Go.Ground.data }, { on := 1, ground := Go.Ground.data }], guard := none }) rfl (fun K hK => ?_) (AllReadyH.cons (o := { dst := some 23, op := Go.Op.mapEntry 74 (Go.Operand.tmp 19) (Go.Operand.tmp 20), type := 0, pos := _, after := #[{ on := 0, ground := Go.Ground.data }, { on := 1, ground := Go.Ground.data }, { on := 0, ground := Go.Ground.phase }, { on := 1, ground := Go.Ground.phase }, { on := 2, ground := Go.Ground.textOnly Go.Departure.mapOpAssignEntry }, { on := 3, ground := Go.Ground.textOnly Go.Departure.mapOpAssignEntry }], guard := none }) rfl (fun K hK => ?_) AllReadyH.nil)
        · go_simp
          refine hK.out _ _ S0 (fun _ => ?_)
          clear hK K
          refine wpAnyH_take (i := 3) (oi := { dst := some 22, op := Go.Op.binOp Go.BinOp.add 3 (Go.Operand.tmp 21) (Go.Operand.const (Go.Value.int Go.IntKind.i64 1)) 3, type := 3, pos := _, after := #[{ on := 2, ground := Go.Ground.data }], guard := none }) (v := ?_) rfl (by kernel_rfl) (by kernel_rfl) (by kernel_rfl) (fun _ _ _ h => h) (Or.inl ⟨by rfl, ?_⟩) (by assumption) ?_
          rotate_left
          · intro w hSw; (try dsimp only at hSw); go_simp <;> with_reducible rfl
          simp only [Act.put, List.setIfInBounds_toArray, List.set_cons_zero, List.set_cons_succ]
          refine wpAnyH_ready (rs := [4]) (by kernel_rfl) (by simp) ?_
          refine AllReadyH.cons (o := { dst := some 23, op := Go.Op.mapEntry 74 (Go.Operand.tmp 19) (Go.Operand.tmp 20), type := 0, pos := _, after := #[{ on := 0, ground := Go.Ground.data }, { on := 1, ground := Go.Ground.data }, { on := 0, ground := Go.Ground.phase }, { on := 1, ground := Go.Ground.phase }, { on := 2, ground := Go.Ground.textOnly Go.Departure.mapOpAssignEntry }, { on := 3, ground := Go.Ground.textOnly Go.Departure.mapOpAssignEntry }], guard := none }) rfl (fun K hK => ?_) AllReadyH.nil
          go_simp
          refine hK.out _ _ S1 (fun _ => ?_)
          clear hK K
          refine wpAnyH_take (i := 5) (oi := { dst := some 24, op := Go.Op.extract (Go.Operand.tmp 23) 1, type := 3, pos := _, after := #[{ on := 4, ground := Go.Ground.data }], guard := none }) (v := ?_) rfl (by kernel_rfl) (by kernel_rfl) (by kernel_rfl) (fun _ _ _ h => h) (Or.inl ⟨by rfl, ?_⟩) (by assumption) ?_
          rotate_left
          · intro w hSw; (try dsimp only at hSw); go_simp <;> with_reducible rfl
          simp only [Act.put, List.setIfInBounds_toArray, List.set_cons_zero, List.set_cons_succ]
          refine wpAnyH_ready (rs := [6]) (by kernel_rfl) (by simp) ?_
          refine AllReadyH.cons (o := { dst := none, op := Go.Op.entryStore 74 (Go.Operand.tmp 19) (Go.Operand.tmp 24) (Go.Operand.tmp 22), type := 0, pos := _, after := #[{ on := 0, ground := Go.Ground.data }, { on := 5, ground := Go.Ground.data }, { on := 3, ground := Go.Ground.data }, { on := 4, ground := Go.Ground.chain }, { on := 0, ground := Go.Ground.phase }, { on := 1, ground := Go.Ground.phase }, { on := 2, ground := Go.Ground.phase }, { on := 3, ground := Go.Ground.phase }, { on := 4, ground := Go.Ground.phase }, { on := 5, ground := Go.Ground.phase }], guard := none }) rfl (fun K hK => ?_) AllReadyH.nil
          go_simp
          refine hK.out _ _ S2 (fun _ => ?_)
          clear hK K
          refine wpAnyH_done (by kernel_rfl) ?_ _
          go_wp2_with (first
            | (obtain ⟨ie, hie, hz, hsz⟩ := inf51; refine wpList_buildSlice rfl 47 51 1 _ rfl (rV (x.name, ago)) ie (.agg #[.string ByteArray.empty, .int .i64 0]) Tryd.underlying47 hie hz (by rw [hsz]; decide) (by rw [hsz]; decide) (by rw [hsz]; simp only [List.map_toArray, List.map_cons, List.map_nil]; exact fill51 (x.name, ago)) ?_; clear hie hz hsz)
            | (at_builtin; refine wpList_append_own _ rfl (.tmp 29) (.tmp 31) 47 rfl b0 51 i0 (.agg #[.string ByteArray.empty, .int .i64 0]) 2 24 Tryd.underlying47 hi hi0 hi1 hi2 rfl (by decide) _ _ _ rfl HR7.out ⟨W2.heap.size, 0, none⟩ 1 1 [.string x.name, .int .i64 (ago : Int)] rfl rfl (two_new _ _ _) (by simp [Value.oneCell']) (by have := FEW.out; unfold maxLen; omega) (by have := FEW.out; omega) ORD.out ?_; intro v' w' hown1 hgrow1 _; obtain ⟨gv, cv, rfl⟩ := own_slice hown1; obtain ⟨hbl, gi⟩ := GP7.out.push (r := (x.name, ago)) HV7.out HR7.out hgrow1 hown1 FEW2.out; have t0 : w'.cell? ⟨bl, 0, none⟩ = some lv0 := (cell_of_row _ _ _ _ 47 (0, 0) hbl).trans rfl; have t1 : w'.frozen? ⟨bl, 0, none⟩ = false := frozen_of_row _ _ _ _ _ hbl; have GF := hid gi; have XF := hid ((Below.heap_setCell w' ⟨bl, 0, none⟩ (.slice (some ⟨gv, 0, none⟩) (acc.length + 1) cv) W.heap.size NB.out).trans ((hgrow1.block _ LTB.out NEB.out).trans XB7.out)); clear hown1 hgrow1 gi))
          go_meet
          case rel => exact ⟨by rw [NA.out], by rw [OWN.out]; exact GF, XF⟩
        · go_simp
          refine hK.out _ _ S1 (fun _ => ?_)
          clear hK K
          refine wpAnyH_take (i := 5) (oi := { dst := some 24, op := Go.Op.extract (Go.Operand.tmp 23) 1, type := 3, pos := _, after := #[{ on := 4, ground := Go.Ground.data }], guard := none }) (v := ?_) rfl (by kernel_rfl) (by kernel_rfl) (by kernel_rfl) (fun _ _ _ h => h) (Or.inl ⟨by rfl, ?_⟩) (by assumption) ?_
          rotate_left
          · intro w hSw; (try dsimp only at hSw); go_simp <;> with_reducible rfl
          simp only [Act.put, List.setIfInBounds_toArray, List.set_cons_zero, List.set_cons_succ]
          refine wpAnyH_ready (rs := [2]) (by kernel_rfl) (by simp) ?_
          refine AllReadyH.cons (o := { dst := some 21, op := Go.Op.lookup 74 (Go.Operand.tmp 19) (Go.Operand.tmp 20) false, type := 3, pos := _, after := #[{ on := 0, ground := Go.Ground.data }, { on := 1, ground := Go.Ground.data }], guard := none }) rfl (fun K hK => ?_) AllReadyH.nil
          go_simp
          refine hK.out _ _ S1 (fun _ => ?_)
          clear hK K
          refine wpAnyH_take (i := 3) (oi := { dst := some 22, op := Go.Op.binOp Go.BinOp.add 3 (Go.Operand.tmp 21) (Go.Operand.const (Go.Value.int Go.IntKind.i64 1)) 3, type := 3, pos := _, after := #[{ on := 2, ground := Go.Ground.data }], guard := none }) (v := ?_) rfl (by kernel_rfl) (by kernel_rfl) (by kernel_rfl) (fun _ _ _ h => h) (Or.inl ⟨by rfl, ?_⟩) (by assumption) ?_
          rotate_left
          · intro w hSw; (try dsimp only at hSw); go_simp <;> with_reducible rfl
          simp only [Act.put, List.setIfInBounds_toArray, List.set_cons_zero, List.set_cons_succ]
          refine wpAnyH_ready (rs := [6]) (by kernel_rfl) (by simp) ?_
          refine AllReadyH.cons (o := { dst := none, op := Go.Op.entryStore 74 (Go.Operand.tmp 19) (Go.Operand.tmp 24) (Go.Operand.tmp 22), type := 0, pos := _, after := #[{ on := 0, ground := Go.Ground.data }, { on := 5, ground := Go.Ground.data }, { on := 3, ground := Go.Ground.data }, { on := 4, ground := Go.Ground.chain }, { on := 0, ground := Go.Ground.phase }, { on := 1, ground := Go.Ground.phase }, { on := 2, ground := Go.Ground.phase }, { on := 3, ground := Go.Ground.phase }, { on := 4, ground := Go.Ground.phase }, { on := 5, ground := Go.Ground.phase }], guard := none }) rfl (fun K hK => ?_) AllReadyH.nil
          go_simp
          refine hK.out _ _ S2 (fun _ => ?_)
          clear hK K
          refine wpAnyH_done (by kernel_rfl) ?_ _
          go_wp2_with (first
            | (obtain ⟨ie, hie, hz, hsz⟩ := inf51; refine wpList_buildSlice rfl 47 51 1 _ rfl (rV (x.name, ago)) ie (.agg #[.string ByteArray.empty, .int .i64 0]) Tryd.underlying47 hie hz (by rw [hsz]; decide) (by rw [hsz]; decide) (by rw [hsz]; simp only [List.map_toArray, List.map_cons, List.map_nil]; exact fill51 (x.name, ago)) ?_; clear hie hz hsz)
            | (at_builtin; refine wpList_append_own _ rfl (.tmp 29) (.tmp 31) 47 rfl b0 51 i0 (.agg #[.string ByteArray.empty, .int .i64 0]) 2 24 Tryd.underlying47 hi hi0 hi1 hi2 rfl (by decide) _ _ _ rfl HR7.out ⟨W2.heap.size, 0, none⟩ 1 1 [.string x.name, .int .i64 (ago : Int)] rfl rfl (two_new _ _ _) (by simp [Value.oneCell']) (by have := FEW.out; unfold maxLen; omega) (by have := FEW.out; omega) ORD.out ?_; intro v' w' hown1 hgrow1 _; obtain ⟨gv, cv, rfl⟩ := own_slice hown1; obtain ⟨hbl, gi⟩ := GP7.out.push (r := (x.name, ago)) HV7.out HR7.out hgrow1 hown1 FEW2.out; have t0 : w'.cell? ⟨bl, 0, none⟩ = some lv0 := (cell_of_row _ _ _ _ 47 (0, 0) hbl).trans rfl; have t1 : w'.frozen? ⟨bl, 0, none⟩ = false := frozen_of_row _ _ _ _ _ hbl; have GF := hid gi; have XF := hid ((Below.heap_setCell w' ⟨bl, 0, none⟩ (.slice (some ⟨gv, 0, none⟩) (acc.length + 1) cv) W.heap.size NB.out).trans ((hgrow1.block _ LTB.out NEB.out).trans XB7.out)); clear hown1 hgrow1 gi))
          go_meet
          case rel => exact ⟨by rw [NA.out], by rw [OWN.out]; exact GF, XF⟩
      | true =>
        have OWN : Hid (ownRefs x ago acc = acc) := hid (by rw [OWN0.out]; unfold addR; rw [hin]; rfl)
        have GPo : Hid (GI w0 bs bl bg mb b0 acc acc (N + 1) W2) := by
          have h := GP.out
          have e : addR acc (x.name, ago) = acc := by unfold addR; rw [hin]; rfl
          rw [e] at h
          exact hid h
        have hc1 : 1 ≤ c := by
          by_cases e : c = 0
          · rw [hc0.1 e] at hin; cases hin
          · omega
        have hc1' : (1 : Int) ≤ (c : Int) := by omega
        have hcc : (((c : Int) + 1) == 1) = false := by simp; omega
        have hw1 : IntKind.i64.wrap ((c : Int) + 1) = (c : Int) + 1 := by rw [IntKind.wrap_i64]; omega
        refine wp_region_held_drew (S := fun V => V.cell? ⟨bs, 0, none⟩ = some (.map (some mb)) ∧ V.cell? ⟨w2.heap.size, 0, none⟩ = some (.string x.name) ∧ V.cell? ⟨w2.heap.size, 1, none⟩ = some (.int .i64 (ago : Int))) (by kernel_rfl) ?_ (fun hHeld => ?_)
        · exact S0
        refine wpAnyH_take (i := 0) (oi := { dst := some 19, op := Go.Op.load 74 (Go.Operand.tmp 2), type := 74, pos := _, after := #[], guard := none }) (v := ?_) rfl (by kernel_rfl) (by kernel_rfl) (by kernel_rfl) (fun _ _ _ h => h) (Or.inl ⟨by rfl, ?_⟩) (by assumption) ?_
        rotate_left
        · intro w hSw; (try dsimp only at hSw); go_simp <;> with_reducible rfl
        simp only [Act.put, List.setIfInBounds_toArray, List.set_cons_zero, List.set_cons_succ]
        refine wpAnyH_take (i := 1) (oi := { dst := some 20, op := Go.Op.load 51 (Go.Operand.tmp 7), type := 51, pos := _, after := #[], guard := none }) (v := ?_) rfl (by kernel_rfl) (by kernel_rfl) (by kernel_rfl) (fun _ _ _ h => h) (Or.inl ⟨by rfl, ?_⟩) (by assumption) ?_
        rotate_left
        · intro w hSw; (try dsimp only at hSw); go_simp <;> with_reducible rfl
        simp only [Act.put, List.setIfInBounds_toArray, List.set_cons_zero, List.set_cons_succ]
        refine wpAnyH_ready (rs := [2, 4]) (by kernel_rfl) (by simp) ?_
        refine AllReadyH.cons (o := { dst := some 21, op := Go.Op.lookup 74 (Go.Operand.tmp 19) (Go.Operand.tmp 20) false, type := 3, pos := _, after := #[{ on := 0, ground := Go.Ground.data }, { on := 1, ground := Go.Ground.data }], guard := none }) rfl (fun K hK => ?_) (AllReadyH.cons (o := { dst := some 23, op := Go.Op.mapEntry 74 (Go.Operand.tmp 19) (Go.Operand.tmp 20), type := 0, pos := _, after := #[{ on := 0, ground := Go.Ground.data }, { on := 1, ground := Go.Ground.data }, { on := 0, ground := Go.Ground.phase }, { on := 1, ground := Go.Ground.phase }, { on := 2, ground := Go.Ground.textOnly Go.Departure.mapOpAssignEntry }, { on := 3, ground := Go.Ground.textOnly Go.Departure.mapOpAssignEntry }], guard := none }) rfl (fun K hK => ?_) AllReadyH.nil)
        · go_simp
          refine hK.out _ _ S0 (fun _ => ?_)
          clear hK K
          refine wpAnyH_take (i := 3) (oi := { dst := some 22, op := Go.Op.binOp Go.BinOp.add 3 (Go.Operand.tmp 21) (Go.Operand.const (Go.Value.int Go.IntKind.i64 1)) 3, type := 3, pos := _, after := #[{ on := 2, ground := Go.Ground.data }], guard := none }) (v := ?_) rfl (by kernel_rfl) (by kernel_rfl) (by kernel_rfl) (fun _ _ _ h => h) (Or.inl ⟨by rfl, ?_⟩) (by assumption) ?_
          rotate_left
          · intro w hSw; (try dsimp only at hSw); go_simp <;> with_reducible rfl
          simp only [Act.put, List.setIfInBounds_toArray, List.set_cons_zero, List.set_cons_succ]
          refine wpAnyH_ready (rs := [4]) (by kernel_rfl) (by simp) ?_
          refine AllReadyH.cons (o := { dst := some 23, op := Go.Op.mapEntry 74 (Go.Operand.tmp 19) (Go.Operand.tmp 20), type := 0, pos := _, after := #[{ on := 0, ground := Go.Ground.data }, { on := 1, ground := Go.Ground.data }, { on := 0, ground := Go.Ground.phase }, { on := 1, ground := Go.Ground.phase }, { on := 2, ground := Go.Ground.textOnly Go.Departure.mapOpAssignEntry }, { on := 3, ground := Go.Ground.textOnly Go.Departure.mapOpAssignEntry }], guard := none }) rfl (fun K hK => ?_) AllReadyH.nil
          go_simp
          refine hK.out _ _ S1 (fun _ => ?_)
          clear hK K
          refine wpAnyH_take (i := 5) (oi := { dst := some 24, op := Go.Op.extract (Go.Operand.tmp 23) 1, type := 3, pos := _, after := #[{ on := 4, ground := Go.Ground.data }], guard := none }) (v := ?_) rfl (by kernel_rfl) (by kernel_rfl) (by kernel_rfl) (fun _ _ _ h => h) (Or.inl ⟨by rfl, ?_⟩) (by assumption) ?_
          rotate_left
          · intro w hSw; (try dsimp only at hSw); go_simp <;> with_reducible rfl
          simp only [Act.put, List.setIfInBounds_toArray, List.set_cons_zero, List.set_cons_succ]
          refine wpAnyH_ready (rs := [6]) (by kernel_rfl) (by simp) ?_
          refine AllReadyH.cons (o := { dst := none, op := Go.Op.entryStore 74 (Go.Operand.tmp 19) (Go.Operand.tmp 24) (Go.Operand.tmp 22), type := 0, pos := _, after := #[{ on := 0, ground := Go.Ground.data }, { on := 5, ground := Go.Ground.data }, { on := 3, ground := Go.Ground.data }, { on := 4, ground := Go.Ground.chain }, { on := 0, ground := Go.Ground.phase }, { on := 1, ground := Go.Ground.phase }, { on := 2, ground := Go.Ground.phase }, { on := 3, ground := Go.Ground.phase }, { on := 4, ground := Go.Ground.phase }, { on := 5, ground := Go.Ground.phase }], guard := none }) rfl (fun K hK => ?_) AllReadyH.nil
          go_simp
          refine hK.out _ _ S2 (fun _ => ?_)
          clear hK K
          refine wpAnyH_done (by kernel_rfl) ?_ _
          go_wp2
          go_meet
          case rel => exact ⟨by rw [NA.out], by rw [OWN.out]; exact GPo, XB⟩
        · go_simp
          refine hK.out _ _ S1 (fun _ => ?_)
          clear hK K
          refine wpAnyH_take (i := 5) (oi := { dst := some 24, op := Go.Op.extract (Go.Operand.tmp 23) 1, type := 3, pos := _, after := #[{ on := 4, ground := Go.Ground.data }], guard := none }) (v := ?_) rfl (by kernel_rfl) (by kernel_rfl) (by kernel_rfl) (fun _ _ _ h => h) (Or.inl ⟨by rfl, ?_⟩) (by assumption) ?_
          rotate_left
          · intro w hSw; (try dsimp only at hSw); go_simp <;> with_reducible rfl
          simp only [Act.put, List.setIfInBounds_toArray, List.set_cons_zero, List.set_cons_succ]
          refine wpAnyH_ready (rs := [2]) (by kernel_rfl) (by simp) ?_
          refine AllReadyH.cons (o := { dst := some 21, op := Go.Op.lookup 74 (Go.Operand.tmp 19) (Go.Operand.tmp 20) false, type := 3, pos := _, after := #[{ on := 0, ground := Go.Ground.data }, { on := 1, ground := Go.Ground.data }], guard := none }) rfl (fun K hK => ?_) AllReadyH.nil
          go_simp
          refine hK.out _ _ S1 (fun _ => ?_)
          clear hK K
          refine wpAnyH_take (i := 3) (oi := { dst := some 22, op := Go.Op.binOp Go.BinOp.add 3 (Go.Operand.tmp 21) (Go.Operand.const (Go.Value.int Go.IntKind.i64 1)) 3, type := 3, pos := _, after := #[{ on := 2, ground := Go.Ground.data }], guard := none }) (v := ?_) rfl (by kernel_rfl) (by kernel_rfl) (by kernel_rfl) (fun _ _ _ h => h) (Or.inl ⟨by rfl, ?_⟩) (by assumption) ?_
          rotate_left
          · intro w hSw; (try dsimp only at hSw); go_simp <;> with_reducible rfl
          simp only [Act.put, List.setIfInBounds_toArray, List.set_cons_zero, List.set_cons_succ]
          refine wpAnyH_ready (rs := [6]) (by kernel_rfl) (by simp) ?_
          refine AllReadyH.cons (o := { dst := none, op := Go.Op.entryStore 74 (Go.Operand.tmp 19) (Go.Operand.tmp 24) (Go.Operand.tmp 22), type := 0, pos := _, after := #[{ on := 0, ground := Go.Ground.data }, { on := 5, ground := Go.Ground.data }, { on := 3, ground := Go.Ground.data }, { on := 4, ground := Go.Ground.chain }, { on := 0, ground := Go.Ground.phase }, { on := 1, ground := Go.Ground.phase }, { on := 2, ground := Go.Ground.phase }, { on := 3, ground := Go.Ground.phase }, { on := 4, ground := Go.Ground.phase }, { on := 5, ground := Go.Ground.phase }], guard := none }) rfl (fun K hK => ?_) AllReadyH.nil
          go_simp
          refine hK.out _ _ S2 (fun _ => ?_)
          clear hK K
          refine wpAnyH_done (by kernel_rfl) ?_ _
          go_wp2
          go_meet
          case rel => exact ⟨by rw [NA.out], by rw [OWN.out]; exact GPo, XB⟩
    · by_cases h19 : x.op = 19
      · have NA : Hid (nextAgo x ago = ago + 1) := hid (by unfold nextAgo; rw [if_pos h19])
        have OWN : Hid (ownRefs x ago acc = acc) := hid (by unfold ownRefs; rw [if_neg h3])
        have hop3 : ((x.op : Int) == 3) = false := by simp; omega
        have hop19 : ((x.op : Int) == 19) = true := by simp [h19]
        have hab : (ago : Int) ≤ 1099511627776 := by omega
        have GF := hid (G5.out.mono (Nat.le_succ N))
        clear ih hc hs hS hG hG0 b5 hop hn hnm hlen hcap hago hN hNm h3 h19 hK1 G5
        go_wp2
        go_meet
        case rel => exact ⟨by rw [NA.out]; go_num, by rw [OWN.out]; exact GF, X5h⟩
      · have NA : Hid (nextAgo x ago = ago) := hid (by unfold nextAgo; rw [if_neg h19])
        have OWN : Hid (ownRefs x ago acc = acc) := hid (by unfold ownRefs; rw [if_neg h3])
        have hop3 : ((x.op : Int) == 3) = false := by simp; omega
        have hop19 : ((x.op : Int) == 19) = false := by simp; omega
        have GF := hid (G5.out.mono (Nat.le_succ N))
        clear ih hc hs hS hG hG0 b5 hop hn hnm hlen hcap hago hN hNm h3 h19 hK1 G5
        go_wp2
        go_meet
        case rel => exact ⟨by rw [NA.out], by rw [OWN.out]; exact GF, X5h⟩
/-- The closure of Refs, whatever it is called with. -/
theorem gather_any : ∀ k, GatC k
  | 0 => fun _ _ _ _ _ _ _ _ _ _ _ _ _ h => h.elim
  | k + 1 => gather_of k (gather_any k)
end Go.Proofs.YtkieljleopbhoaaDoor.Lex
