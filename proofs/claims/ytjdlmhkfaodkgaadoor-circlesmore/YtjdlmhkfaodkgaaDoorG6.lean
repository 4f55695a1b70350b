/-
  Who needs whom: the contract of needsOf.
  A search in breadth: plain mathematics.
  The shortest way back: plain mathematics.
  What is checked is found: in a program whose names mean one thing each.
  The first circle of a program, as a plain function of it.
  When a circle is known: where each step is the only one; where nothing leads back; where one more stands behind all.
  A program with its flows in another order: it is checked likewise.
-/
import Derived.Test.YtjdlmhkfaodkgaaDoorG5
namespace Go.Proofs.YtjdlmhkfaodkgaaDoor.Lex
open Go.ChangeShapes Go.WideShapes Go.ChangeAt Go.RowKit Go.Joins Go.Maps Go.WideElems Go.MapKept
theorem wp_append_at {P : Program} {w : World} {o : Oper} {a : Act} {K : Act → World → Prop} {Q : Exit → Act → World → Prop} (s x : Operand) (t : TypeId)
    (ho : o.op = .call { callee := .builtin .append, args := #[s, x], argTypes := #[t, t] })
    (base : Nat) (e : TypeId) (i : TypeInfo) (z : Value) (size bytes : Nat) (ht : P.underlying t = some (.slice e)) (hi : P.info? e = some i) (hz : i.zero = some z)
    (hsize : i.size = size) (hby : i.bytes = bytes) (hzs : z.cells.size = size) (hsz : 0 < size)
    (v : Value) (n : Nat) (xs : List Value) (hs : a.eval s = v) (hown : w.ownsRow base e size v n xs)
    (ad : Addr) (m c : Nat) (news : List Value) (hx : a.eval x = .slice (some ad) m c) (hl : news.length = m * size) (hnews : ∀ j u, news[j]? = some u → w.cell? (ad.add j) = some u) (h1 : ∀ u ∈ news, u.oneCell' = true)
    (h63 : n + m ≤ maxLen) (hbytes : (n + m) * bytes ≤ 140737488355328) (hbase : base ≤ w.heap.size)
    (h : ∀ v' w', w'.ownsRow base e size v' (n + m) (xs ++ news) → w.grownBy w' v.ownBlock → (v' = .slice none 0 0 ↔ v = .slice none 0 0 ∧ m = 0) → (v'.ownBlock = v.ownBlock ∨ v'.ownBlock = some w.heap.size) → K (a.put o.dst v') w') : o.wp P a w K Q := by
  obtain ⟨v', w', hr, h2, h3, h4, h5⟩ := run_append_own_at (P := P) w base t o.type e i z size bytes ht hi hz hsize hby hzs hsz v n xs hown ad m c news hl hnews h1 h63 hbytes hbase
  unfold Oper.wp execOp
  simp only [ho, resolve, invoke, builtin, Sem.run_bind, Sem.run_pure, Result.andThen_ok, List.map_toArray, List.map_cons, List.map_nil, hs, hx, hr]
  exact h v' w' h2 h3 h4 h5
theorem wp_look {P : Program} {w : World} {o : Oper} {a : Act} {K : Act → World → Prop} {Q : Exit → Act → World → Prop} (m x : Operand) (t : TypeId) (hop : o.op = Op.lookup t m x false) {M X V : Value} (hm : a.eval m = M) (hx : a.eval x = X)
    (hrun : (Instr.lookup t M X false).run P w = .ok V w) (h : K (a.put o.dst V) w) : o.wp P a w K Q := by
  unfold Oper.wp
  simp [execOp, hop, hm, hx, hrun, Result.andThen]
  exact h
theorem wp_mapUpd {P : Program} {w w2 : World} {o : Oper} {a : Act} {K : Act → World → Prop} {Q : Exit → Act → World → Prop} (m x v : Operand) (t : TypeId) (hop : o.op = Op.mapUpdate t m x v) {M X V : Value} (hm : a.eval m = M) (hx : a.eval x = X) (hv : a.eval v = V)
    (hrun : (Instr.mapUpdate t M X V).run P w = .ok () w2) (h : K (a.put o.dst undef) w2) : o.wp P a w K Q := by
  unfold Oper.wp
  simp [execOp, hop, hm, hx, hv, hrun, Result.andThen]
  exact h
theorem grown_row (w : World) (b : Nat) (cs : Array Value) : w.grownBy (w.setRow b cs) (some b) := ⟨rfl, rfl, rfl, by simp [World.setRow], fun k _ hk => setRow_other w b k _ (fun e => hk (by rw [e]))⟩
theorem Two.grown {W W' : World} {base b b' n j : Nat} {F F' : Int → List Int} (h : Two W base b b' n F F') (hg : W.grownBy W' (some j)) (hj : j < base) (h1 : j ≠ b) (h2 : j ≠ b') : Two W' base b b' n F F' := by
  obtain ⟨D, hD, hL⟩ := h.m
  obtain ⟨D', hD', hL'⟩ := h.m'
  have e1 : some b ≠ some j := fun e => h1 (by injection e with e; exact e.symm)
  have e2 : some b' ≠ some j := fun e => h2 (by injection e with e; exact e.symm)
  refine ⟨⟨D, hD.kept hg e1 (hD.rowsAbove (fun i hi => by injection hi with hi; omega)), hL⟩, ⟨D', hD'.kept hg e2 (hD'.rowsAbove (fun i hi => by injection hi with hi; omega)), hL'⟩, ?_, h.ne⟩
  rw [rowsOf_same (hg.block b' hD'.lt.1 e2)]
  exact h.sep.kept hg hD.lt.1 e1
theorem NR.at {w W : World} {l : List Int} {v : Value} (h : NR w l v W) : ∃ ao cap, v = .slice ao l.length cap ∧ (l.length = 0 ∨ ∃ g, ao = some ⟨g, 0, none⟩ ∧ ∀ i (hi : i < l.length), W.cell? ⟨g, i, none⟩ = some (.int .i64 l[i])) := by
  have hown := h.own
  rcases hown.2 with ⟨e, e0⟩ | ⟨g, cap, cur, e, _⟩
  · exact ⟨none, 0, by rw [e, e0], .inl e0⟩
  · subst e
    refine ⟨_, cap, rfl, .inr ⟨g, rfl, fun i hi => ?_⟩⟩
    rw [hown.cellAt i (by omega)]
    simp [ints, hi]
theorem need_lt (p : Pg) (d : Nat) (x : Ex) : ∀ z ∈ need p d x, 0 ≤ z ∧ z < (p.flows.length : Int) := by
  intro z hz
  have hz2 : z ∈ nb p (gat d x 0 []) := List.mem_mergeSort.1 hz
  obtain ⟨r, _, hr⟩ := List.mem_filterMap.1 hz2
  unfold nb1 at hr
  split at hr
  · cases hr
  · cases hf : findT (thingsL p) r.1 with
    | none => rw [hf] at hr; cases hr
    | some y =>
      rw [hf] at hr
      simp only at hr
      split at hr
      · rename_i h0
        obtain rfl : y.1 = z := by simpa using hr
        refine ⟨h0, ?_⟩
        have hm := List.mem_of_find?_eq_some hf
        rcases List.mem_append.1 hm with h | h
        · obtain ⟨q, _, e⟩ := List.mem_map.1 h
          rw [← e] at h0
          simp at h0
        · obtain ⟨i, hi, e⟩ := List.mem_map.1 h
          rw [← e]
          have := List.mem_range.1 hi
          show (i : Int) < _
          omega
      · cases hr
theorem info70 : (Tryd.prog.info? 70).map (·.size) = some 2 := by kernel_rfl
theorem edges_len (p : Pg) (d : Nat) (h : ∀ f ∈ p.flows, (need p d f.body).length ≤ 1048576) : ∀ k, (edges p d k).length ≤ k * 1048576
  | 0 => by simp [edges]
  | k + 1 => by
    have ih := edges_len p d h k
    unfold edges
    rw [List.length_append]
    split
    · rename_i hk
      have := h _ (List.getElem_mem hk)
      have e : (edgesOf p d k hk).length = (need p d p.flows[k].body).length := by simp [edgesOf]
      omega
    · exact Nat.le_trans ih (Nat.mul_le_mul_right _ (Nat.le_succ k))
set_option maxRecDepth 100000 in
set_option maxHeartbeats 4000000 in
theorem needs_of (p : Pg) (d : Nat) (w : World) (a b c : Value) (hP : PgAt w p a b c) (hNm : ∀ f ∈ p.flows, NmOk d f.body) (hd : d ≤ 1048576) (hcn : ∀ f ∈ p.flows, cnt d f.body ≤ 1048576) (hfl : p.flows.length ≤ 1000) :
    Calls Tryd.prog 25 #[pgV p a b c] w fun e w' => e = .returned (.agg #[.map (some (w.heap.size + 2)), .map (some (w.heap.size + 3))]) ∧ Two w' (w.heap.size + 5) (w.heap.size + 2) (w.heap.size + 3) (2 * (edges p d p.flows.length).length) (whomF (edges p d p.flows.length)) (whoF (edges p d p.flows.length)) ∧ Below w.heap.size w w' := by
  obtain ⟨a0, a1, rfl, _⟩ := hP.ins
  obtain ⟨b0, b1, sl, rfl, hlen, hcap, hok, hfc, hst⟩ := hP.flows
  obtain ⟨c0, c1, rfl, _⟩ := hP.outs
  have HP := hid hP
  have HFC := hid hfc
  have HST := hid hst
  have HNM := hid hNm
  have HCN := hid hcn
  clear hP hfc hst hNm hcn hok hcap hlen
  obtain ⟨i0, hi, hz0, hz1, hz2⟩ := info_parts inf3
  have N0 : Hid (NS w p (.slice a0 p.ins.length a1) (.slice b0 p.flows.length b1) (.slice c0 p.outs.length c1) 0 (fun _ => []) (fun _ => []) (((((w.alloc (.cells (pgC p (.slice a0 p.ins.length a1) (.slice b0 p.flows.length b1) (.slice c0 p.outs.length c1)) 26)).alloc (.cells #[.map none, .map none] 70)).alloc (.map #[] 0)).alloc (.map #[] 0)).alloc (.cells #[.map (some (w.heap.size + 2)), .map (some (w.heap.size + 3))] 70))) := hid (by
    have b1 := (Below.refl w.heap.size w).alloc (Nat.le_refl _) (.cells (pgC p (.slice a0 p.ins.length a1) (.slice b0 p.flows.length b1) (.slice c0 p.outs.length c1)) 26)
    have b2 := bstep b1 ((Below.refl _ _).alloc (Nat.le_refl _) (.cells #[.map none, .map none] 70))
    have b3 := bstep b2 ((Below.refl _ _).alloc (Nat.le_refl _) (.map #[] 0))
    have b4 := bstep b3 ((Below.refl _ _).alloc (Nat.le_refl _) (.map #[] 0))
    have b5 := bstep b4 ((Below.refl _ _).alloc (Nat.le_refl _) (.cells #[.map (some (w.heap.size + 2)), .map (some (w.heap.size + 3))] 70))
    exact ⟨push_old (push_old (push_old (push_old (push_new _ _ _ rfl)))), push_old (push_old (push_old (push_new _ _ _ (by simp)))), push_new _ _ _ (by simp), two_none (push_old (push_old (push_new _ _ _ (by simp)))) (push_old (push_new _ _ _ (by simp))) (by omega) (by omega) (by omega), b5⟩)
  have hmm := @run_makeMap Tryd.prog
  go_enter Tryd.func25, Tryd.ntmps25
  go_wp2_with (fail)
  simp only [Nat.add_assoc, Nat.reduceAdd]
  generalize (((((w.alloc (.cells (pgC p (.slice a0 p.ins.length a1) (.slice b0 p.flows.length b1) (.slice c0 p.outs.length c1)) 26)).alloc (.cells #[.map none, .map none] 70)).alloc (.map #[] 0)).alloc (.map #[] 0)).alloc (.cells #[.map (some (w.heap.size + 2)), .map (some (w.heap.size + 3))] 70)) = W0 at *
  have HLE : Hid (∀ k, (edges p d k).length ≤ k * 1048576) := hid (edges_len p d (fun f hf => by
    unfold need
    rw [srt_len]
    have h1 := nb_len p (gat d f.body 0 [])
    have h2 := gat_len d f.body 0 []
    have h3 := HCN.out f hf
    simp at h2
    omega))
  go_loopw [14] (fun i wr => ∃ k : Nat, k ≤ p.flows.length ∧ i = .int .i64 (k : Int) ∧ Hid (NS w p (.slice a0 p.ins.length a1) (.slice b0 p.flows.length b1) (.slice c0 p.outs.length c1) (2 * (edges p d k).length) (whomF (edges p d k)) (whoF (edges p d k)) wr)) (fun i _ => p.flows.length - (intOf i).toNat)
  case atStart => exact ⟨0, Nat.zero_le _, rfl, N0⟩
  case round =>
    obtain ⟨k, hk, rfl, HN⟩ := hrel
    by_cases hlt : k < p.flows.length
    · have hlt' : (k : Int) < (p.flows.length : Int) := by omega
      have hk0 : (0 : Int) ≤ (k : Int) := by omega
      obtain ⟨fb, fo, rfl, hcc⟩ := HFC.out.resolve_left (by omega)
      have hfl8 := hcc k hlt
      have HSK := hid (HST.out k hlt)
      have HNK := hid (HNM.out _ (List.getElem_mem hlt))
      have HCK := hid (HCN.out _ (List.getElem_mem hlt))
      have HEK : Hid (edges p d (k + 1) = edges p d k ++ (need p d p.flows[k].body).map fun z => ((k : Int), z)) := hid (by
        show edges p d k ++ _ = _
        rw [dif_pos hlt]
        rfl)
      have hel := HLE.out k
      clear hcc
      obtain ⟨fa, fc, _, fe, _⟩ := HSK.out.out
      have hf8 := hfl8.keep HN.out.below
      have HPW := hid (HP.out.keep HN.out.below)
      have HSW := hid (HSK.out.keep HN.out.below)
      rw [fe] at hf8 HSW
      clear hfl8 fe HSK
      generalize p.flows[k] = f at *
      obtain ⟨f0, f1, f2, f3, f4, f5, f6, f7⟩ := hf8
      have FB := (Below.refl wr.heap.size wr).alloc (Nat.le_refl _) (.cells #[.string f.name, .int .u8 (f.ty : Int), .int .i64 f.st, .int .i64 f.df, .int .u8 (f.body.op : Int), .int .i64 f.body.n, .string f.body.name, .slice fa f.body.args.length fc] 51)
      have hfr : (wr.alloc (.cells #[.string f.name, .int .u8 (f.ty : Int), .int .i64 f.st, .int .i64 f.df, .int .u8 (f.body.op : Int), .int .i64 f.body.n, .string f.body.name, .slice fa f.body.args.length fc] 51)).heap[wr.heap.size]? = some (.cells #[.string f.name, .int .u8 (f.ty : Int), .int .i64 f.st, .int .i64 f.df, .int .u8 (f.body.op : Int), .int .i64 f.body.n, .string f.body.name, .slice fa f.body.args.length fc] 51 (0, 0)) := push_new _ _ _ rfl
      have g4 : (wr.alloc (.cells #[.string f.name, .int .u8 (f.ty : Int), .int .i64 f.st, .int .i64 f.df, .int .u8 (f.body.op : Int), .int .i64 f.body.n, .string f.body.name, .slice fa f.body.args.length fc] 51)).cell? ⟨wr.heap.size, 4, none⟩ = some (.int .u8 (f.body.op : Int)) := (cell_of_row _ _ _ _ 51 (0, 0) hfr).trans rfl
      have g5 : (wr.alloc (.cells #[.string f.name, .int .u8 (f.ty : Int), .int .i64 f.st, .int .i64 f.df, .int .u8 (f.body.op : Int), .int .i64 f.body.n, .string f.body.name, .slice fa f.body.args.length fc] 51)).cell? ⟨wr.heap.size, 5, none⟩ = some (.int .i64 f.body.n) := (cell_of_row _ _ _ _ 51 (0, 0) hfr).trans rfl
      have g6 : (wr.alloc (.cells #[.string f.name, .int .u8 (f.ty : Int), .int .i64 f.st, .int .i64 f.df, .int .u8 (f.body.op : Int), .int .i64 f.body.n, .string f.body.name, .slice fa f.body.args.length fc] 51)).cell? ⟨wr.heap.size, 6, none⟩ = some (.string f.body.name) := (cell_of_row _ _ _ _ 51 (0, 0) hfr).trans rfl
      have g7 : (wr.alloc (.cells #[.string f.name, .int .u8 (f.ty : Int), .int .i64 f.st, .int .i64 f.df, .int .u8 (f.body.op : Int), .int .i64 f.body.n, .string f.body.name, .slice fa f.body.args.length fc] 51)).cell? ⟨wr.heap.size, 7, none⟩ = some (.slice fa f.body.args.length fc) := (cell_of_row _ _ _ _ 51 (0, 0) hfr).trans rfl
      have NF := hid (HN.out.keep FB)
      obtain ⟨s0, s1, s2, s3⟩ := row4 NF.out.row
      have c44 := needed p d f.body _ _ _ _ _ (HPW.out.keep FB) (HSW.out.keep FB) HNK.out hd HCK.out
      clear hfr FB
      go_wp2_with (fail)
      refine c44.mono ?_
      rintro e w1 ⟨v, rfl, hil⟩
      have HIL := hid hil
      clear hil c44 s0 s1 s2 s3 g4 g5 g6 g7 f0 f1 f2 f3 f4 f5 f6 f7
      generalize (wr.alloc (.cells #[.string f.name, .int .u8 (f.ty : Int), .int .i64 f.st, .int .i64 f.df, .int .u8 (f.body.op : Int), .int .i64 f.body.n, .string f.body.name, .slice fa f.body.args.length fc] 51)) = FW at *
      have N1 := hid (NF.out.keep HIL.out.below)
      have R1 : Hid (NR w (need p d f.body) v w1) := hid ⟨ownsRow_mono HIL.out.own NF.out.size, fun g hg => by
        have h1 := (own_lo9 HIL.out.own g hg).1
        have hs := NF.out.size
        obtain ⟨D, hD, _⟩ := NF.out.two.m
        obtain ⟨D', hD', _⟩ := NF.out.two.m'
        rw [rowsOf_same (HIL.out.below.block _ (by omega)), rowsOf_same (HIL.out.below.block _ (by omega))]
        exact ⟨fun h => by have := (rowsOf_lt hD h).2; omega, fun h => by have := (rowsOf_lt hD' h).2; omega⟩⟩
      have hll : (need p d f.body).length ≤ 1048576 := by
        unfold need
        rw [srt_len]
        have h1 := nb_len p (gat d f.body 0 [])
        have h2 := gat_len d f.body 0 []
        have h3 := HCK.out
        simp at h2
        omega
      have HLT : Hid (∀ z ∈ need p d f.body, 0 ≤ z ∧ z < 1000) := hid (fun z hz => by have := need_lt p d f.body z hz; omega)
      clear HIL NF HCK HNK HSW HPW
      generalize need p d f.body = l at *
      obtain ⟨va, vc, rfl, _⟩ := R1.out.at
      generalize edges p d k = E0 at *
      go_wp2_with (fail)
      go_loopw [24] (fun i wv => ∃ j : Nat, j ≤ l.length ∧ i = .int .i64 (j : Int) ∧ Hid (NS w p (.slice a0 p.ins.length a1) (.slice (some ⟨fb, fo, none⟩) p.flows.length b1) (.slice c0 p.outs.length c1) (2 * (E0 ++ (l.take j).map fun z => ((k : Int), z)).length) (whomF (E0 ++ (l.take j).map fun z => ((k : Int), z))) (whoF (E0 ++ (l.take j).map fun z => ((k : Int), z))) wv ∧ NR w l (.slice va l.length vc) wv)) (fun i _ => l.length - (intOf i).toNat)
      case atStart => exact ⟨0, Nat.zero_le _, rfl, hid ⟨by simpa using N1.out, R1.out⟩⟩
      case round =>
        obtain ⟨j, hj, rfl, HJ⟩ := hrel
        by_cases hjl : j < l.length
        · have hjl' : (j : Int) < (l.length : Int) := by omega
          have hj0 : (0 : Int) ≤ (j : Int) := by omega
          have HS1 : Hid ((E0 ++ (l.take (j + 1)).map fun z => ((k : Int), z)) = (E0 ++ (l.take j).map fun z => ((k : Int), z)) ++ [((k : Int), l[j])]) := hid (by rw [List.take_succ_eq_append_getElem hjl, List.map_append, List.append_assoc]; rfl)
          have hE1 : (E0 ++ (l.take j).map fun z => ((k : Int), z)).length ≤ 1000 * 1048576 + 1048576 := by
            rw [List.length_append, List.length_map, List.length_take]
            have : k * 1048576 ≤ 1000 * 1048576 := Nat.mul_le_mul_right _ (by omega)
            omega
          have HZ := hid (HLT.out _ (List.getElem_mem hjl))
          obtain ⟨va2, vc2, e2, hh⟩ := HJ.out.2.at
          injection e2 with e2 _ e3
          subst e2 e3
          obtain ⟨g, rfl, hcc⟩ := hh.resolve_left (by omega)
          have y0 := hcc j hjl
          clear hcc hh
          generalize (E0 ++ (l.take j).map fun z => ((k : Int), z)) = E1 at *
          generalize l[j] = z at *
          have hzz := HZ.out
          go_wp2_with (fail)
          have ZD8 := hid ((Below.refl wr.heap.size wr).drew)
          have NZ8 := hid (HJ.out.1.keep ZD8.out)
          have RZ8 := hid (HJ.out.2.keep HJ.out.1 ZD8.out)
          obtain ⟨u8, lk8, ou8, hn8, vu8, mo8⟩ := NZ8.out.two.more (by omega) (k : Int) (by omega) z (by omega)
          obtain ⟨D8, hD8, _⟩ := NZ8.out.two.m
          have LK8 := hid lk8
          have OU8 := hid ou8
          have VU8 := hid vu8
          have MO8 := hid mo8
          have GD8 := hid hD8
          have HMX8 : Hid ((whomF E1 (k : Int)).length + 1 ≤ maxLen) := hid (by unfold maxLen; omega)
          have HBY8 : Hid (((whomF E1 (k : Int)).length + 1) * 8 ≤ 140737488355328) := hid (by omega)
          have HZS8 := hid NZ8.out.size
          have ZA8 := hid ((Below.refl wr.drew.heap.size wr.drew).alloc (Nat.le_refl _) (.cells #[.int .i64 z] 3))
          have VZ8 := hid NZ8.out.var
          have z8 : wr.drew.cell? ⟨w.heap.size + 4, 0, none⟩ = some (.map (some (w.heap.size + 2))) := (cell_of_row _ _ _ _ 70 (0, 0) VZ8.out).trans rfl
          clear lk8 ou8 vu8 mo8 hD8 hn8 ZD8
          go_wp2_with (fail)
          refine wp_region_held_drew (S := fun V => V.cell? ⟨w.heap.size + 4, 0, none⟩ = some (.map (some (w.heap.size + 2)))) (by kernel_rfl) ?_ (fun hHeld => ?_)
          · exact z8
          refine wpAnyH_take (i := 0) (oi := { dst := some 28, op := Go.Op.fieldAddr 70 (Go.Operand.tmp 3) 0, type := 0, pos := _, after := #[], guard := none }) (v := ?_) rfl (by kernel_rfl) (by kernel_rfl) (by kernel_rfl) (fun _ _ _ h => h) (Or.inl ⟨by rfl, ?_⟩) (by assumption) ?_
          rotate_left
          · intro w hSw; (try dsimp only at hSw); go_simp <;> first | with_reducible rfl | (rw [if_neg (by omega)])
          simp only [Act.put, List.setIfInBounds_toArray, List.set_cons_zero, List.set_cons_succ]
          refine wpAnyH_take (i := 1) (oi := { dst := some 29, op := Go.Op.load 68 (Go.Operand.tmp 28), type := 68, pos := _, after := #[{ on := 0, ground := Go.Ground.data }], guard := none }) (v := ?_) rfl (by kernel_rfl) (by kernel_rfl) (by kernel_rfl) (fun _ _ _ h => h) (Or.inl ⟨by rfl, ?_⟩) (by assumption) ?_
          rotate_left
          · intro w hSw; (try dsimp only at hSw); go_simp <;> first | with_reducible rfl | (rw [if_neg (by omega)])
          simp only [Act.put, List.setIfInBounds_toArray, List.set_cons_zero, List.set_cons_succ]
          refine wpAnyH_take (i := 2) (oi := { dst := some 30, op := Go.Op.move (Go.Operand.tmp 4), type := 3, pos := _, after := #[], guard := none }) (v := ?_) rfl (by kernel_rfl) (by kernel_rfl) (by kernel_rfl) (fun _ _ _ h => h) (Or.inl ⟨by rfl, ?_⟩) (by assumption) ?_
          rotate_left
          · intro w hSw; (try dsimp only at hSw); go_simp <;> first | with_reducible rfl | (rw [if_neg (by omega)])
          simp only [Act.put, List.setIfInBounds_toArray, List.set_cons_zero, List.set_cons_succ]
          refine wpAnyH_take (i := 3) (oi := { dst := some 31, op := Go.Op.fieldAddr 70 (Go.Operand.tmp 3) 0, type := 0, pos := _, after := #[], guard := none }) (v := ?_) rfl (by kernel_rfl) (by kernel_rfl) (by kernel_rfl) (fun _ _ _ h => h) (Or.inl ⟨by rfl, ?_⟩) (by assumption) ?_
          rotate_left
          · intro w hSw; (try dsimp only at hSw); go_simp <;> first | with_reducible rfl | (rw [if_neg (by omega)])
          simp only [Act.put, List.setIfInBounds_toArray, List.set_cons_zero, List.set_cons_succ]
          refine wpAnyH_take (i := 4) (oi := { dst := some 32, op := Go.Op.load 68 (Go.Operand.tmp 31), type := 68, pos := _, after := #[{ on := 3, ground := Go.Ground.data }], guard := none }) (v := ?_) rfl (by kernel_rfl) (by kernel_rfl) (by kernel_rfl) (fun _ _ _ h => h) (Or.inl ⟨by rfl, ?_⟩) (by assumption) ?_
          rotate_left
          · intro w hSw; (try dsimp only at hSw); go_simp <;> first | with_reducible rfl | (rw [if_neg (by omega)])
          simp only [Act.put, List.setIfInBounds_toArray, List.set_cons_zero, List.set_cons_succ]
          refine wpAnyH_take (i := 5) (oi := { dst := some 33, op := Go.Op.move (Go.Operand.tmp 4), type := 3, pos := _, after := #[], guard := none }) (v := ?_) rfl (by kernel_rfl) (by kernel_rfl) (by kernel_rfl) (fun _ _ _ h => h) (Or.inl ⟨by rfl, ?_⟩) (by assumption) ?_
          rotate_left
          · intro w hSw; (try dsimp only at hSw); go_simp <;> first | with_reducible rfl | (rw [if_neg (by omega)])
          simp only [Act.put, List.setIfInBounds_toArray, List.set_cons_zero, List.set_cons_succ]
          refine wpAnyH_take (i := 7) (oi := { dst := some 35, op := Go.Op.move (Go.Operand.tmp 7), type := 3, pos := _, after := #[], guard := none }) (v := ?_) rfl (by kernel_rfl) (by kernel_rfl) (by kernel_rfl) (fun _ _ _ h => h) (Or.inl ⟨by rfl, ?_⟩) (by assumption) ?_
          rotate_left
          · intro w hSw; (try dsimp only at hSw); go_simp <;> first | with_reducible rfl | (rw [if_neg (by omega)])
          simp only [Act.put, List.setIfInBounds_toArray, List.set_cons_zero, List.set_cons_succ]
          refine wpAnyH_ready (rs := [6, 8]) (by kernel_rfl) (by simp) ?_
          refine AllReadyH.cons (o := { dst := some 34, op := Go.Op.lookup 68 (Go.Operand.tmp 32) (Go.Operand.tmp 33) false, type := 35, pos := _, after := #[{ on := 4, ground := Go.Ground.data }, { on := 5, ground := Go.Ground.data }], guard := none }) rfl (fun K hK => ?_) (AllReadyH.cons (o := { dst := some 36, op := Go.Op.buildSlice 35 1 #[(0, Go.Operand.tmp 35)], type := 35, pos := _, after := #[{ on := 7, ground := Go.Ground.data }], guard := none }) rfl (fun K hK => ?_) AllReadyH.nil)
          · refine if_take (by rfl) ?_
            refine wp_look (.tmp 32) (.tmp 33) 68 rfl rfl rfl (LK8.out _ rfl) ?_
            refine hK.out _ _ ?_ (fun hHeldL => ?_)
            · exact z8
            clear hK K
            (try simp only [Act.put, List.setIfInBounds_toArray, List.set_cons_zero, List.set_cons_succ])
            refine wpAnyH_ready (rs := [8]) (by kernel_rfl) (by simp) ?_
            refine AllReadyH.cons (o := { dst := some 36, op := Go.Op.buildSlice 35 1 #[(0, Go.Operand.tmp 35)], type := 35, pos := _, after := #[{ on := 7, ground := Go.Ground.data }], guard := none }) rfl (fun K hK => ?_) AllReadyH.nil
            go_simp
            refine hK.out _ _ ?_ (fun hHeldA => ?_)
            · exact cell_kept z8 ZA8.out
            clear hK K
            (try simp only [Act.put, List.setIfInBounds_toArray, List.set_cons_zero, List.set_cons_succ])
            refine wpAnyH_ready (rs := [9]) (by kernel_rfl) (by simp) ?_
            refine AllReadyH.cons (o := { dst := some 37, op := Go.Op.call { callee := Go.Callee.builtin Go.Builtin.append, args := #[Go.Operand.tmp 34, Go.Operand.tmp 36], argTypes := #[35, 35] }, type := 35, pos := _, after := #[{ on := 6, ground := Go.Ground.data }, { on := 8, ground := Go.Ground.data }], guard := none }) rfl (fun K hK => ?_) AllReadyH.nil
            refine if_take (by rfl) ?_
            refine wp_append_at (.tmp 34) (.tmp 36) 35 rfl (w.heap.size + 5) 3 i0 _ 1 8 Tryd.underlying35 hi hz0 hz1 hz2 rfl (by decide) u8 _ _ rfl (OU8.out.alloc _) ⟨wr.drew.heap.size, 0, none⟩ 1 1 [.int .i64 z] rfl rfl (cell_one_new _ _ _) (by simp [Value.oneCell']) HMX8.out HBY8.out (Nat.le_trans HZS8.out ZA8.out.size) ?_
            intro v8 wa hown8 hgr8 _ hloc8
            have hall8 : wr.drew.grownBy wa u8.ownBlock := (World.grownBy_alloc _ _ _).trans hgr8
            obtain ⟨wb, hup8, htwo8, hgb8, hnew8, hold8⟩ := MO8.out wa v8 hall8 hown8 (hloc8.imp id (fun h => ⟨_, h, by simp⟩))
            have N8 := hid (NZ8.out.step hall8 (fun j hj => (rowsOf_lt GD8.out (VU8.out j hj)).1) hgb8 (.inl rfl) htwo8)
            have Q8 := hid (RZ8.out.step (.inl ⟨rfl, rfl⟩) hall8 VU8.out hgb8 hnew8 hold8)
            refine hK.out _ _ ?_ (fun hHeld2 => ?_)
            · exact (cell_of_row _ _ _ _ 70 (0, 0) ((hall8.block _ (by have := HZS8.out; omega) (fun e => by have := (rowsOf_lt GD8.out (VU8.out _ e.symm)).1; omega)).trans VZ8.out)).trans rfl
            clear hK K
            (try simp only [Act.put, List.setIfInBounds_toArray, List.set_cons_zero, List.set_cons_succ])
            refine wpAnyH_ready (rs := [10]) (by kernel_rfl) (by simp) ?_
            refine AllReadyH.cons (o := { dst := none, op := Go.Op.mapUpdate 68 (Go.Operand.tmp 29) (Go.Operand.tmp 30) (Go.Operand.tmp 37), type := 0, pos := _, after := #[{ on := 1, ground := Go.Ground.data }, { on := 2, ground := Go.Ground.data }, { on := 9, ground := Go.Ground.data }, { on := 9, ground := Go.Ground.chain }, { on := 0, ground := Go.Ground.phase }, { on := 1, ground := Go.Ground.phase }, { on := 2, ground := Go.Ground.phase }, { on := 3, ground := Go.Ground.phase }, { on := 4, ground := Go.Ground.phase }, { on := 5, ground := Go.Ground.phase }, { on := 6, ground := Go.Ground.phase }, { on := 7, ground := Go.Ground.phase }, { on := 8, ground := Go.Ground.phase }, { on := 9, ground := Go.Ground.phase }], guard := none }) rfl (fun K hK => ?_) AllReadyH.nil
            refine if_take (by rfl) ?_
            refine wp_mapUpd (.tmp 29) (.tmp 30) (.tmp 37) 68 rfl rfl rfl rfl hup8 ?_
            refine hK.out _ _ ?_ (fun hHeld3 => ?_)
            · exact (cell_of_row _ _ _ _ 70 (0, 0) N8.out.var).trans rfl
            clear hK K
            refine wpAnyH_done (by kernel_rfl) ?_ _
            clear hall8 hup8 htwo8 hgb8 hnew8 hold8 hown8 hgr8 hloc8
            go_wp2_with (fail)
            have ZD9 := hid ((Below.refl wb.heap.size wb).drew)
            have NZ9 := hid (N8.out.keep ZD9.out)
            have RZ9 := hid (Q8.out.keep N8.out ZD9.out)
            obtain ⟨u9, lk9, ou9, hn9, vu9, mo9⟩ := NZ9.out.two.swap.more (by omega) z (by omega) (k : Int) (by omega)
            obtain ⟨D9, hD9, _⟩ := NZ9.out.two.swap.m
            have LK9 := hid lk9
            have OU9 := hid ou9
            have VU9 := hid vu9
            have MO9 := hid mo9
            have GD9 := hid hD9
            have HMX9 : Hid ((whoF E1 z).length + 1 ≤ maxLen) := hid (by unfold maxLen; omega)
            have HBY9 : Hid (((whoF E1 z).length + 1) * 8 ≤ 140737488355328) := hid (by omega)
            have HZS9 := hid NZ9.out.size
            have ZA9 := hid ((Below.refl wb.drew.heap.size wb.drew).alloc (Nat.le_refl _) (.cells #[.int .i64 (k : Int)] 3))
            have VZ9 := hid NZ9.out.var
            have z9 : wb.drew.cell? ⟨w.heap.size + 4, 1, none⟩ = some (.map (some (w.heap.size + 3))) := (cell_of_row _ _ _ _ 70 (0, 0) VZ9.out).trans rfl
            clear lk9 ou9 vu9 mo9 hD9 hn9 ZD9
            go_wp2_with (fail)
            refine wp_region_held_drew (S := fun V => V.cell? ⟨w.heap.size + 4, 1, none⟩ = some (.map (some (w.heap.size + 3)))) (by kernel_rfl) ?_ (fun hHeld => ?_)
            · exact z9
            refine wpAnyH_take (i := 0) (oi := { dst := some 38, op := Go.Op.fieldAddr 70 (Go.Operand.tmp 3) 1, type := 0, pos := _, after := #[], guard := none }) (v := ?_) rfl (by kernel_rfl) (by kernel_rfl) (by kernel_rfl) (fun _ _ _ h => h) (Or.inl ⟨by rfl, ?_⟩) (by assumption) ?_
            rotate_left
            · intro w hSw; (try dsimp only at hSw); go_simp <;> first | with_reducible rfl | (rw [if_neg (by omega)])
            simp only [Act.put, List.setIfInBounds_toArray, List.set_cons_zero, List.set_cons_succ]
            refine wpAnyH_take (i := 1) (oi := { dst := some 39, op := Go.Op.load 68 (Go.Operand.tmp 38), type := 68, pos := _, after := #[{ on := 0, ground := Go.Ground.data }], guard := none }) (v := ?_) rfl (by kernel_rfl) (by kernel_rfl) (by kernel_rfl) (fun _ _ _ h => h) (Or.inl ⟨by rfl, ?_⟩) (by assumption) ?_
            rotate_left
            · intro w hSw; (try dsimp only at hSw); go_simp <;> first | with_reducible rfl | (rw [if_neg (by omega)])
            simp only [Act.put, List.setIfInBounds_toArray, List.set_cons_zero, List.set_cons_succ]
            refine wpAnyH_take (i := 2) (oi := { dst := some 40, op := Go.Op.move (Go.Operand.tmp 7), type := 3, pos := _, after := #[], guard := none }) (v := ?_) rfl (by kernel_rfl) (by kernel_rfl) (by kernel_rfl) (fun _ _ _ h => h) (Or.inl ⟨by rfl, ?_⟩) (by assumption) ?_
            rotate_left
            · intro w hSw; (try dsimp only at hSw); go_simp <;> first | with_reducible rfl | (rw [if_neg (by omega)])
            simp only [Act.put, List.setIfInBounds_toArray, List.set_cons_zero, List.set_cons_succ]
            refine wpAnyH_take (i := 3) (oi := { dst := some 41, op := Go.Op.fieldAddr 70 (Go.Operand.tmp 3) 1, type := 0, pos := _, after := #[], guard := none }) (v := ?_) rfl (by kernel_rfl) (by kernel_rfl) (by kernel_rfl) (fun _ _ _ h => h) (Or.inl ⟨by rfl, ?_⟩) (by assumption) ?_
            rotate_left
            · intro w hSw; (try dsimp only at hSw); go_simp <;> first | with_reducible rfl | (rw [if_neg (by omega)])
            simp only [Act.put, List.setIfInBounds_toArray, List.set_cons_zero, List.set_cons_succ]
            refine wpAnyH_take (i := 4) (oi := { dst := some 42, op := Go.Op.load 68 (Go.Operand.tmp 41), type := 68, pos := _, after := #[{ on := 3, ground := Go.Ground.data }], guard := none }) (v := ?_) rfl (by kernel_rfl) (by kernel_rfl) (by kernel_rfl) (fun _ _ _ h => h) (Or.inl ⟨by rfl, ?_⟩) (by assumption) ?_
            rotate_left
            · intro w hSw; (try dsimp only at hSw); go_simp <;> first | with_reducible rfl | (rw [if_neg (by omega)])
            simp only [Act.put, List.setIfInBounds_toArray, List.set_cons_zero, List.set_cons_succ]
            refine wpAnyH_take (i := 5) (oi := { dst := some 43, op := Go.Op.move (Go.Operand.tmp 7), type := 3, pos := _, after := #[], guard := none }) (v := ?_) rfl (by kernel_rfl) (by kernel_rfl) (by kernel_rfl) (fun _ _ _ h => h) (Or.inl ⟨by rfl, ?_⟩) (by assumption) ?_
            rotate_left
            · intro w hSw; (try dsimp only at hSw); go_simp <;> first | with_reducible rfl | (rw [if_neg (by omega)])
            simp only [Act.put, List.setIfInBounds_toArray, List.set_cons_zero, List.set_cons_succ]
            refine wpAnyH_take (i := 7) (oi := { dst := some 45, op := Go.Op.move (Go.Operand.tmp 4), type := 3, pos := _, after := #[], guard := none }) (v := ?_) rfl (by kernel_rfl) (by kernel_rfl) (by kernel_rfl) (fun _ _ _ h => h) (Or.inl ⟨by rfl, ?_⟩) (by assumption) ?_
            rotate_left
            · intro w hSw; (try dsimp only at hSw); go_simp <;> first | with_reducible rfl | (rw [if_neg (by omega)])
            simp only [Act.put, List.setIfInBounds_toArray, List.set_cons_zero, List.set_cons_succ]
            refine wpAnyH_ready (rs := [6, 8]) (by kernel_rfl) (by simp) ?_
            refine AllReadyH.cons (o := { dst := some 44, op := Go.Op.lookup 68 (Go.Operand.tmp 42) (Go.Operand.tmp 43) false, type := 35, pos := _, after := #[{ on := 4, ground := Go.Ground.data }, { on := 5, ground := Go.Ground.data }], guard := none }) rfl (fun K hK => ?_) (AllReadyH.cons (o := { dst := some 46, op := Go.Op.buildSlice 35 1 #[(0, Go.Operand.tmp 45)], type := 35, pos := _, after := #[{ on := 7, ground := Go.Ground.data }], guard := none }) rfl (fun K hK => ?_) AllReadyH.nil)
            · refine if_take (by rfl) ?_
              refine wp_look (.tmp 42) (.tmp 43) 68 rfl rfl rfl (LK9.out _ rfl) ?_
              refine hK.out _ _ ?_ (fun hHeldL => ?_)
              · exact z9
              clear hK K
              (try simp only [Act.put, List.setIfInBounds_toArray, List.set_cons_zero, List.set_cons_succ])
              refine wpAnyH_ready (rs := [8]) (by kernel_rfl) (by simp) ?_
              refine AllReadyH.cons (o := { dst := some 46, op := Go.Op.buildSlice 35 1 #[(0, Go.Operand.tmp 45)], type := 35, pos := _, after := #[{ on := 7, ground := Go.Ground.data }], guard := none }) rfl (fun K hK => ?_) AllReadyH.nil
              go_simp
              refine hK.out _ _ ?_ (fun hHeldA => ?_)
              · exact cell_kept z9 ZA9.out
              clear hK K
              (try simp only [Act.put, List.setIfInBounds_toArray, List.set_cons_zero, List.set_cons_succ])
              refine wpAnyH_ready (rs := [9]) (by kernel_rfl) (by simp) ?_
              refine AllReadyH.cons (o := { dst := some 47, op := Go.Op.call { callee := Go.Callee.builtin Go.Builtin.append, args := #[Go.Operand.tmp 44, Go.Operand.tmp 46], argTypes := #[35, 35] }, type := 35, pos := _, after := #[{ on := 6, ground := Go.Ground.data }, { on := 8, ground := Go.Ground.data }], guard := none }) rfl (fun K hK => ?_) AllReadyH.nil
              refine if_take (by rfl) ?_
              refine wp_append_at (.tmp 44) (.tmp 46) 35 rfl (w.heap.size + 5) 3 i0 _ 1 8 Tryd.underlying35 hi hz0 hz1 hz2 rfl (by decide) u9 _ _ rfl (OU9.out.alloc _) ⟨wb.drew.heap.size, 0, none⟩ 1 1 [.int .i64 (k : Int)] rfl rfl (cell_one_new _ _ _) (by simp [Value.oneCell']) HMX9.out HBY9.out (Nat.le_trans HZS9.out ZA9.out.size) ?_
              intro v9 wa hown9 hgr9 _ hloc9
              have hall9 : wb.drew.grownBy wa u9.ownBlock := (World.grownBy_alloc _ _ _).trans hgr9
              obtain ⟨wc, hup9, htwo9, hgb9, hnew9, hold9⟩ := MO9.out wa v9 hall9 hown9 (hloc9.imp id (fun h => ⟨_, h, by simp⟩))
              have N9 := hid (NZ9.out.step hall9 (fun j hj => (rowsOf_lt GD9.out (VU9.out j hj)).1) hgb9 (.inr rfl) htwo9.swap)
              have Q9 := hid (RZ9.out.step (.inr ⟨rfl, rfl⟩) hall9 VU9.out hgb9 hnew9 hold9)
              refine hK.out _ _ ?_ (fun hHeld2 => ?_)
              · exact (cell_of_row _ _ _ _ 70 (0, 0) ((hall9.block _ (by have := HZS9.out; omega) (fun e => by have := (rowsOf_lt GD9.out (VU9.out _ e.symm)).1; omega)).trans VZ9.out)).trans rfl
              clear hK K
              (try simp only [Act.put, List.setIfInBounds_toArray, List.set_cons_zero, List.set_cons_succ])
              refine wpAnyH_ready (rs := [10]) (by kernel_rfl) (by simp) ?_
              refine AllReadyH.cons (o := { dst := none, op := Go.Op.mapUpdate 68 (Go.Operand.tmp 39) (Go.Operand.tmp 40) (Go.Operand.tmp 47), type := 0, pos := _, after := #[{ on := 1, ground := Go.Ground.data }, { on := 2, ground := Go.Ground.data }, { on := 9, ground := Go.Ground.data }, { on := 9, ground := Go.Ground.chain }, { on := 0, ground := Go.Ground.phase }, { on := 1, ground := Go.Ground.phase }, { on := 2, ground := Go.Ground.phase }, { on := 3, ground := Go.Ground.phase }, { on := 4, ground := Go.Ground.phase }, { on := 5, ground := Go.Ground.phase }, { on := 6, ground := Go.Ground.phase }, { on := 7, ground := Go.Ground.phase }, { on := 8, ground := Go.Ground.phase }, { on := 9, ground := Go.Ground.phase }], guard := none }) rfl (fun K hK => ?_) AllReadyH.nil
              refine if_take (by rfl) ?_
              refine wp_mapUpd (.tmp 39) (.tmp 40) (.tmp 47) 68 rfl rfl rfl rfl hup9 ?_
              refine hK.out _ _ ?_ (fun hHeld3 => ?_)
              · exact (cell_of_row _ _ _ _ 70 (0, 0) N9.out.var).trans rfl
              clear hK K
              refine wpAnyH_done (by kernel_rfl) ?_ _
              clear hall9 hup9 htwo9 hgb9 hnew9 hold9 hown9 hgr9 hloc9
              go_wp2_with (fail)
              go_roundw
              case rel => exact ⟨j + 1, by omega, by go_num, hid ⟨by rw [HS1.out, whom_snoc, who_snoc, List.length_append, Nat.mul_add]; exact N9.out, Q9.out⟩⟩
              case measure => simp [intOf]; omega
            · go_simp
              refine hK.out _ _ ?_ (fun hHeldA => ?_)
              · exact cell_kept z9 ZA9.out
              clear hK K
              (try simp only [Act.put, List.setIfInBounds_toArray, List.set_cons_zero, List.set_cons_succ])
              refine wpAnyH_ready (rs := [6]) (by kernel_rfl) (by simp) ?_
              refine AllReadyH.cons (o := { dst := some 44, op := Go.Op.lookup 68 (Go.Operand.tmp 42) (Go.Operand.tmp 43) false, type := 35, pos := _, after := #[{ on := 4, ground := Go.Ground.data }, { on := 5, ground := Go.Ground.data }], guard := none }) rfl (fun K hK => ?_) AllReadyH.nil
              refine if_take (by rfl) ?_
              refine wp_look (.tmp 42) (.tmp 43) 68 rfl rfl rfl (LK9.out _ (ZA9.out.block _ (by have := HZS9.out; omega))) ?_
              refine hK.out _ _ ?_ (fun hHeldL => ?_)
              · exact cell_kept z9 ZA9.out
              clear hK K
              (try simp only [Act.put, List.setIfInBounds_toArray, List.set_cons_zero, List.set_cons_succ])
              refine wpAnyH_ready (rs := [9]) (by kernel_rfl) (by simp) ?_
              refine AllReadyH.cons (o := { dst := some 47, op := Go.Op.call { callee := Go.Callee.builtin Go.Builtin.append, args := #[Go.Operand.tmp 44, Go.Operand.tmp 46], argTypes := #[35, 35] }, type := 35, pos := _, after := #[{ on := 6, ground := Go.Ground.data }, { on := 8, ground := Go.Ground.data }], guard := none }) rfl (fun K hK => ?_) AllReadyH.nil
              refine if_take (by rfl) ?_
              refine wp_append_at (.tmp 44) (.tmp 46) 35 rfl (w.heap.size + 5) 3 i0 _ 1 8 Tryd.underlying35 hi hz0 hz1 hz2 rfl (by decide) u9 _ _ rfl (OU9.out.alloc _) ⟨wb.drew.heap.size, 0, none⟩ 1 1 [.int .i64 (k : Int)] rfl rfl (cell_one_new _ _ _) (by simp [Value.oneCell']) HMX9.out HBY9.out (Nat.le_trans HZS9.out ZA9.out.size) ?_
              intro v9 wa hown9 hgr9 _ hloc9
              have hall9 : wb.drew.grownBy wa u9.ownBlock := (World.grownBy_alloc _ _ _).trans hgr9
              obtain ⟨wc, hup9, htwo9, hgb9, hnew9, hold9⟩ := MO9.out wa v9 hall9 hown9 (hloc9.imp id (fun h => ⟨_, h, by simp⟩))
              have N9 := hid (NZ9.out.step hall9 (fun j hj => (rowsOf_lt GD9.out (VU9.out j hj)).1) hgb9 (.inr rfl) htwo9.swap)
              have Q9 := hid (RZ9.out.step (.inr ⟨rfl, rfl⟩) hall9 VU9.out hgb9 hnew9 hold9)
              refine hK.out _ _ ?_ (fun hHeld2 => ?_)
              · exact (cell_of_row _ _ _ _ 70 (0, 0) ((hall9.block _ (by have := HZS9.out; omega) (fun e => by have := (rowsOf_lt GD9.out (VU9.out _ e.symm)).1; omega)).trans VZ9.out)).trans rfl
              clear hK K
              (try simp only [Act.put, List.setIfInBounds_toArray, List.set_cons_zero, List.set_cons_succ])
              refine wpAnyH_ready (rs := [10]) (by kernel_rfl) (by simp) ?_
              refine AllReadyH.cons (o := { dst := none, op := Go.Op.mapUpdate 68 (Go.Operand.tmp 39) (Go.Operand.tmp 40) (Go.Operand.tmp 47), type := 0, pos := _, after := #[{ on := 1, ground := Go.Ground.data }, { on := 2, ground := Go.Ground.data }, { on := 9, ground := Go.Ground.data }, { on := 9, ground := Go.Ground.chain }, { on := 0, ground := Go.Ground.phase }, { on := 1, ground := Go.Ground.phase }, { on := 2, ground := Go.Ground.phase }, { on := 3, ground := Go.Ground.phase }, { on := 4, ground := Go.Ground.phase }, { on := 5, ground := Go.Ground.phase }, { on := 6, ground := Go.Ground.phase }, { on := 7, ground := Go.Ground.phase }, { on := 8, ground := Go.Ground.phase }, { on := 9, ground := Go.Ground.phase }], guard := none }) rfl (fun K hK => ?_) AllReadyH.nil
              refine if_take (by rfl) ?_
              refine wp_mapUpd (.tmp 39) (.tmp 40) (.tmp 47) 68 rfl rfl rfl rfl hup9 ?_
              refine hK.out _ _ ?_ (fun hHeld3 => ?_)
              · exact (cell_of_row _ _ _ _ 70 (0, 0) N9.out.var).trans rfl
              clear hK K
              refine wpAnyH_done (by kernel_rfl) ?_ _
              clear hall9 hup9 htwo9 hgb9 hnew9 hold9 hown9 hgr9 hloc9
              go_wp2_with (fail)
              go_roundw
              case rel => exact ⟨j + 1, by omega, by go_num, hid ⟨by rw [HS1.out, whom_snoc, who_snoc, List.length_append, Nat.mul_add]; exact N9.out, Q9.out⟩⟩
              case measure => simp [intOf]; omega
          · go_simp
            refine hK.out _ _ ?_ (fun hHeldA => ?_)
            · exact cell_kept z8 ZA8.out
            clear hK K
            (try simp only [Act.put, List.setIfInBounds_toArray, List.set_cons_zero, List.set_cons_succ])
            refine wpAnyH_ready (rs := [6]) (by kernel_rfl) (by simp) ?_
            refine AllReadyH.cons (o := { dst := some 34, op := Go.Op.lookup 68 (Go.Operand.tmp 32) (Go.Operand.tmp 33) false, type := 35, pos := _, after := #[{ on := 4, ground := Go.Ground.data }, { on := 5, ground := Go.Ground.data }], guard := none }) rfl (fun K hK => ?_) AllReadyH.nil
            refine if_take (by rfl) ?_
            refine wp_look (.tmp 32) (.tmp 33) 68 rfl rfl rfl (LK8.out _ (ZA8.out.block _ (by have := HZS8.out; omega))) ?_
            refine hK.out _ _ ?_ (fun hHeldL => ?_)
            · exact cell_kept z8 ZA8.out
            clear hK K
            (try simp only [Act.put, List.setIfInBounds_toArray, List.set_cons_zero, List.set_cons_succ])
            refine wpAnyH_ready (rs := [9]) (by kernel_rfl) (by simp) ?_
            refine AllReadyH.cons (o := { dst := some 37, op := Go.Op.call { callee := Go.Callee.builtin Go.Builtin.append, args := #[Go.Operand.tmp 34, Go.Operand.tmp 36], argTypes := #[35, 35] }, type := 35, pos := _, after := #[{ on := 6, ground := Go.Ground.data }, { on := 8, ground := Go.Ground.data }], guard := none }) rfl (fun K hK => ?_) AllReadyH.nil
            refine if_take (by rfl) ?_
            refine wp_append_at (.tmp 34) (.tmp 36) 35 rfl (w.heap.size + 5) 3 i0 _ 1 8 Tryd.underlying35 hi hz0 hz1 hz2 rfl (by decide) u8 _ _ rfl (OU8.out.alloc _) ⟨wr.drew.heap.size, 0, none⟩ 1 1 [.int .i64 z] rfl rfl (cell_one_new _ _ _) (by simp [Value.oneCell']) HMX8.out HBY8.out (Nat.le_trans HZS8.out ZA8.out.size) ?_
            intro v8 wa hown8 hgr8 _ hloc8
            have hall8 : wr.drew.grownBy wa u8.ownBlock := (World.grownBy_alloc _ _ _).trans hgr8
            obtain ⟨wb, hup8, htwo8, hgb8, hnew8, hold8⟩ := MO8.out wa v8 hall8 hown8 (hloc8.imp id (fun h => ⟨_, h, by simp⟩))
            have N8 := hid (NZ8.out.step hall8 (fun j hj => (rowsOf_lt GD8.out (VU8.out j hj)).1) hgb8 (.inl rfl) htwo8)
            have Q8 := hid (RZ8.out.step (.inl ⟨rfl, rfl⟩) hall8 VU8.out hgb8 hnew8 hold8)
            refine hK.out _ _ ?_ (fun hHeld2 => ?_)
            · exact (cell_of_row _ _ _ _ 70 (0, 0) ((hall8.block _ (by have := HZS8.out; omega) (fun e => by have := (rowsOf_lt GD8.out (VU8.out _ e.symm)).1; omega)).trans VZ8.out)).trans rfl
            clear hK K
            (try simp only [Act.put, List.setIfInBounds_toArray, List.set_cons_zero, List.set_cons_succ])
            refine wpAnyH_ready (rs := [10]) (by kernel_rfl) (by simp) ?_
            refine AllReadyH.cons (o := { dst := none, op := Go.Op.mapUpdate 68 (Go.Operand.tmp 29) (Go.Operand.tmp 30) (Go.Operand.tmp 37), type := 0, pos := _, after := #[{ on := 1, ground := Go.Ground.data }, { on := 2, ground := Go.Ground.data }, { on := 9, ground := Go.Ground.data }, { on := 9, ground := Go.Ground.chain }, { on := 0, ground := Go.Ground.phase }, { on := 1, ground := Go.Ground.phase }, { on := 2, ground := Go.Ground.phase }, { on := 3, ground := Go.Ground.phase }, { on := 4, ground := Go.Ground.phase }, { on := 5, ground := Go.Ground.phase }, { on := 6, ground := Go.Ground.phase }, { on := 7, ground := Go.Ground.phase }, { on := 8, ground := Go.Ground.phase }, { on := 9, ground := Go.Ground.phase }], guard := none }) rfl (fun K hK => ?_) AllReadyH.nil
            refine if_take (by rfl) ?_
            refine wp_mapUpd (.tmp 29) (.tmp 30) (.tmp 37) 68 rfl rfl rfl rfl hup8 ?_
            refine hK.out _ _ ?_ (fun hHeld3 => ?_)
            · exact (cell_of_row _ _ _ _ 70 (0, 0) N8.out.var).trans rfl
            clear hK K
            refine wpAnyH_done (by kernel_rfl) ?_ _
            clear hall8 hup8 htwo8 hgb8 hnew8 hold8 hown8 hgr8 hloc8
            go_wp2_with (fail)
            have ZD9 := hid ((Below.refl wb.heap.size wb).drew)
            have NZ9 := hid (N8.out.keep ZD9.out)
            have RZ9 := hid (Q8.out.keep N8.out ZD9.out)
            obtain ⟨u9, lk9, ou9, hn9, vu9, mo9⟩ := NZ9.out.two.swap.more (by omega) z (by omega) (k : Int) (by omega)
            obtain ⟨D9, hD9, _⟩ := NZ9.out.two.swap.m
            have LK9 := hid lk9
            have OU9 := hid ou9
            have VU9 := hid vu9
            have MO9 := hid mo9
            have GD9 := hid hD9
            have HMX9 : Hid ((whoF E1 z).length + 1 ≤ maxLen) := hid (by unfold maxLen; omega)
            have HBY9 : Hid (((whoF E1 z).length + 1) * 8 ≤ 140737488355328) := hid (by omega)
            have HZS9 := hid NZ9.out.size
            have ZA9 := hid ((Below.refl wb.drew.heap.size wb.drew).alloc (Nat.le_refl _) (.cells #[.int .i64 (k : Int)] 3))
            have VZ9 := hid NZ9.out.var
            have z9 : wb.drew.cell? ⟨w.heap.size + 4, 1, none⟩ = some (.map (some (w.heap.size + 3))) := (cell_of_row _ _ _ _ 70 (0, 0) VZ9.out).trans rfl
            clear lk9 ou9 vu9 mo9 hD9 hn9 ZD9
            go_wp2_with (fail)
            refine wp_region_held_drew (S := fun V => V.cell? ⟨w.heap.size + 4, 1, none⟩ = some (.map (some (w.heap.size + 3)))) (by kernel_rfl) ?_ (fun hHeld => ?_)
            · exact z9
            refine wpAnyH_take (i := 0) (oi := { dst := some 38, op := Go.Op.fieldAddr 70 (Go.Operand.tmp 3) 1, type := 0, pos := _, after := #[], guard := none }) (v := ?_) rfl (by kernel_rfl) (by kernel_rfl) (by kernel_rfl) (fun _ _ _ h => h) (Or.inl ⟨by rfl, ?_⟩) (by assumption) ?_
            rotate_left
            · intro w hSw; (try dsimp only at hSw); go_simp <;> first | with_reducible rfl | (rw [if_neg (by omega)])
            simp only [Act.put, List.setIfInBounds_toArray, List.set_cons_zero, List.set_cons_succ]
            refine wpAnyH_take (i := 1) (oi := { dst := some 39, op := Go.Op.load 68 (Go.Operand.tmp 38), type := 68, pos := _, after := #[{ on := 0, ground := Go.Ground.data }], guard := none }) (v := ?_) rfl (by kernel_rfl) (by kernel_rfl) (by kernel_rfl) (fun _ _ _ h => h) (Or.inl ⟨by rfl, ?_⟩) (by assumption) ?_
            rotate_left
            · intro w hSw; (try dsimp only at hSw); go_simp <;> first | with_reducible rfl | (rw [if_neg (by omega)])
            simp only [Act.put, List.setIfInBounds_toArray, List.set_cons_zero, List.set_cons_succ]
            refine wpAnyH_take (i := 2) (oi := { dst := some 40, op := Go.Op.move (Go.Operand.tmp 7), type := 3, pos := _, after := #[], guard := none }) (v := ?_) rfl (by kernel_rfl) (by kernel_rfl) (by kernel_rfl) (fun _ _ _ h => h) (Or.inl ⟨by rfl, ?_⟩) (by assumption) ?_
            rotate_left
            · intro w hSw; (try dsimp only at hSw); go_simp <;> first | with_reducible rfl | (rw [if_neg (by omega)])
            simp only [Act.put, List.setIfInBounds_toArray, List.set_cons_zero, List.set_cons_succ]
            refine wpAnyH_take (i := 3) (oi := { dst := some 41, op := Go.Op.fieldAddr 70 (Go.Operand.tmp 3) 1, type := 0, pos := _, after := #[], guard := none }) (v := ?_) rfl (by kernel_rfl) (by kernel_rfl) (by kernel_rfl) (fun _ _ _ h => h) (Or.inl ⟨by rfl, ?_⟩) (by assumption) ?_
            rotate_left
            · intro w hSw; (try dsimp only at hSw); go_simp <;> first | with_reducible rfl | (rw [if_neg (by omega)])
            simp only [Act.put, List.setIfInBounds_toArray, List.set_cons_zero, List.set_cons_succ]
            refine wpAnyH_take (i := 4) (oi := { dst := some 42, op := Go.Op.load 68 (Go.Operand.tmp 41), type := 68, pos := _, after := #[{ on := 3, ground := Go.Ground.data }], guard := none }) (v := ?_) rfl (by kernel_rfl) (by kernel_rfl) (by kernel_rfl) (fun _ _ _ h => h) (Or.inl ⟨by rfl, ?_⟩) (by assumption) ?_
            rotate_left
            · intro w hSw; (try dsimp only at hSw); go_simp <;> first | with_reducible rfl | (rw [if_neg (by omega)])
            simp only [Act.put, List.setIfInBounds_toArray, List.set_cons_zero, List.set_cons_succ]
            refine wpAnyH_take (i := 5) (oi := { dst := some 43, op := Go.Op.move (Go.Operand.tmp 7), type := 3, pos := _, after := #[], guard := none }) (v := ?_) rfl (by kernel_rfl) (by kernel_rfl) (by kernel_rfl) (fun _ _ _ h => h) (Or.inl ⟨by rfl, ?_⟩) (by assumption) ?_
            rotate_left
            · intro w hSw; (try dsimp only at hSw); go_simp <;> first | with_reducible rfl | (rw [if_neg (by omega)])
            simp only [Act.put, List.setIfInBounds_toArray, List.set_cons_zero, List.set_cons_succ]
            refine wpAnyH_take (i := 7) (oi := { dst := some 45, op := Go.Op.move (Go.Operand.tmp 4), type := 3, pos := _, after := #[], guard := none }) (v := ?_) rfl (by kernel_rfl) (by kernel_rfl) (by kernel_rfl) (fun _ _ _ h => h) (Or.inl ⟨by rfl, ?_⟩) (by assumption) ?_
            rotate_left
            · intro w hSw; (try dsimp only at hSw); go_simp <;> first | with_reducible rfl | (rw [if_neg (by omega)])
            simp only [Act.put, List.setIfInBounds_toArray, List.set_cons_zero, List.set_cons_succ]
            refine wpAnyH_ready (rs := [6, 8]) (by kernel_rfl) (by simp) ?_
            refine AllReadyH.cons (o := { dst := some 44, op := Go.Op.lookup 68 (Go.Operand.tmp 42) (Go.Operand.tmp 43) false, type := 35, pos := _, after := #[{ on := 4, ground := Go.Ground.data }, { on := 5, ground := Go.Ground.data }], guard := none }) rfl (fun K hK => ?_) (AllReadyH.cons (o := { dst := some 46, op := Go.Op.buildSlice 35 1 #[(0, Go.Operand.tmp 45)], type := 35, pos := _, after := #[{ on := 7, ground := Go.Ground.data }], guard := none }) rfl (fun K hK => ?_) AllReadyH.nil)
            · refine if_take (by rfl) ?_
              refine wp_look (.tmp 42) (.tmp 43) 68 rfl rfl rfl (LK9.out _ rfl) ?_
              refine hK.out _ _ ?_ (fun hHeldL => ?_)
              · exact z9
              clear hK K
              (try simp only [Act.put, List.setIfInBounds_toArray, List.set_cons_zero, List.set_cons_succ])
              refine wpAnyH_ready (rs := [8]) (by kernel_rfl) (by simp) ?_
              refine AllReadyH.cons (o := { dst := some 46, op := Go.Op.buildSlice 35 1 #[(0, Go.Operand.tmp 45)], type := 35, pos := _, after := #[{ on := 7, ground := Go.Ground.data }], guard := none }) rfl (fun K hK => ?_) AllReadyH.nil
              go_simp
              refine hK.out _ _ ?_ (fun hHeldA => ?_)
              · exact cell_kept z9 ZA9.out
              clear hK K
              (try simp only [Act.put, List.setIfInBounds_toArray, List.set_cons_zero, List.set_cons_succ])
              refine wpAnyH_ready (rs := [9]) (by kernel_rfl) (by simp) ?_
              refine AllReadyH.cons (o := { dst := some 47, op := Go.Op.call { callee := Go.Callee.builtin Go.Builtin.append, args := #[Go.Operand.tmp 44, Go.Operand.tmp 46], argTypes := #[35, 35] }, type := 35, pos := _, after := #[{ on := 6, ground := Go.Ground.data }, { on := 8, ground := Go.Ground.data }], guard := none }) rfl (fun K hK => ?_) AllReadyH.nil
              refine if_take (by rfl) ?_
              refine wp_append_at (.tmp 44) (.tmp 46) 35 rfl (w.heap.size + 5) 3 i0 _ 1 8 Tryd.underlying35 hi hz0 hz1 hz2 rfl (by decide) u9 _ _ rfl (OU9.out.alloc _) ⟨wb.drew.heap.size, 0, none⟩ 1 1 [.int .i64 (k : Int)] rfl rfl (cell_one_new _ _ _) (by simp [Value.oneCell']) HMX9.out HBY9.out (Nat.le_trans HZS9.out ZA9.out.size) ?_
              intro v9 wa hown9 hgr9 _ hloc9
              have hall9 : wb.drew.grownBy wa u9.ownBlock := (World.grownBy_alloc _ _ _).trans hgr9
              obtain ⟨wc, hup9, htwo9, hgb9, hnew9, hold9⟩ := MO9.out wa v9 hall9 hown9 (hloc9.imp id (fun h => ⟨_, h, by simp⟩))
              have N9 := hid (NZ9.out.step hall9 (fun j hj => (rowsOf_lt GD9.out (VU9.out j hj)).1) hgb9 (.inr rfl) htwo9.swap)
              have Q9 := hid (RZ9.out.step (.inr ⟨rfl, rfl⟩) hall9 VU9.out hgb9 hnew9 hold9)
              refine hK.out _ _ ?_ (fun hHeld2 => ?_)
              · exact (cell_of_row _ _ _ _ 70 (0, 0) ((hall9.block _ (by have := HZS9.out; omega) (fun e => by have := (rowsOf_lt GD9.out (VU9.out _ e.symm)).1; omega)).trans VZ9.out)).trans rfl
              clear hK K
              (try simp only [Act.put, List.setIfInBounds_toArray, List.set_cons_zero, List.set_cons_succ])
              refine wpAnyH_ready (rs := [10]) (by kernel_rfl) (by simp) ?_
              refine AllReadyH.cons (o := { dst := none, op := Go.Op.mapUpdate 68 (Go.Operand.tmp 39) (Go.Operand.tmp 40) (Go.Operand.tmp 47), type := 0, pos := _, after := #[{ on := 1, ground := Go.Ground.data }, { on := 2, ground := Go.Ground.data }, { on := 9, ground := Go.Ground.data }, { on := 9, ground := Go.Ground.chain }, { on := 0, ground := Go.Ground.phase }, { on := 1, ground := Go.Ground.phase }, { on := 2, ground := Go.Ground.phase }, { on := 3, ground := Go.Ground.phase }, { on := 4, ground := Go.Ground.phase }, { on := 5, ground := Go.Ground.phase }, { on := 6, ground := Go.Ground.phase }, { on := 7, ground := Go.Ground.phase }, { on := 8, ground := Go.Ground.phase }, { on := 9, ground := Go.Ground.phase }], guard := none }) rfl (fun K hK => ?_) AllReadyH.nil
              refine if_take (by rfl) ?_
              refine wp_mapUpd (.tmp 39) (.tmp 40) (.tmp 47) 68 rfl rfl rfl rfl hup9 ?_
              refine hK.out _ _ ?_ (fun hHeld3 => ?_)
              · exact (cell_of_row _ _ _ _ 70 (0, 0) N9.out.var).trans rfl
              clear hK K
              refine wpAnyH_done (by kernel_rfl) ?_ _
              clear hall9 hup9 htwo9 hgb9 hnew9 hold9 hown9 hgr9 hloc9
              go_wp2_with (fail)
              go_roundw
              case rel => exact ⟨j + 1, by omega, by go_num, hid ⟨by rw [HS1.out, whom_snoc, who_snoc, List.length_append, Nat.mul_add]; exact N9.out, Q9.out⟩⟩
              case measure => simp [intOf]; omega
            · go_simp
              refine hK.out _ _ ?_ (fun hHeldA => ?_)
              · exact cell_kept z9 ZA9.out
              clear hK K
              (try simp only [Act.put, List.setIfInBounds_toArray, List.set_cons_zero, List.set_cons_succ])
              refine wpAnyH_ready (rs := [6]) (by kernel_rfl) (by simp) ?_
              refine AllReadyH.cons (o := { dst := some 44, op := Go.Op.lookup 68 (Go.Operand.tmp 42) (Go.Operand.tmp 43) false, type := 35, pos := _, after := #[{ on := 4, ground := Go.Ground.data }, { on := 5, ground := Go.Ground.data }], guard := none }) rfl (fun K hK => ?_) AllReadyH.nil
              refine if_take (by rfl) ?_
              refine wp_look (.tmp 42) (.tmp 43) 68 rfl rfl rfl (LK9.out _ (ZA9.out.block _ (by have := HZS9.out; omega))) ?_
              refine hK.out _ _ ?_ (fun hHeldL => ?_)
              · exact cell_kept z9 ZA9.out
              clear hK K
              (try simp only [Act.put, List.setIfInBounds_toArray, List.set_cons_zero, List.set_cons_succ])
              refine wpAnyH_ready (rs := [9]) (by kernel_rfl) (by simp) ?_
              refine AllReadyH.cons (o := { dst := some 47, op := Go.Op.call { callee := Go.Callee.builtin Go.Builtin.append, args := #[Go.Operand.tmp 44, Go.Operand.tmp 46], argTypes := #[35, 35] }, type := 35, pos := _, after := #[{ on := 6, ground := Go.Ground.data }, { on := 8, ground := Go.Ground.data }], guard := none }) rfl (fun K hK => ?_) AllReadyH.nil
              refine if_take (by rfl) ?_
              refine wp_append_at (.tmp 44) (.tmp 46) 35 rfl (w.heap.size + 5) 3 i0 _ 1 8 Tryd.underlying35 hi hz0 hz1 hz2 rfl (by decide) u9 _ _ rfl (OU9.out.alloc _) ⟨wb.drew.heap.size, 0, none⟩ 1 1 [.int .i64 (k : Int)] rfl rfl (cell_one_new _ _ _) (by simp [Value.oneCell']) HMX9.out HBY9.out (Nat.le_trans HZS9.out ZA9.out.size) ?_
              intro v9 wa hown9 hgr9 _ hloc9
              have hall9 : wb.drew.grownBy wa u9.ownBlock := (World.grownBy_alloc _ _ _).trans hgr9
              obtain ⟨wc, hup9, htwo9, hgb9, hnew9, hold9⟩ := MO9.out wa v9 hall9 hown9 (hloc9.imp id (fun h => ⟨_, h, by simp⟩))
              have N9 := hid (NZ9.out.step hall9 (fun j hj => (rowsOf_lt GD9.out (VU9.out j hj)).1) hgb9 (.inr rfl) htwo9.swap)
              have Q9 := hid (RZ9.out.step (.inr ⟨rfl, rfl⟩) hall9 VU9.out hgb9 hnew9 hold9)
              refine hK.out _ _ ?_ (fun hHeld2 => ?_)
              · exact (cell_of_row _ _ _ _ 70 (0, 0) ((hall9.block _ (by have := HZS9.out; omega) (fun e => by have := (rowsOf_lt GD9.out (VU9.out _ e.symm)).1; omega)).trans VZ9.out)).trans rfl
              clear hK K
              (try simp only [Act.put, List.setIfInBounds_toArray, List.set_cons_zero, List.set_cons_succ])
              refine wpAnyH_ready (rs := [10]) (by kernel_rfl) (by simp) ?_
              refine AllReadyH.cons (o := { dst := none, op := Go.Op.mapUpdate 68 (Go.Operand.tmp 39) (Go.Operand.tmp 40) (Go.Operand.tmp 47), type := 0, pos := _, after := #[{ on := 1, ground := Go.Ground.data }, { on := 2, ground := Go.Ground.data }, { on := 9, ground := Go.Ground.data }, { on := 9, ground := Go.Ground.chain }, { on := 0, ground := Go.Ground.phase }, { on := 1, ground := Go.Ground.phase }, { on := 2, ground := Go.Ground.phase }, { on := 3, ground := Go.Ground.phase }, { on := 4, ground := Go.Ground.phase }, { on := 5, ground := Go.Ground.phase }, { on := 6, ground := Go.Ground.phase }, { on := 7, ground := Go.Ground.phase }, { on := 8, ground := Go.Ground.phase }, { on := 9, ground := Go.Ground.phase }], guard := none }) rfl (fun K hK => ?_) AllReadyH.nil
              refine if_take (by rfl) ?_
              refine wp_mapUpd (.tmp 39) (.tmp 40) (.tmp 47) 68 rfl rfl rfl rfl hup9 ?_
              refine hK.out _ _ ?_ (fun hHeld3 => ?_)
              · exact (cell_of_row _ _ _ _ 70 (0, 0) N9.out.var).trans rfl
              clear hK K
              refine wpAnyH_done (by kernel_rfl) ?_ _
              clear hall9 hup9 htwo9 hgb9 hnew9 hold9 hown9 hgr9 hloc9
              go_wp2_with (fail)
              go_roundw
              case rel => exact ⟨j + 1, by omega, by go_num, hid ⟨by rw [HS1.out, whom_snoc, who_snoc, List.length_append, Nat.mul_add]; exact N9.out, Q9.out⟩⟩
              case measure => simp [intOf]; omega
        · have hjl' : ¬ (j : Int) < (l.length : Int) := by omega
          obtain rfl : j = l.length := by omega
          have HJ1 := hid HJ.out.1
          rw [List.take_length] at HJ1
          go_wp2_with (fail)
          go_roundw
          case rel => exact ⟨k + 1, by omega, by go_num, hid (by rw [HEK.out]; exact HJ1.out)⟩
          case measure => simp [intOf]; omega
    · have hlt' : ¬ (k : Int) < (p.flows.length : Int) := by omega
      obtain rfl : k = p.flows.length := by omega
      have hv := HN.out.var
      have z0 : wr.cell? ⟨w.heap.size + 4, 0, none⟩ = some (.map (some (w.heap.size + 2))) := (cell_of_row _ _ _ _ 70 (0, 0) hv).trans rfl
      have z1 : wr.cell? ⟨w.heap.size + 4, 1, none⟩ = some (.map (some (w.heap.size + 3))) := (cell_of_row _ _ _ _ 70 (0, 0) hv).trans rfl
      clear hv
      have HRS := hid HN.out.res
      go_wp2_with (refine wpList_store_row rfl 70 _ _ rfl (w.heap.size + 1) #[.map (some (w.heap.size + 2)), .map (some (w.heap.size + 3))] rfl rfl 70 _ HRS.out info70 rfl (by simp [Value.oneCell']) ?_)
      refine bodyPost_ret (results_cell_row rfl _ _ (w.heap.size + 1) 70 #[.map (some (w.heap.size + 2)), .map (some (w.heap.size + 3))] (0, 0) _ rfl (setRow_heap _ _ _ _ _ _ HRS.out) Tryd.underlying70 rfl info70) rfl ⟨rfl, HN.out.two.grown (grown_row _ _ _) (by omega) (by omega) (by omega), below_row HN.out.below HN.out.below.size (by omega) _⟩
end Go.Proofs.YtjdlmhkfaodkgaaDoor.Lex
namespace Go.Proofs.YtjdlmhkfaodkgaaDoor.Lex
/-- So many steps lead from one to another. -/
def Rch (rows : Nat → List Nat) : Nat → Nat → Nat → Prop
  | 0, a, b => a = b
  | k + 1, a, b => ∃ c, Rch rows k a c ∧ b ∈ rows c
/-- What is known: in how many steps. -/
def updS (st : Nat → Option Nat) (y d : Nat) : Nat → Option Nat := fun u => if u = y then some d else st u
/-- Those that are new are put behind the line. -/
def pushL (d : Nat) : List Nat → (Nat → Option Nat) → List Nat → (Nat → Option Nat) × List Nat
  | [], st, line => (st, line)
  | y :: ys, st, line => if st y = none then pushL d ys (updS st y (d + 1)) (line ++ [y]) else pushL d ys st line
/-- One after the other, each with in how many steps. -/
def bfsL (rows : Nat → List Nat) : Nat → (Nat → Option Nat) → List Nat → List (Nat × Nat)
  | 0, _, _ => []
  | _ + 1, _, [] => []
  | f + 1, st, x :: line => (x, (st x).getD 0) :: bfsL rows f (pushL ((st x).getD 0) (rows x) st line).1 (pushL ((st x).getD 0) (rows x) st line).2
/-- What holds all the way. -/
structure Bi (rows : Nat → List Nat) (a n : Nat) (st : Nat → Option Nat) (done line : List Nat) : Prop where
  sound : ∀ y d, st y = some d → Rch rows d a y
  known : ∀ y, st y ≠ none ↔ y ∈ done ∨ y ∈ line
  nodup : (done ++ line).Nodup
  small : ∀ y ∈ done ++ line, y < n
  sorted : line.Pairwise fun u v => (st u).getD 0 ≤ (st v).getD 0
  near : ∀ x l, line = x :: l → ∀ y d, st y = some d → d ≤ (st x).getD 0 + 1
  closed : ∀ x ∈ done, ∀ y ∈ rows x, ∃ e, st y = some e ∧ e ≤ (st x).getD 0 + 1
/-- What holds while the successors of one are gone through. -/
structure Pi (rows : Nat → List Nat) (a n : Nat) (x : Nat) (st0 st : Nat → Option Nat) (done line : List Nat) : Prop where
  old : ∀ y d, st0 y = some d → st y = some d
  sound : ∀ y d, st y = some d → Rch rows d a y
  known : ∀ y, st y ≠ none ↔ y ∈ done ∨ y ∈ x :: line
  nodup : (done ++ x :: line).Nodup
  small : ∀ y ∈ done ++ x :: line, y < n
  sorted : (x :: line).Pairwise fun u v => (st u).getD 0 ≤ (st v).getD 0
  near : ∀ y d, st y = some d → d ≤ (st x).getD 0 + 1
theorem push_pi {rows : Nat → List Nat} {a n x d : Nat} {st0 : Nat → Option Nat} {done : List Nat} (hd : st0 x = some d) (hn : ∀ y ∈ rows x, y < n) :
    ∀ (ys : List Nat) (st : Nat → Option Nat) (line : List Nat), (∀ y ∈ ys, y ∈ rows x) → Pi rows a n x st0 st done line →
      Pi rows a n x st0 (pushL d ys st line).1 done (pushL d ys st line).2 ∧ (∀ y ∈ ys, ∃ e, (pushL d ys st line).1 y = some e ∧ e ≤ d + 1) ∧ (∀ y e, st y = some e → (pushL d ys st line).1 y = some e)
  | [], st, line, _, h => ⟨h, ⟨(fun y hy => by cases hy), fun y e he => he⟩⟩
  | y :: ys, st, line, hy, h => by
    have hx : st x = some d := h.old x d hd
    rw [pushL]
    by_cases hs : st y = none
    · rw [if_pos hs]
      have hyx : y ∈ rows x := hy y (List.mem_cons_self ..)
      have hnk : ¬ (y ∈ done ∨ y ∈ x :: line) := fun hk => (h.known y).2 hk hs
      have hne : ∀ u e, st u = some e → u ≠ y := fun u e he hu => by rw [hu, hs] at he; cases he
      have hup : ∀ u e, st u = some e → updS st y (d + 1) u = some e := fun u e he => by unfold updS; rw [if_neg (hne u e he)]; exact he
      have hP : Pi rows a n x st0 (updS st y (d + 1)) done (line ++ [y]) := by
        refine ⟨fun u e he => hup u e (h.old u e he), ?_, ?_, ?_, ?_, ?_, ?_⟩
        · intro u e he
          unfold updS at he
          by_cases hu : u = y
          · rw [if_pos hu] at he
            obtain rfl := Option.some.inj he
            rw [hu]
            exact ⟨x, h.sound x d hx, hyx⟩
          · rw [if_neg hu] at he; exact h.sound u e he
        · intro u
          unfold updS
          by_cases hu : u = y
          · rw [if_pos hu, hu]; simp
          · rw [if_neg hu, h.known u]; simp [hu]
        · rw [show done ++ x :: (line ++ [y]) = (done ++ x :: line) ++ [y] by simp]
          rw [List.nodup_append]
          refine ⟨h.nodup, by simp, ?_⟩
          intro u hu v hv
          have hv' : v = y := by simpa using hv
          intro e
          rw [e, hv'] at hu
          exact hnk (by simpa using hu)
        · intro u hu
          rw [show done ++ x :: (line ++ [y]) = (done ++ x :: line) ++ [y] by simp] at hu
          rcases List.mem_append.1 hu with hu | hu
          · exact h.small u hu
          · rw [List.mem_singleton.1 hu]; exact hn y hyx
        · rw [show x :: (line ++ [y]) = (x :: line) ++ [y] by simp]
          have hk : ∀ u ∈ x :: line, updS st y (d + 1) u = st u := fun u hu => by
            unfold updS
            rw [if_neg]
            intro e
            rw [e] at hu
            exact hnk (.inr hu)
          rw [List.pairwise_append]
          refine ⟨?_, by simp, ?_⟩
          · refine List.Pairwise.imp_of_mem ?_ h.sorted
            intro u v hu hv huv
            rw [hk u hu, hk v hv]; exact huv
          · intro u hu v hv
            rw [List.mem_singleton.1 hv, hk u hu]
            have : (updS st y (d + 1) y).getD 0 = d + 1 := by unfold updS; simp
            rw [this]
            cases hsu : st u with
            | none => simp
            | some e =>
              have := h.near u e hsu
              rw [hx] at this
              simpa using this
        · intro u e he
          have hxu : updS st y (d + 1) x = some d := hup x d hx
          rw [hxu]
          show e ≤ d + 1
          unfold updS at he
          by_cases hu : u = y
          · rw [if_pos hu] at he; obtain rfl := Option.some.inj he; omega
          · rw [if_neg hu] at he
            have := h.near u e he
            rw [hx] at this
            exact this
      obtain ⟨r1, r2, r3⟩ := push_pi hd hn ys (updS st y (d + 1)) (line ++ [y]) (fun z hz => hy z (List.mem_cons_of_mem _ hz)) hP
      refine ⟨r1, ?_, fun u e he => r3 u e (hup u e he)⟩
      intro z hz
      rcases List.mem_cons.1 hz with rfl | hz
      · exact ⟨d + 1, r3 z (d + 1) (by unfold updS; simp), Nat.le_refl _⟩
      · exact r2 z hz
    · rw [if_neg hs]
      obtain ⟨r1, r2, r3⟩ := push_pi hd hn ys st line (fun z hz => hy z (List.mem_cons_of_mem _ hz)) h
      refine ⟨r1, ?_, r3⟩
      intro z hz
      rcases List.mem_cons.1 hz with rfl | hz
      · obtain ⟨e, he⟩ := Option.ne_none_iff_exists'.1 hs
        refine ⟨e, r3 z e he, ?_⟩
        have := h.near z e he
        rw [hx] at this
        exact this
      · exact r2 z hz
theorem bi_step {rows : Nat → List Nat} {a n x : Nat} {st : Nat → Option Nat} {done line : List Nat} (hn : ∀ z, ∀ y ∈ rows z, y < n) (h : Bi rows a n st done (x :: line)) :
    Bi rows a n (pushL ((st x).getD 0) (rows x) st line).1 (done ++ [x]) (pushL ((st x).getD 0) (rows x) st line).2 ∧ (∀ y e, st y = some e → (pushL ((st x).getD 0) (rows x) st line).1 y = some e) := by
  obtain ⟨d, hd⟩ := Option.ne_none_iff_exists'.1 ((h.known x).2 (.inr (List.mem_cons_self ..)))
  have e0 : (st x).getD 0 = d := by rw [hd]; rfl
  rw [e0]
  have hP : Pi rows a n x st st done line := ⟨fun _ _ h => h, h.sound, h.known, h.nodup, h.small, h.sorted, fun y e he => h.near x line rfl y e he⟩
  obtain ⟨r1, r2, r3⟩ := push_pi hd (hn x) (rows x) st line (fun _ h => h) hP
  have hx2 := r3 x d hd
  refine ⟨⟨r1.sound, ?_, ?_, ?_, ?_, ?_, ?_⟩, r3⟩
  · intro y
    rw [r1.known y]
    simp only [List.mem_cons, List.mem_append, List.not_mem_nil, or_false]
    constructor
    · rintro (h | h | h)
      · exact .inl (.inl h)
      · exact .inl (.inr h)
      · exact .inr h
    · rintro ((h | h) | h)
      · exact .inl h
      · exact .inr (.inl h)
      · exact .inr (.inr h)
  · have := r1.nodup
    rwa [show done ++ x :: (pushL d (rows x) st line).2 = (done ++ [x]) ++ (pushL d (rows x) st line).2 by simp] at this
  · have := r1.small
    rwa [show done ++ x :: (pushL d (rows x) st line).2 = (done ++ [x]) ++ (pushL d (rows x) st line).2 by simp] at this
  · exact (List.pairwise_cons.1 r1.sorted).2
  · intro z l hz y e he
    have h1 := r1.near y e he
    have h2 := (List.pairwise_cons.1 r1.sorted).1 z (by rw [hz]; exact List.mem_cons_self ..)
    rw [hx2] at h1 h2
    simp at h1 h2
    omega
  · intro z hz y hy
    rcases List.mem_append.1 hz with hz | hz
    · obtain ⟨e, he, hl⟩ := h.closed z hz y hy
      obtain ⟨dz, hdz⟩ := Option.ne_none_iff_exists'.1 ((h.known z).2 (.inl hz))
      refine ⟨e, r3 y e he, ?_⟩
      rw [hdz] at hl
      rw [r3 z dz hdz]
      exact hl
    · rw [List.mem_singleton.1 hz] at hy ⊢
      obtain ⟨e, he, hl⟩ := r2 y hy
      refine ⟨e, he, ?_⟩
      rw [hx2]
      exact hl
/-- How many there may be. -/
theorem nodup_le : ∀ (n : Nat) (l : List Nat), l.Nodup → (∀ y ∈ l, y < n) → l.length ≤ n
  | 0, l, _, h => by
    cases l with
    | nil => simp
    | cons a l => exact absurd (h a (List.mem_cons_self ..)) (by omega)
  | n + 1, l, hd, h => by
    have := nodup_le n (l.erase n) (hd.erase n) (fun y hy => by
      have h1 := h y (List.mem_of_mem_erase hy)
      have h2 : y ≠ n := fun e => by rw [e] at hy; exact (List.Nodup.not_mem_erase hd) hy
      omega)
    have hl : l.length ≤ (l.erase n).length + 1 := by
      rw [List.length_erase]
      split <;> omega
    omega
theorem bfs_end {rows : Nat → List Nat} {a n : Nat} (hn : ∀ z, ∀ y ∈ rows z, y < n) : ∀ (f : Nat) (st : Nat → Option Nat) (done line : List Nat), Bi rows a n st done line → n + 1 ≤ f + done.length →
    ∃ st', Bi rows a n st' (done ++ (bfsL rows f st line).map (·.1)) [] ∧ (∀ y e, st y = some e → st' y = some e) ∧ ∀ q ∈ bfsL rows f st line, st' q.1 = some q.2
  | 0, st, done, line, h, hf => by
    have := nodup_le n done (List.nodup_append.1 h.nodup).1 (fun y hy => h.small y (List.mem_append.2 (.inl hy)))
    omega
  | f + 1, st, done, [], h, hf => ⟨st, by simpa [bfsL] using h, fun _ _ h => h, fun q hq => by simp [bfsL] at hq⟩
  | f + 1, st, done, x :: line, h, hf => by
    obtain ⟨h1, h2⟩ := bi_step hn h
    obtain ⟨st', r1, r2, r3⟩ := bfs_end hn f _ _ _ h1 (by simp; omega)
    refine ⟨st', ?_, fun y e he => r2 y e (h2 y e he), ?_⟩
    · rw [bfsL]
      simpa using r1
    · intro q hq
      rw [bfsL] at hq
      rcases List.mem_cons.1 hq with rfl | hq
      · obtain ⟨d, hd⟩ := Option.ne_none_iff_exists'.1 ((h.known x).2 (.inr (List.mem_cons_self ..)))
        have := r2 x d (h2 x d hd)
        rw [this, hd]; rfl
      · exact r3 q hq
/-- All that is come to from one on. -/
def reachL (rows : Nat → List Nat) (n a : Nat) : List (Nat × Nat) := bfsL rows (n + 1) (fun u => if u = a then some 0 else none) [a]
/-- In how few steps. -/
def Dst (rows : Nat → List Nat) (a b d : Nat) : Prop := Rch rows d a b ∧ ∀ k, Rch rows k a b → d ≤ k
theorem reach_spec {rows : Nat → List Nat} {n a : Nat} (hn : ∀ z, ∀ y ∈ rows z, y < n) (ha : a < n) : ((reachL rows n a).map (·.1)).Nodup ∧ (∀ y ∈ (reachL rows n a).map (·.1), y < n) ∧ (∀ y d, (y, d) ∈ reachL rows n a ↔ Dst rows a y d) := by
  have h0 : Bi rows a n (fun u => if u = a then some 0 else none) [] [a] := by
    refine ⟨?_, ?_, by simp, by simpa using ha, by simp, ?_, by simp⟩
    · intro y d h
      by_cases e : y = a
      · rw [if_pos e] at h; obtain rfl := Option.some.inj h; exact e.symm
      · rw [if_neg e] at h; cases h
    · intro y
      by_cases e : y = a
      · simp [e]
      · simp [e]
    · intro x l hx y d h
      by_cases e : y = a
      · rw [if_pos e] at h; obtain rfl := Option.some.inj h; omega
      · rw [if_neg e] at h; cases h
  obtain ⟨st, h1, h2, h3⟩ := bfs_end hn (n + 1) _ _ _ h0 (by simp)
  rw [List.nil_append] at h1
  have h1 : Bi rows a n st ((reachL rows n a).map (·.1)) [] := h1
  have h3 : ∀ q ∈ reachL rows n a, st q.1 = some q.2 := h3
  have ha0 : st a = some 0 := h2 a 0 (if_pos rfl)
  have hk : ∀ k y, Rch rows k a y → ∃ e, st y = some e ∧ e ≤ k := by
    intro k
    induction k with
    | zero => intro y hy; exact ⟨0, by rw [← (show a = y from hy)]; exact ha0, Nat.le_refl _⟩
    | succ k ih =>
      rintro y ⟨c, hc, hy⟩
      obtain ⟨e, he, hl⟩ := ih c hc
      have hm : c ∈ (reachL rows n a).map (·.1) := ((h1.known c).1 (by rw [he]; simp)).resolve_right (by simp)
      obtain ⟨e', he', hl'⟩ := h1.closed c hm y hy
      rw [he] at hl'
      simp at hl'
      exact ⟨e', he', by omega⟩
  have hst : ∀ y d, st y = some d ↔ Dst rows a y d := by
    intro y d
    constructor
    · intro h
      refine ⟨h1.sound y d h, fun k hr => ?_⟩
      obtain ⟨e, he, hl⟩ := hk k y hr
      rw [h] at he
      obtain rfl := Option.some.inj he
      exact hl
    · rintro ⟨hr, hl⟩
      obtain ⟨e, he, hle⟩ := hk d y hr
      have := hl e (h1.sound y e he)
      rw [he]
      congr 1
      omega
  refine ⟨by have := h1.nodup; rwa [List.append_nil] at this, fun y hy => h1.small y (by rw [List.append_nil]; exact hy), fun y d => ?_⟩
  rw [← hst]
  constructor
  · intro h; exact h3 (y, d) h
  · intro h
    have hm : y ∈ (reachL rows n a).map (·.1) := ((h1.known y).1 (by rw [h]; simp)).resolve_right (by simp)
    obtain ⟨q, hq, rfl⟩ := List.mem_map.1 hm
    have := h3 q hq
    rw [h] at this
    obtain rfl := Option.some.inj this
    exact hq
end Go.Proofs.YtjdlmhkfaodkgaaDoor.Lex
namespace Go.Proofs.YtjdlmhkfaodkgaaDoor.Lex
theorem rch_front {rows : Nat → List Nat} : ∀ (k a b : Nat), Rch rows (k + 1) a b ↔ ∃ c, c ∈ rows a ∧ Rch rows k c b
  | 0, a, b => by
    constructor
    · rintro ⟨c, hc, hb⟩
      have e : a = c := hc
      rw [← e] at hb
      exact ⟨b, hb, rfl⟩
    · rintro ⟨c, hc, e⟩
      have e' : c = b := e
      rw [e'] at hc
      exact ⟨a, rfl, hc⟩
  | k + 1, a, b => by
    constructor
    · rintro ⟨c, hc, hb⟩
      obtain ⟨d, hd, hr⟩ := (rch_front k a c).1 hc
      exact ⟨d, hd, c, hr, hb⟩
    · rintro ⟨d, hd, c, hr, hb⟩
      exact ⟨c, (rch_front k a c).2 ⟨d, hd, hr⟩, hb⟩
theorem rch_back {rows who : Nat → List Nat} (hr : ∀ i j, j ∈ rows i ↔ i ∈ who j) : ∀ (k a b : Nat), Rch who k a b ↔ Rch rows k b a
  | 0, a, b => ⟨fun h => h.symm, fun h => h.symm⟩
  | k + 1, a, b => by
    rw [rch_front k b a]
    constructor
    · rintro ⟨c, hc, hb⟩
      exact ⟨c, (hr b c).2 hb, (rch_back hr k a c).1 hc⟩
    · rintro ⟨c, hc, hb⟩
      exact ⟨c, (rch_back hr k a c).2 hb, (hr b c).1 hc⟩
/-- Does it come back? -/
def leadB (rows : Nat → List Nat) (n a : Nat) : Bool := (reachL rows n a).any fun q => (rows q.1).contains a
theorem dst_of {rows : Nat → List Nat} {a b : Nat} : ∀ (k : Nat), Rch rows k a b → ∃ d, d ≤ k ∧ Dst rows a b d := by
  intro k
  induction k using Nat.strongRecOn with
  | ind k ih =>
    intro h
    by_cases hm : ∃ j, j < k ∧ Rch rows j a b
    · obtain ⟨j, hj, hr⟩ := hm
      obtain ⟨d, hd, hD⟩ := ih j hj hr
      exact ⟨d, by omega, hD⟩
    · refine ⟨k, Nat.le_refl _, h, fun j hj => ?_⟩
      by_cases hlt : j < k
      · exact (hm ⟨j, hlt, hj⟩).elim
      · omega
theorem lead_spec {rows : Nat → List Nat} {n a : Nat} (hn : ∀ z, ∀ y ∈ rows z, y < n) (ha : a < n) : leadB rows n a = true ↔ ∃ k, Rch rows (k + 1) a a := by
  unfold leadB
  rw [List.any_eq_true]
  constructor
  · rintro ⟨q, hq, hc⟩
    have h := ((reach_spec hn ha).2.2 q.1 q.2).1 hq
    exact ⟨q.2, q.1, h.1, by simpa using hc⟩
  · rintro ⟨k, c, hc, hm⟩
    obtain ⟨d, _, hD⟩ := dst_of k hc
    exact ⟨(c, d), ((reach_spec hn ha).2.2 c d).2 hD, by simpa using hm⟩
/-- In how many steps it comes home. -/
def stp (who : Nat → List Nat) (n home y : Nat) : Option Nat := ((reachL who n home).find? fun q => q.1 == y).map (·.2)
theorem stp_spec {who : Nat → List Nat} {n a : Nat} (hn : ∀ z, ∀ y ∈ who z, y < n) (ha : a < n) (y d : Nat) : stp who n a y = some d ↔ Dst who a y d := by
  rw [← (reach_spec hn ha).2.2 y d]
  unfold stp
  constructor
  · intro h
    obtain ⟨q, hq, e⟩ := Option.map_eq_some_iff.1 h
    have h1 := List.mem_of_find?_eq_some hq
    have h2 := List.find?_some hq
    have h3 : q.1 = y := by simpa using h2
    rw [← h3, ← e]
    exact h1
  · intro h
    cases hf : (reachL who n a).find? (fun q => q.1 == y) with
    | none =>
      rw [List.find?_eq_none] at hf
      exact absurd (hf (y, d) h) (by simp)
    | some q =>
      have h1 := List.mem_of_find?_eq_some hf
      have h2 := List.find?_some hf
      have h3 : q.1 = y := by simpa using h2
      have hA := ((reach_spec hn ha).2.2 q.1 q.2).1 h1
      have hB := ((reach_spec hn ha).2.2 y d).1 h
      rw [h3] at hA
      have e1 := hA.2 d hB.1
      have e2 := hB.2 q.2 hA.1
      simp only [Option.map_some, Option.some.injEq]
      omega
/-- The first one of those that have the fewest. -/
def nearF (st : Nat → Option Nat) : List Nat → Option (Nat × Nat) → Option (Nat × Nat)
  | [], b => b
  | y :: ys, b => nearF st ys (match st y with
    | none => b
    | some f => match b with
      | none => some (y, f)
      | some g => if f < g.2 then some (y, f) else some g)
def nearN (st : Nat → Option Nat) (ys : List Nat) : Nat := ((nearF st ys none).map (·.1)).getD 0
theorem near_spec (st : Nat → Option Nat) : ∀ (ys : List Nat) (b : Option (Nat × Nat)), (∀ g, b = some g → st g.1 = some g.2) →
    (∀ z m, nearF st ys b = some (z, m) → st z = some m ∧ (z ∈ ys ∨ b = some (z, m)) ∧ (∀ y ∈ ys, ∀ f, st y = some f → m ≤ f) ∧ (∀ g, b = some g → m ≤ g.2)) ∧ (nearF st ys b = none → b = none ∧ ∀ y ∈ ys, st y = none)
  | [], b, hb => by
    refine ⟨fun z m h => ?_, fun h => ⟨h, fun y hy => by cases hy⟩⟩
    have h' : b = some (z, m) := h
    refine ⟨hb _ h', .inr h', (fun y hy => by cases hy), fun g hg => ?_⟩
    rw [h'] at hg
    obtain rfl := Option.some.inj hg
    exact Nat.le_refl _
  | y :: ys, b, hb => by
    rw [nearF]
    cases hy : st y with
    | none =>
      obtain ⟨r1, r2⟩ := near_spec st ys b hb
      refine ⟨fun z m h => ?_, fun h => ?_⟩
      · obtain ⟨a1, a2, a3, a4⟩ := r1 z m h
        refine ⟨a1, a2.imp_left (List.mem_cons_of_mem _), fun u hu f hf => ?_, a4⟩
        rcases List.mem_cons.1 hu with rfl | hu
        · rw [hy] at hf; cases hf
        · exact a3 u hu f hf
      · obtain ⟨a1, a2⟩ := r2 h
        exact ⟨a1, fun u hu => by rcases List.mem_cons.1 hu with rfl | hu; exact hy; exact a2 u hu⟩
    | some f =>
      cases b with
      | none =>
        obtain ⟨r1, r2⟩ := near_spec st ys (some (y, f)) (fun g hg => by obtain rfl := Option.some.inj hg; exact hy)
        refine ⟨fun z m h => ?_, fun h => ?_⟩
        · obtain ⟨a1, a2, a3, a4⟩ := r1 z m h
          refine ⟨a1, .inl ?_, fun u hu e he => ?_, fun g hg => by cases hg⟩
          · rcases a2 with a2 | a2
            · exact List.mem_cons_of_mem _ a2
            · have e := Option.some.inj a2
              injection e with e1 e2
              rw [e1]; exact List.mem_cons_self ..
          · rcases List.mem_cons.1 hu with rfl | hu
            · rw [hy] at he
              obtain rfl := Option.some.inj he
              exact a4 _ rfl
            · exact a3 u hu e he
        · exact absurd (r2 h).1 (by simp)
      | some g =>
        by_cases hlt : f < g.2
        · simp only [hlt, if_true]
          obtain ⟨r1, r2⟩ := near_spec st ys (some (y, f)) (fun g hg => by obtain rfl := Option.some.inj hg; exact hy)
          refine ⟨fun z m h => ?_, fun h => ?_⟩
          · obtain ⟨a1, a2, a3, a4⟩ := r1 z m h
            have h4 := a4 _ rfl
            refine ⟨a1, .inl ?_, fun u hu e he => ?_, fun g' hg => ?_⟩
            · rcases a2 with a2 | a2
              · exact List.mem_cons_of_mem _ a2
              · have e := Option.some.inj a2
                injection e with e1 e2
                rw [e1]; exact List.mem_cons_self ..
            · rcases List.mem_cons.1 hu with rfl | hu
              · rw [hy] at he
                obtain rfl := Option.some.inj he
                exact h4
              · exact a3 u hu e he
            · obtain rfl := Option.some.inj hg
              simp only at h4
              omega
          · exact absurd (r2 h).1 (by simp)
        · simp only [hlt, if_false]
          obtain ⟨r1, r2⟩ := near_spec st ys (some g) hb
          refine ⟨fun z m h => ?_, fun h => ?_⟩
          · obtain ⟨a1, a2, a3, a4⟩ := r1 z m h
            have h4 := a4 _ rfl
            refine ⟨a1, a2.imp_left (List.mem_cons_of_mem _), fun u hu e he => ?_, a4⟩
            rcases List.mem_cons.1 hu with rfl | hu
            · rw [hy] at he
              obtain rfl := Option.some.inj he
              omega
            · exact a3 u hu e he
          · exact absurd (r2 h).1 (by simp)
theorem near_some {st : Nat → Option Nat} {ys : List Nat} {y f : Nat} (hy : y ∈ ys) (hf : st y = some f) : ∃ m, nearN st ys ∈ ys ∧ st (nearN st ys) = some m ∧ ∀ u ∈ ys, ∀ e, st u = some e → m ≤ e := by
  obtain ⟨r1, r2⟩ := near_spec st ys none (fun g hg => by cases hg)
  cases h : nearF st ys none with
  | none => rw [(r2 h).2 y hy] at hf; cases hf
  | some q =>
    obtain ⟨z, m⟩ := q
    obtain ⟨a1, a2, a3, _⟩ := r1 z m h
    have e : nearN st ys = z := by unfold nearN; rw [h]; rfl
    rw [e]
    exact ⟨m, a2.resolve_right (by simp), a1, a3⟩
/-- The way home. -/
def goR (rows : Nat → List Nat) (st : Nat → Option Nat) (home : Nat) : Nat → Nat → List Nat
  | 0, _ => []
  | f + 1, x => if x = home then [] else x :: goR rows st home f (nearN st (rows x))
/-- The circle. -/
def circ (rows who : Nat → List Nat) (n home : Nat) : List Nat := home :: goR rows (stp who n home) home n (nearN (stp who n home) (rows home))
/-- What a way home is: each step is one, and it comes nearer. -/
structure WayH (rows : Nat → List Nat) (st : Nat → Option Nat) (home d x : Nat) (G : List Nat) : Prop where
  len : G.length = d
  at_ : ∀ i (h : i < G.length), st G[i] = some (d - i)
  zero : d = 0 → x = home
  first : 0 < d → G[0]? = some x
  step : ∀ i (h : i + 1 < G.length), G[i + 1] ∈ rows G[i]
  last : 0 < d → ∃ y, G[d - 1]? = some y ∧ home ∈ rows y
theorem go_way {rows who : Nat → List Nat} {n home : Nat} (hw : ∀ z, ∀ y ∈ who z, y < n) (hh : home < n) (hr : ∀ i j, j ∈ rows i ↔ i ∈ who j) :
    ∀ (d x f : Nat), stp who n home x = some d → d ≤ f → WayH rows (stp who n home) home d x (goR rows (stp who n home) home f x)
  | 0, x, f, hx, hf => by
    have hD := (stp_spec hw hh x 0).1 hx
    have e : home = x := hD.1
    subst e
    have hg : goR rows (stp who n home) home f home = [] := by cases f <;> simp [goR]
    rw [hg]
    refine ⟨rfl, fun i h => by simp at h, fun _ => rfl, fun h => by omega, fun i h => by simp at h, fun h => by omega⟩
  | d + 1, x, f, hx, hf => by
    have hD := (stp_spec hw hh x (d + 1)).1 hx
    obtain ⟨f, rfl⟩ : ∃ g, f = g + 1 := ⟨f - 1, by omega⟩
    have hne : x ≠ home := fun e => by
      have := hD.2 0 e.symm
      omega
    obtain ⟨c, hc, hxc⟩ := hD.1
    have hcx : c ∈ rows x := (hr x c).2 hxc
    obtain ⟨e, he, hce⟩ := dst_of d hc
    have hsc := (stp_spec hw hh c e).2 hce
    obtain ⟨m, n1, n2, n3⟩ := near_some hcx hsc
    have hm : m = d := by
      have h1 := n3 c hcx e hsc
      have h2 := (stp_spec hw hh _ m).1 n2
      have h3 := hD.2 (m + 1) ⟨_, h2.1, (hr x _).1 n1⟩
      omega
    rw [hm] at n2
    have ih := go_way hw hh hr d (nearN (stp who n home) (rows x)) f n2 (by omega)
    have hg : goR rows (stp who n home) home (f + 1) x = x :: goR rows (stp who n home) home f (nearN (stp who n home) (rows x)) := by rw [goR, if_neg hne]
    rw [hg]
    generalize hG : goR rows (stp who n home) home f (nearN (stp who n home) (rows x)) = G at ih ⊢
    generalize nearN (stp who n home) (rows x) = z at *
    obtain ⟨i1, i2, i3, i4, i5, i6⟩ := ih
    refine ⟨by simp [i1], ?_, fun h => by omega, fun _ => rfl, ?_, fun _ => ?_⟩
    · intro i hi
      cases i with
      | zero => simpa using hx
      | succ i =>
        have := i2 i (by simpa using hi)
        simp only [List.getElem_cons_succ]
        rw [this]
        congr 1
        omega
    · intro i hi
      cases i with
      | zero =>
        have h0 : 0 < G.length := by simpa using hi
        have := i4 (by omega)
        rw [List.getElem?_eq_getElem h0] at this
        simp only [List.getElem_cons_succ, List.getElem_cons_zero]
        rw [Option.some.inj this]
        exact n1
      | succ i =>
        simp only [List.getElem_cons_succ]
        exact i5 i (by simpa using hi)
    · cases d with
      | zero =>
        refine ⟨x, rfl, ?_⟩
        rw [← i3 rfl]
        exact n1
      | succ d =>
        obtain ⟨y, hy, hm⟩ := i6 (by omega)
        exact ⟨y, by simpa using hy, hm⟩
/-- A circle: each needs the next one, the last one the first; none is there twice; it is as short as there may be. -/
structure CirH (rows : Nat → List Nat) (n home : Nat) (l : List Nat) : Prop where
  nodup : l.Nodup
  small : ∀ y ∈ l, y < n
  step : ∀ i (h : i < l.length), l[(i + 1) % l.length]'(Nat.mod_lt _ (by omega)) ∈ rows l[i]
  back : Rch rows l.length home home
  least : ∀ k, Rch rows (k + 1) home home → l.length ≤ k + 1
theorem circ_spec {rows who : Nat → List Nat} {n home : Nat} (hn : ∀ z, ∀ y ∈ rows z, y < n) (hw : ∀ z, ∀ y ∈ who z, y < n) (hh : home < n) (hr : ∀ i j, j ∈ rows i ↔ i ∈ who j) (hl : leadB rows n home = true) : CirH rows n home (circ rows who n home) := by
  obtain ⟨k0, hk0⟩ := (lead_spec hn hh).1 hl
  have key : ∀ k, Rch rows (k + 1) home home → ∃ c e, c ∈ rows home ∧ stp who n home c = some e ∧ e ≤ k := fun k hk => by
    obtain ⟨c, hc, hcr⟩ := (rch_front k home home).1 hk
    obtain ⟨e, he, hD⟩ := dst_of k ((rch_back hr k home c).2 hcr)
    exact ⟨c, e, hc, (stp_spec hw hh c e).2 hD, he⟩
  obtain ⟨c0, e0, hc0, hs0, _⟩ := key k0 hk0
  obtain ⟨m, n1, n2, n3⟩ := near_some hc0 hs0
  have hDm := (stp_spec hw hh _ m).1 n2
  have hmn : m < n + 1 := by
    have hq := ((reach_spec hw hh).2.2 _ m).2 hDm
    have hlen := nodup_le n _ (reach_spec hw hh).1 (reach_spec hw hh).2.1
    have : ∀ j, j ≤ m → ∃ y, Dst who home y j := by
      intro j hj
      have hback : ∀ (i : Nat) (y : Nat), Dst who home y (j + i) → ∃ y, Dst who home y j := by
        intro i
        induction i with
        | zero => intro y h; exact ⟨y, h⟩
        | succ i ih =>
          rintro y ⟨⟨c, hc, hyc⟩, hmin⟩
          obtain ⟨d, hd, hDc⟩ := dst_of (j + i) hc
          have := hmin (d + 1) ⟨c, hDc.1, hyc⟩
          have e : d = j + i := by omega
          rw [e] at hDc
          exact ih c hDc
      exact hback (m - j) _ (by rw [show j + (m - j) = m by omega]; exact hDm)
    have hsub : ∀ j, j ≤ m → j ∈ (reachL who n home).map (·.2) := fun j hj => by
      obtain ⟨y, hy⟩ := this j hj
      exact List.mem_map.2 ⟨(y, j), ((reach_spec hw hh).2.2 y j).2 hy, rfl⟩
    have hle : (List.range (m + 1)).length ≤ ((reachL who n home).map (·.2)).length := by
      have hs : List.range (m + 1) ⊆ (reachL who n home).map (·.2) := fun j hj => hsub j (by have := List.mem_range.1 hj; omega)
      exact (List.nodup_range).length_le_of_subset hs
    simp at hle hlen
    omega
  obtain ⟨g1, g2, g3, g4, g5, g6⟩ := go_way hw hh hr m _ n n2 (by omega)
  have hc : circ rows who n home = home :: goR rows (stp who n home) home n (nearN (stp who n home) (rows home)) := rfl
  rw [hc]
  generalize hz : nearN (stp who n home) (rows home) = z at *
  generalize goR rows (stp who n home) home n z = G at *
  have hst0 : stp who n home home = some 0 := (stp_spec hw hh home 0).2 ⟨rfl, fun k _ => Nat.zero_le _⟩
  refine ⟨?_, ?_, ?_, ?_, ?_⟩
  · rw [List.nodup_cons]
    constructor
    · intro hm
      obtain ⟨i, hi, e⟩ := List.getElem_of_mem hm
      have := g2 i hi
      rw [e, hst0] at this
      have := Option.some.inj this
      omega
    · rw [List.nodup_iff_pairwise_ne, List.pairwise_iff_getElem]
      intro i j hi hj hij e
      have a1 := g2 i hi
      have a2 := g2 j hj
      rw [e, a2] at a1
      have := Option.some.inj a1
      omega
  · intro y hy
    rcases List.mem_cons.1 hy with rfl | hy
    · exact hh
    · obtain ⟨i, hi, rfl⟩ := List.getElem_of_mem hy
      have hD := (stp_spec hw hh _ _).1 (g2 i hi)
      have hq := ((reach_spec hw hh).2.2 _ _).2 hD
      exact (reach_spec hw hh).2.1 _ (List.mem_map.2 ⟨_, hq, rfl⟩)
  · intro i hi
    have hlen : (home :: G).length = m + 1 := by simp [g1]
    by_cases hlast : i = m
    · subst hlast
      have e : (i + 1) % (home :: G).length = 0 := by rw [hlen]; exact Nat.mod_self _
      simp only [e, List.getElem_cons_zero]
      cases i with
      | zero =>
        simp only [List.getElem_cons_zero]
        have e := g3 rfl
        rw [e] at n1
        exact n1
      | succ i =>
        obtain ⟨y, hy, hm⟩ := g6 (by omega)
        simp only [List.getElem_cons_succ]
        rw [List.getElem?_eq_getElem (by omega)] at hy
        have := Option.some.inj hy
        simp only [Nat.add_sub_cancel] at this
        rw [this]
        exact hm
    · have hi' : i < m := by rw [hlen] at hi; omega
      have e : (i + 1) % (home :: G).length = i + 1 := by rw [hlen]; exact Nat.mod_eq_of_lt (by omega)
      simp only [e, List.getElem_cons_succ]
      cases i with
      | zero =>
        simp only [List.getElem_cons_zero]
        have := g4 (by omega)
        rw [List.getElem?_eq_getElem (by omega)] at this
        rw [Option.some.inj this]
        exact n1
      | succ i =>
        simp only [List.getElem_cons_succ]
        exact g5 i (by omega)
  · simp only [List.length_cons, g1]
    exact (rch_front m home home).2 ⟨z, n1, (rch_back hr m home z).1 hDm.1⟩
  · intro k hk
    obtain ⟨c, e, hc, hs, hle⟩ := key k hk
    have := n3 c hc e hs
    simp only [List.length_cons, g1]
    omega
end Go.Proofs.YtjdlmhkfaodkgaaDoor.Lex
namespace Go.Proofs.YtjdlmhkfaodkgaaDoor.Lex
theorem name_eq (a b : ByteArray) : (a.toList == b.toList) = decide (b.data.toList = a.data.toList) := by
  rw [ByteArray.toList_eq, ByteArray.toList_eq]
  by_cases e : b.data.toList = a.data.toList
  · rw [decide_eq_true e, e]; simp
  · rw [decide_eq_false e]; simp; intro h; exact e (by rw [h])
theorem cntT_app (a b : List (Int × Hd)) (u : List UInt8) : cntT (a ++ b) u = cntT a u + cntT b u := by
  unfold cntT; rw [List.filter_append, List.length_append]
theorem free_of_none {l : List (Int × Hd)} {name : ByteArray} (h : cntT l name.data.toList = 0) : Free l name := fun x hx => by
  rw [name_eq]
  unfold cntT at h
  have h' := List.eq_nil_of_length_eq_zero h
  rw [List.filter_eq_nil_iff] at h'
  have := h' x hx
  simpa using this
theorem none_of_free {l : List (Int × Hd)} {name : ByteArray} (h : Free l name) : cntT l name.data.toList = 0 := by
  unfold cntT
  rw [List.length_eq_zero_iff, List.filter_eq_nil_iff]
  intro x hx
  have := h x hx
  rw [name_eq] at this
  simpa using this
/-- What is there once is found. -/
theorem find_once {l pre post : List (Int × Hd)} {x : Int × Hd} (hl : l = pre ++ x :: post) (h : ¬ 1 < cntT l x.2.name.data.toList) : findT l x.2.name = some x := by
  subst hl
  have h1 : cntT [x] x.2.name.data.toList = 1 := by simp [cntT]
  have h2 : x :: post = [x] ++ post := rfl
  rw [h2, cntT_app, cntT_app, h1] at h
  refine findT_some (pre := pre) ⟨post, by simp⟩ (free_of_none (by omega)) ?_
  simp
/-- What is there is found. -/
theorem find_some {l : List (Int × Hd)} {name : ByteArray} (h : cntT l name.data.toList ≠ 0) : ∃ x, findT l name = some x := by
  cases e : findT l name with
  | some x => exact ⟨x, rfl⟩
  | none =>
    refine (h (none_of_free fun x hx => ?_)).elim
    unfold findT at e
    rw [List.find?_eq_none] at e
    simpa using e x hx
theorem nmErr_zero {p : Pg} (h : nmErr p = 0) : pgOk p = true ∧ nmOk p = true := by
  unfold nmErr at h
  split at h
  · next h1 =>
    split at h
    · next h2 => exact ⟨h1, h2⟩
    · omega
  · omega
theorem once {p : Pg} (h : nmOk p = true) {x : Int × Hd} (hx : x ∈ thingsL p) : ¬ 1 < cntT (thingsL p) x.2.name.data.toList := by
  unfold nmOk at h
  simp only [Bool.and_eq_true, List.all_eq_true] at h
  have := h.1 x hx
  simpa [twice] using this
theorem find_in_ok {p : Pg} (h : nmOk p = true) (i : Nat) (hi : i < p.ins.length) : findT (thingsL p) p.ins[i].name = some (-1, p.ins[i]) := by
  have hl : thingsL p = (insL p).take i ++ (-1, p.ins[i]) :: ((insL p).drop (i + 1) ++ flowsL p) := by
    have := insL_succ p i hi
    unfold thingsL
    conv => lhs; rw [← List.take_append_drop (i + 1) (insL p), this]
    simp
  exact find_once (x := (-1, p.ins[i])) hl (once h (by rw [hl]; simp))
theorem find_flow_ok {p : Pg} (h : nmOk p = true) (i : Nat) (hi : i < p.flows.length) : findT (thingsL p) p.flows[i].name = some ((i : Int), p.flows[i].hd) := by
  have hl : thingsL p = (insL p ++ (flowsL p).take i) ++ ((i : Int), p.flows[i].hd) :: (flowsL p).drop (i + 1) := by
    have := flowsL_succ p i hi
    unfold thingsL
    conv => lhs; rw [← List.take_append_drop (i + 1) (flowsL p), this]
    simp
  exact find_once (x := ((i : Int), p.flows[i].hd)) hl (once h (by rw [hl]; simp))
theorem find_asked_ok {p : Pg} (h : nmOk p = true) {s : ByteArray} (hs : s ∈ askedL p) : ∃ x, findT (thingsL p) s = some x := by
  unfold nmOk at h
  simp only [Bool.and_eq_true, List.all_eq_true] at h
  have := h.2.1 s hs
  exact find_some (by simpa [none_] using this)
theorem find_out_ok {p : Pg} (h : nmOk p = true) {s : ByteArray} (hs : s ∈ p.outs) : ∃ x, findT (thingsL p) s = some x := by
  unfold nmOk at h
  simp only [Bool.and_eq_true, List.all_eq_true] at h
  have := h.2.2 s hs
  refine find_some ?_
  simp [none_] at this
  exact this.1
theorem asked_mem {p : Pg} {i : Nat} (hi : i < p.flows.length) {k : Nat} (hk : k < (gat 32 p.flows[i].body 0 []).length) : (gat 32 p.flows[i].body 0 [])[k].1 ∈ askedL p :=
  List.mem_flatMap.2 ⟨p.flows[i], List.getElem_mem hi, List.mem_map.2 ⟨_, List.getElem_mem hk, rfl⟩⟩
end Go.Proofs.YtjdlmhkfaodkgaaDoor.Lex
namespace Go.Proofs.YtjdlmhkfaodkgaaDoor.Lex
theorem edges_mem (p : Pg) (d : Nat) : ∀ (n : Nat) (e : Int × Int), e ∈ edges p d n ↔ ∃ k, ∃ h : k < p.flows.length, k < n ∧ e.1 = (k : Int) ∧ e.2 ∈ need p d p.flows[k].body
  | 0, e => by simp [edges]
  | n + 1, e => by
    rw [edges, List.mem_append, edges_mem p d n e]
    constructor
    · rintro (⟨k, h, h1, h2⟩ | h)
      · exact ⟨k, h, by omega, h2⟩
      · split at h
        · next hn =>
          obtain ⟨z, hz, rfl⟩ := List.mem_map.1 h
          exact ⟨n, hn, by omega, rfl, hz⟩
        · cases h
    · rintro ⟨k, h, h1, h2, h3⟩
      by_cases e2 : k = n
      · subst e2
        refine .inr ?_
        rw [dif_pos h]
        exact List.mem_map.2 ⟨e.2, h3, by rw [← h2]⟩
      · exact .inl ⟨k, h, by omega, h2, h3⟩
theorem edges_len2 (p : Pg) (d m : Nat) (hm : ∀ f ∈ p.flows, (need p d f.body).length ≤ m) : ∀ k, (edges p d k).length ≤ k * m
  | 0 => by simp [edges]
  | k + 1 => by
    rw [edges, List.length_append, Nat.succ_mul]
    have h1 := edges_len2 p d m hm k
    split
    · next h =>
      have h2 := hm _ (List.getElem_mem h)
      unfold edgesOf
      rw [List.length_map]
      omega
    · simp; omega
/-- Whom a flow needs at once, and who needs it. -/
def rowsP (p : Pg) (k : Nat) : List Nat := (whomF (edges p 32 p.flows.length) (k : Int)).map Int.toNat
def whoP (p : Pg) (k : Nat) : List Nat := (whoF (edges p 32 p.flows.length) (k : Int)).map Int.toNat
theorem rowsP_mem (p : Pg) (i j : Nat) : j ∈ rowsP p i ↔ ∃ h : i < p.flows.length, (j : Int) ∈ need p 32 p.flows[i].body := by
  unfold rowsP whomF
  rw [List.mem_map]
  constructor
  · rintro ⟨z, hz, rfl⟩
    obtain ⟨e, he, hz⟩ := List.mem_filterMap.1 hz
    obtain ⟨k, h, _, h2, h3⟩ := (edges_mem p 32 _ e).1 he
    split at hz
    · next h1 =>
      injection hz with hz
      subst hz
      obtain rfl : k = i := by omega
      have := need_lt p 32 _ _ h3
      exact ⟨h, by rw [Int.toNat_of_nonneg this.1]; exact h3⟩
    · cases hz
  · rintro ⟨h, hj⟩
    exact ⟨(j : Int), List.mem_filterMap.2 ⟨((i : Int), (j : Int)), (edges_mem p 32 _ _).2 ⟨i, h, h, rfl, hj⟩, by simp⟩, by simp⟩
theorem whoP_mem (p : Pg) (i j : Nat) : i ∈ whoP p j ↔ ∃ h : i < p.flows.length, (j : Int) ∈ need p 32 p.flows[i].body := by
  unfold whoP whoF
  rw [List.mem_map]
  constructor
  · rintro ⟨z, hz, rfl⟩
    obtain ⟨e, he, hz⟩ := List.mem_filterMap.1 hz
    obtain ⟨k, h, _, h2, h3⟩ := (edges_mem p 32 _ e).1 he
    split at hz
    · next h1 =>
      injection hz with hz
      subst hz
      rw [h1] at h3
      rw [h2]
      exact ⟨h, h3⟩
    · cases hz
  · rintro ⟨h, hj⟩
    exact ⟨(i : Int), List.mem_filterMap.2 ⟨((i : Int), (j : Int)), (edges_mem p 32 _ _).2 ⟨i, h, h, rfl, hj⟩, by simp⟩, by simp⟩
theorem rows_who (p : Pg) (i j : Nat) : j ∈ rowsP p i ↔ i ∈ whoP p j := by rw [rowsP_mem, whoP_mem]
theorem rowsP_lt (p : Pg) (z : Nat) : ∀ y ∈ rowsP p z, y < p.flows.length := fun y hy => by
  obtain ⟨h, hj⟩ := (rowsP_mem p z y).1 hy
  have := need_lt p 32 _ _ hj
  omega
theorem whoP_lt (p : Pg) (z : Nat) : ∀ y ∈ whoP p z, y < p.flows.length := fun y hy => ((whoP_mem p y z).1 hy).1
theorem toNat_back : ∀ (l : List Int), (∀ z ∈ l, 0 ≤ z) → l = (l.map Int.toNat).map Int.ofNat := fun l h => by
  rw [List.map_map]
  conv => lhs; rw [← List.map_id l]
  refine List.map_congr_left fun z hz => ?_
  have := h z hz
  show z = ((z.toNat : Nat) : Int)
  omega
theorem rows_int (p : Pg) (k : Nat) : whomF (edges p 32 p.flows.length) (k : Int) = (rowsP p k).map Int.ofNat := toNat_back _ fun z hz => by
  obtain ⟨e, he, hz⟩ := List.mem_filterMap.1 hz
  obtain ⟨k, h, _, h2, h3⟩ := (edges_mem p 32 _ e).1 he
  split at hz
  · injection hz with hz
    rw [← hz]
    exact (need_lt p 32 _ _ h3).1
  · cases hz
theorem who_int (p : Pg) (k : Nat) : whoF (edges p 32 p.flows.length) (k : Int) = (whoP p k).map Int.ofNat := toNat_back _ fun z hz => by
  obtain ⟨e, he, hz⟩ := List.mem_filterMap.1 hz
  obtain ⟨k, h, _, h2, h3⟩ := (edges_mem p 32 _ e).1 he
  split at hz
  · injection hz with hz
    rw [← hz, h2]
    omega
  · cases hz
theorem need_len {p : Pg} {x : Ex} (h : chk x = true) : (need p 32 x).length ≤ 200 := by
  unfold need
  rw [srt_len]
  have h1 := nb_len p (gat 32 x 0 [])
  have h2 := gat_len 32 x 0 []
  have h3 := (chk_nm h).2
  simp at h2
  omega
theorem edges_few {p : Pg} (hc : ∀ f ∈ p.flows, chk f.body = true) (hn : p.flows.length ≤ 1000) : (edges p 32 p.flows.length).length ≤ 200000 := by
  have := edges_len2 p 32 200 (fun f hf => need_len (hc f hf)) p.flows.length
  omega
theorem rowsP_len {p : Pg} (hc : ∀ f ∈ p.flows, chk f.body = true) (hn : p.flows.length ≤ 1000) (z : Nat) : (rowsP p z).length ≤ 500000 := by
  unfold rowsP whomF
  rw [List.length_map]
  exact Nat.le_trans (List.length_filterMap_le _ _) (Nat.le_trans (edges_few hc hn) (by omega))
theorem whoP_len {p : Pg} (hc : ∀ f ∈ p.flows, chk f.body = true) (hn : p.flows.length ≤ 1000) (z : Nat) : (whoP p z).length ≤ 500000 := by
  unfold whoP whoF
  rw [List.length_map]
  exact Nat.le_trans (List.length_filterMap_le _ _) (Nat.le_trans (edges_few hc hn) (by omega))
/-- The first flow that lies on a circle. -/
def findI (p : Pg) : Option Nat := (List.range p.flows.length).find? (leadB (rowsP p) p.flows.length)
def circP (p : Pg) : List Nat := match findI p with
  | none => []
  | some k => circ (rowsP p) (whoP p) p.flows.length k
/-- The circle that is told. -/
def findC (p : Pg) : List ByteArray := (circP p).map fun (z : Nat) => nameAt p (z : Int)
theorem findI_some {p : Pg} {k : Nat} (h1 : k < p.flows.length) (h2 : leadB (rowsP p) p.flows.length k = true) (h3 : ∀ j, j < k → leadB (rowsP p) p.flows.length j = false) : findI p = some k := by
  unfold findI
  rw [List.find?_eq_some_iff_append]
  refine ⟨h2, List.range k, (List.range (p.flows.length - k - 1)).map (fun x => k + 1 + x), ?_, fun a ha => ?_⟩
  · have e : p.flows.length = k + (1 + (p.flows.length - k - 1)) := by omega
    conv => lhs; rw [e, List.range_add, List.range_add]
    simp
    intro a ha
    omega
  · rw [h3 a (List.mem_range.1 ha)]
    rfl
theorem findI_none {p : Pg} (h : ∀ j, j < p.flows.length → leadB (rowsP p) p.flows.length j = false) : findI p = none := by
  unfold findI
  rw [List.find?_eq_none]
  intro x hx
  rw [h x (List.mem_range.1 hx)]
  simp
theorem findI_at {p : Pg} {k : Nat} (h : findI p = some k) : k < p.flows.length ∧ leadB (rowsP p) p.flows.length k = true :=
  ⟨List.mem_range.1 (List.mem_of_find?_eq_some h), List.find?_some h⟩
theorem circP_lt {p : Pg} : ∀ z ∈ circP p, z < p.flows.length := by
  unfold circP
  cases h : findI p with
  | none => simp
  | some k =>
    obtain ⟨h1, h2⟩ := findI_at h
    exact (circ_spec (rowsP_lt p) (whoP_lt p) h1 (rows_who p) h2).small
end Go.Proofs.YtjdlmhkfaodkgaaDoor.Lex
namespace Go.Proofs.YtjdlmhkfaodkgaaDoor.Lex
theorem rch_snoc {rows : Nat → List Nat} (L : List Nat) (home : Nat) (h0 : L[0]? = some home) (hs : ∀ i (h : i + 1 < L.length), L[i + 1] ∈ rows L[i]) : ∀ i (h : i < L.length), Rch rows i home L[i]
  | 0, h => by
    rw [List.getElem?_eq_getElem h] at h0
    injection h0 with h0
    rw [h0]
    rfl
  | i + 1, h => ⟨L[i], rch_snoc L home h0 hs i (by omega), hs i h⟩
/-- A circle each step of which but the last is the only one. -/
theorem circ_is {rows : Nat → List Nat} {n home : Nat} {l L : List Nat} (hl : CirH rows n home l) (l0 : l[0]? = some home) (L0 : L[0]? = some home) (hnd : L.Nodup)
    (only : ∀ i (h : i + 1 < L.length), ∀ y ∈ rows L[i], y = L[i + 1]) (hs : ∀ i (h : i + 1 < L.length), L[i + 1] ∈ rows L[i]) (last : ∀ i (h : i < L.length), i + 1 = L.length → home ∈ rows L[i]) : l = L := by
  have hl1 : 0 < l.length := by
    rcases Nat.eq_zero_or_pos l.length with h | h
    · rw [List.length_eq_zero_iff.1 h] at l0; cases l0
    · exact h
  have hL1 : 0 < L.length := by
    rcases Nat.eq_zero_or_pos L.length with h | h
    · rw [List.length_eq_zero_iff.1 h] at L0; cases L0
    · exact h
  have hle : l.length ≤ L.length := by
    have h1 := rch_snoc L home L0 hs (L.length - 1) (by omega)
    have h2 : Rch rows (L.length - 1 + 1) home home := ⟨_, h1, last _ (by omega) (by omega)⟩
    have := hl.least _ h2
    omega
  have same : ∀ i (h : i < l.length), l[i] = L[i] := by
    intro i
    induction i with
    | zero =>
      intro h
      rw [List.getElem?_eq_getElem h] at l0
      rw [List.getElem?_eq_getElem hL1] at L0
      rw [← L0] at l0
      injection l0
    | succ i ih =>
      intro h
      have e := ih (by omega)
      have h1 := hl.step i (by omega)
      have e2 : (i + 1) % l.length = i + 1 := Nat.mod_eq_of_lt h
      simp only [e2] at h1
      rw [e] at h1
      exact only i (by omega) _ h1
  have hge : L.length ≤ l.length := by
    rcases Nat.lt_or_ge l.length L.length with h | h
    · exfalso
      have h1 := hl.step (l.length - 1) (by omega)
      have e2 : (l.length - 1 + 1) % l.length = 0 := by rw [Nat.sub_add_cancel hl1, Nat.mod_self]
      simp only [e2] at h1
      rw [same (l.length - 1) (by omega), same 0 hl1] at h1
      have h2 := only (l.length - 1) (by omega) _ h1
      have h3 := (List.getElem_inj hnd).1 h2
      omega
    · exact h
  refine List.ext_getElem (by omega) fun i h1 h2 => same i h1
/-- Where each step leads lower nothing leads back. -/
theorem rch_lower {rows : Nat → List Nat} (rk : Nat → Nat) (h : ∀ i, ∀ y ∈ rows i, rk y < rk i) : ∀ (k a b : Nat), Rch rows k a b → rk b + k ≤ rk a
  | 0, a, b, e => by
    have e : a = b := e
    rw [e]; omega
  | k + 1, a, b, ⟨c, hc, hb⟩ => by
    have h1 := rch_lower rk h k a c hc
    have h2 := h c b hb
    omega
theorem lead_lower {rows : Nat → List Nat} {n : Nat} (hn : ∀ z, ∀ y ∈ rows z, y < n) (rk : Nat → Nat) (h : ∀ i, ∀ y ∈ rows i, rk y < rk i) {a : Nat} (ha : a < n) : leadB rows n a = false := by
  rw [Bool.eq_false_iff]
  intro e
  obtain ⟨k, hk⟩ := (lead_spec hn ha).1 e
  have := rch_lower rk h _ _ _ hk
  omega
/-- What nobody needs lies on no circle. -/
theorem lead_lone {rows : Nat → List Nat} {n : Nat} (hn : ∀ z, ∀ y ∈ rows z, y < n) {a : Nat} (h : ∀ i, a ∉ rows i) (ha : a < n) : leadB rows n a = false := by
  rw [Bool.eq_false_iff]
  intro e
  obtain ⟨k, c, _, hc⟩ := (lead_spec hn ha).1 e
  exact h c hc
theorem circ_zero (rows who : Nat → List Nat) (n home : Nat) : (circ rows who n home)[0]? = some home := rfl
/-- One more behind all that nobody else needs: ways from the others are as they were. -/
theorem rch_more {rows rows' : Nat → List Nat} {n : Nat} (hn : ∀ z, ∀ y ∈ rows z, y < n) (he : ∀ z, z < n → rows' z = rows z) : ∀ (k a b : Nat), a < n → (Rch rows' k a b ↔ Rch rows k a b)
  | 0, a, b, _ => Iff.rfl
  | k + 1, a, b, ha => by
    have lt : ∀ k c, Rch rows k a c → c < n := fun k c h => by
      cases k with
      | zero =>
        have h : a = c := h
        omega
      | succ k =>
        obtain ⟨d, _, hd⟩ := h
        exact hn d c hd
    constructor
    · rintro ⟨c, hc, hb⟩
      have hc := (rch_more hn he k a c ha).1 hc
      rw [he c (lt k c hc)] at hb
      exact ⟨c, hc, hb⟩
    · rintro ⟨c, hc, hb⟩
      refine ⟨c, (rch_more hn he k a c ha).2 hc, ?_⟩
      rw [he c (lt k c hc)]
      exact hb
theorem lead_more {rows rows' : Nat → List Nat} {n : Nat} (hn : ∀ z, ∀ y ∈ rows z, y < n) (hn' : ∀ z, ∀ y ∈ rows' z, y < n + 1) (he : ∀ z, z < n → rows' z = rows z) {a : Nat} (ha : a < n) : leadB rows' (n + 1) a = leadB rows n a := by
  rw [Bool.eq_iff_iff, lead_spec hn' (by omega), lead_spec hn ha]
  constructor
  · rintro ⟨k, hk⟩
    exact ⟨k, (rch_more hn he _ _ _ ha).1 hk⟩
  · rintro ⟨k, hk⟩
    exact ⟨k, (rch_more hn he _ _ _ ha).2 hk⟩
theorem near_more (st st' : Nat → Option Nat) : ∀ (ys : List Nat) (b : Option (Nat × Nat)), (∀ y ∈ ys, st' y = st y) → nearF st' ys b = nearF st ys b
  | [], b, _ => rfl
  | y :: ys, b, h => by
    unfold nearF
    rw [h y (by simp)]
    cases st y with
    | none => exact near_more st st' ys b (fun z hz => h z (by simp [hz]))
    | some d => exact near_more st st' ys _ (fun z hz => h z (by simp [hz]))
end Go.Proofs.YtjdlmhkfaodkgaaDoor.Lex
namespace Go.Proofs.YtjdlmhkfaodkgaaDoor.Lex
/-- The names of the things, in their order. -/
def namesOf (p : Pg) : List ByteArray := p.ins.map (·.name) ++ p.flows.map (·.name)
theorem things_names (p : Pg) : (thingsL p).map (fun x => x.2.name) = namesOf p := by
  unfold thingsL namesOf
  rw [List.map_append]
  congr 1
  · unfold insL; rw [List.map_map]; rfl
  · apply List.ext_getElem
    · simp [flowsL]
    · intro i h1 h2
      have hi : i < p.flows.length := by simpa using h2
      simp [flowsL, hi, Fl.hd]
/-- How many of them have the name. -/
def cntN (l : List ByteArray) (u : List UInt8) : Nat := (l.filter fun s => decide (u = s.data.toList)).length
theorem cntT_names (p : Pg) (u : List UInt8) : cntT (thingsL p) u = cntN (namesOf p) u := by
  rw [← things_names]
  unfold cntT cntN
  rw [List.filter_map, List.length_map]
  rfl
theorem all_names (p : Pg) (f : ByteArray → Bool) : (thingsL p).all (fun x => f x.2.name) = (namesOf p).all f := by
  rw [← things_names, List.all_map]
  rfl
theorem cntN_perm {l l' : List ByteArray} (h : l.Perm l') (u : List UInt8) : cntN l u = cntN l' u := (h.filter _).length_eq
theorem all_perm {α : Type} {l l' : List α} (h : l.Perm l') (f : α → Bool) : l.all f = l'.all f := by
  rw [Bool.eq_iff_iff, List.all_eq_true, List.all_eq_true]
  exact ⟨fun k x hx => k x (h.mem_iff.2 hx), fun k x hx => k x (h.mem_iff.1 hx)⟩
/-- With its flows in another order. -/
theorem nmOk_perm {p q : Pg} (hi : q.ins = p.ins) (ho : q.outs = p.outs) (hf : q.flows.Perm p.flows) : nmOk q = nmOk p := by
  have hn : (namesOf q).Perm (namesOf p) := by unfold namesOf; rw [hi]; exact (hf.map _).append_left _
  have hc : ∀ u, cntT (thingsL q) u = cntT (thingsL p) u := fun u => by rw [cntT_names, cntT_names]; exact cntN_perm hn u
  have h1 : ∀ s, twice q s = twice p s := fun s => by unfold twice; rw [hc]
  have h2 : ∀ s, none_ q s = none_ p s := fun s => by unfold none_; rw [hc]
  have h3 : ∀ s, told q s = told p s := fun s => by unfold told; rw [ho]
  have ha : (askedL q).Perm (askedL p) := by unfold askedL; exact hf.flatMap_right _
  unfold nmOk
  rw [all_names q (fun s => !twice q s), all_names p (fun s => !twice p s)]
  simp only [h1, h2, h3]
  rw [all_perm hn, all_perm ha, ho]
theorem pgOk_perm {p q : Pg} (hs : q.st = p.st) (hi : q.ins = p.ins) (ho : q.outs = p.outs) (hf : q.flows.Perm p.flows) : pgOk q = pgOk p := by
  unfold pgOk roomOk
  rw [hs, hi, ho, hf.length_eq, all_perm hf]
theorem nmErr_perm {p q : Pg} (hs : q.st = p.st) (hi : q.ins = p.ins) (ho : q.outs = p.outs) (hf : q.flows.Perm p.flows) : nmErr q = nmErr p := by
  unfold nmErr
  rw [pgOk_perm hs hi ho hf, nmOk_perm hi ho hf]
end Go.Proofs.YtjdlmhkfaodkgaaDoor.Lex
