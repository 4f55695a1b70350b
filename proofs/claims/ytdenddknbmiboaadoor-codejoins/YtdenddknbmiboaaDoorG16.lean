/-
  Instructions copied, piece by piece.
  Instructions that may be, one less or one more: the whole walk.
  Two lists of instructions, one behind the other: the whole walk.
-/
import Derived.Test.YtdenddknbmiboaaDoorG14
namespace Go.Proofs.YtdenddknbmiboaaDoor.Lex
open Go.ChangeShapes Go.WideShapes Go.ChangeAt Go.RowKit Go.Joins
theorem add_off' (b o j : Nat) : (⟨b, o, none⟩ : Addr).add j = ⟨b, o + j, none⟩ := by unfold Addr.add; split <;> simp_all
theorem own_none (w : World) (B : Nat) (e : TypeId) (s : Nat) : w.ownsRow B e s (.slice none 0 0) 0 [] := ⟨by simp, .inl ⟨rfl, rfl⟩⟩
theorem inssC_one (L : List Cin) : ∀ u ∈ inssC L, u.oneCell' = true := by
  induction L with
  | nil => intro u h; cases h
  | cons a L ih =>
    intro u h
    have h2 : u ∈ insC a ++ inssC L := h
    rcases List.mem_append.1 h2 with h | h
    · simp at h
      rcases h with rfl | rfl | rfl <;> rfl
    · exact ih u h
/-- The cells of a piece of a row that is read. -/
theorem ins_piece {W : World} {g o : Nat} {l : List Cin} (h : ∀ k (h : k < l.length), l[k].op < 256 ∧ ∀ j, j < 3 → W.cell? ⟨g, o + k * 3 + j, none⟩ = (insC l[k])[j]?) (a m : Nat) (hm : a + m ≤ l.length) : ∀ j u, (inssC ((l.drop a).take m))[j]? = some u → W.cell? ((⟨g, o + a * 3, none⟩ : Addr).add j) = some u := by
  intro j u hj
  have hj3 : j < ((l.drop a).take m).length * 3 := by
    have := (List.getElem?_eq_some_iff.1 hj).1
    rwa [inssC_len] at this
  have hlen : ((l.drop a).take m).length = m := by rw [List.length_take, List.length_drop]; omega
  rw [hlen] at hj3
  have e : j = j / 3 * 3 + j % 3 := by omega
  have hq : j / 3 < ((l.drop a).take m).length := by rw [hlen]; omega
  have h2 := inssC_at ((l.drop a).take m) (j / 3) hq (j % 3) (by omega)
  rw [← e, hj] at h2
  have h3 : ((l.drop a).take m)[j / 3] = l[a + j / 3]'(by omega) := by rw [List.getElem_take, List.getElem_drop]
  rw [h3] at h2
  have h4 := (h (a + j / 3) (by omega)).2 (j % 3) (by omega)
  rw [add_off']
  rw [show o + a * 3 + j = o + (a + j / 3) * 3 + j % 3 by omega, h4, ← h2]
end Go.Proofs.YtdenddknbmiboaaDoor.Lex
namespace Go.Proofs.YtdenddknbmiboaaDoor.Lex
open Go.ChangeShapes Go.WideShapes Go.ChangeAt Go.RowKit Go.Joins
abbrev spC (pv lv : Value) (at_ op : Nat) : Array Value := #[pv, lv, .int .u16 (at_ : Int), .int .u8 (op : Int)]
/-- What is put behind them. -/
def opF (op : Nat) : Nat := if op % 6 = 0 then 1 else if op % 6 = 1 then 6 else if op % 6 = 2 then 17 else if op % 6 = 3 then 19 else if op % 6 = 4 then 0 else 18
theorem opF_six (op : Nat) : opF op = 1 ∨ opF op = 6 ∨ opF op = 17 ∨ opF op = 19 ∨ opF op = 0 ∨ opF op = 18 := by
  unfold opF
  split
  · exact .inl rfl
  · split
    · exact .inr (.inl rfl)
    · split
      · exact .inr (.inr (.inl rfl))
      · split
        · exact .inr (.inr (.inr (.inl rfl)))
        · split
          · exact .inr (.inr (.inr (.inr (.inl rfl))))
          · exact .inr (.inr (.inr (.inr (.inr rfl))))
theorem opF_at (op : Nat) : (#[Value.int .u8 1, .int .u8 6, .int .u8 17, .int .u8 19, .int .u8 0, .int .u8 18] : Array Value)[op % 6]? = some (.int .u8 (opF op : Int)) := by
  have h : op % 6 = 0 ∨ op % 6 = 1 ∨ op % 6 = 2 ∨ op % 6 = 3 ∨ op % 6 = 4 ∨ op % 6 = 5 := by omega
  unfold opF
  rcases h with h | h | h | h | h | h <;> rw [h] <;> rfl
set_option maxRecDepth 100000 in
set_option maxHeartbeats 32000000 in
theorem walk4 (ps : List Plc) (l : List Cin) (pv lv : Value) (at_ op : Nat) (ha : at_ < 65536) (ho : op < 256) (W : World) (hR : TabR W) (hJ : TabJ W) (hP : PlR W pv ps) (hL : InR W lv l) : Calls Tryd.prog 4 #[.agg (spC pv lv at_ op)] W fun e w' => e = .returned (.bool true) ∧ Below W.heap.size W w' := by
  have hal := (Below.refl W.heap.size W).alloc (Nat.le_refl _) (.cells (spC pv lv at_ op) 35)
  obtain ⟨pa, pc, rfl, ⟨hpc, hpm⟩, hp0⟩ := id hP
  obtain ⟨la, lc, rfl, ⟨hlc, hlm⟩, hl0⟩ := id hL
  have hr : (W.alloc (.cells (spC (.slice pa ps.length pc) (.slice la l.length lc) at_ op) 35)).heap[W.heap.size]? = some (.cells (spC (.slice pa ps.length pc) (.slice la l.length lc) at_ op) 35 (0, 0)) := heap_alloc_new _ _
  have x0 := (cell_of_row _ _ 0 _ 35 (0, 0) hr).trans rfl
  have x1 := (cell_of_row _ _ 1 _ 35 (0, 0) hr).trans rfl
  have x2 := (cell_of_row _ _ 2 _ 35 (0, 0) hr).trans rfl
  have x3 := (cell_of_row _ _ 3 _ 35 (0, 0) hr).trans rfl
  have HB1 := hid hal
  have HP := hid hP
  have HL := hid hL
  have HTR := hid (And.intro hR hJ)
  have HL0 := hid hl0
  have c9 := codecheck_ ps l _ _ _ (hP.keep hal) (hL.keep hal)
  obtain ⟨i0, hi, hz0, hz1, hz2⟩ := info_parts infoIn
  clear hal hr hP hL hR hJ hp0 hl0
  generalize ht : ckF ps l = t at *
  have HT := hid ht
  clear ht
  by_cases h0 : t = 0
  · subst h0
    go_enter Tryd.func4, Tryd.ntmps4
    go_wp2_with (fail)
    refine c9.mono ?_
    rintro e W2 ⟨rfl, hb2⟩
    have HB2 := hid (HB1.out.trans (hb2.mono HB1.out.size))
    clear hb2 c9
    go_wp2_with (fail)
    refine (lives _ (HTR.out.1.below HB2.out) (HTR.out.2.below HB2.out)).mono ?_
    rintro e w9 ⟨rfl, hb9⟩
    have HB9 := hid (HB2.out.trans (hb9.mono HB2.out.size))
    clear hb9
    go_wp2_with (fail)
    go_ret
    exact ⟨rfl, HB9.out⟩
  · have hok : (!(t == 0)) = true := by rw [beq_eq_false_iff_ne.2 h0]; rfl
    have HT0 := hid h0
    unfold CkP at c9
    rw [hok] at c9
    clear hok h0
    by_cases hbig : 1000 < ps.length ∨ 700 < l.length
    · have hlv : ∀ V : World, Below W.heap.size W V → Calls Tryd.prog 6 #[] V fun e w' => e = .returned (.bool true) ∧ Below V.heap.size V w' := fun V hb => lives V (HTR.out.1.below hb) (HTR.out.2.below hb)
      by_cases hb1 : 1000 < ps.length
      · have hb1' : (ps.length : Int) > 1000 := by omega
        clear hbig hb1
        go_enter Tryd.func4, Tryd.ntmps4
        go_wp2_with (fail)
        refine c9.mono ?_
        rintro e W2 ⟨rfl, hb2⟩
        have HB2 := hid (HB1.out.trans (hb2.mono HB1.out.size))
        clear hb2 c9
        go_wp2_with (fail)
        refine (hlv _ HB2.out).mono ?_
        rintro e w9 ⟨rfl, hb9⟩
        have HB9 := hid (HB2.out.trans (hb9.mono HB2.out.size))
        clear hb9
        go_wp2_with (fail)
        go_ret
        exact ⟨rfl, HB9.out⟩
      · have hb1' : ¬ (ps.length : Int) > 1000 := by omega
        have hb2' : (l.length : Int) > 700 := by omega
        clear hbig hb1
        go_enter Tryd.func4, Tryd.ntmps4
        go_wp2_with (fail)
        refine c9.mono ?_
        rintro e W2 ⟨rfl, hb2⟩
        have HB2 := hid (HB1.out.trans (hb2.mono HB1.out.size))
        clear hb2 c9
        go_wp2_with (fail)
        refine (hlv _ HB2.out).mono ?_
        rintro e w9 ⟨rfl, hb9⟩
        have HB9 := hid (HB2.out.trans (hb9.mono HB2.out.size))
        clear hb9
        go_wp2_with (fail)
        go_ret
        exact ⟨rfl, HB9.out⟩
    · have hb1' : ¬ (ps.length : Int) > 1000 := by omega
      have hb2' : ¬ (l.length : Int) > 700 := by omega
      have hln : l.length ≤ 700 := by omega
      have hl1 : 1 ≤ l.length := by
        cases l with
        | nil => exact absurd (show ckF ps [] = 0 by unfold ckF; split <;> rfl) (by rw [HT.out]; exact HT0.out)
        | cons a l => simp
      obtain ⟨gg, o, rfl, hcc⟩ := HL0.out.resolve_left (by intro e; rw [e] at hl1; simp at hl1)
      have HCC := hid hcc
      have hpos : (0 : Int) < (l.length : Int) := by omega
      have hmx : max (1 : Int) (l.length : Int) = (l.length : Int) := by omega
      obtain ⟨k, hk⟩ : ∃ k, k = at_ % l.length := ⟨_, rfl⟩
      have hkl : k < l.length := by rw [hk]; exact Nat.mod_lt _ (by omega)
      have hke : (at_ : Int) % (l.length : Int) = (k : Int) := by rw [hk]; exact (Int.natCast_emod _ _).symm
      have hkt : (at_ : Int).tmod (l.length : Int) = (k : Int) := by rw [Int.tmod_eq_emod_of_nonneg (by omega)]; exact hke
      have hkl' : ¬ (k : Int) ≥ (l.length : Int) := by omega
      have hkl2 : (k : Int) < (l.length : Int) := by omega
      have hk0 : (0 : Int) ≤ (k : Int) := by omega
      have hkc : (k : Int) ≤ (lc : Int) := by omega
      have hlc' : (l.length : Int) ≤ (lc : Int) := by omega
      obtain ⟨jj, hjj⟩ : ∃ jj, jj = k + 1 := ⟨_, rfl⟩
      obtain ⟨oq, hoq⟩ : ∃ oq, oq = if lc = jj then o else o + jj * 3 := ⟨_, rfl⟩
      have hite : (if lc = jj then some (⟨gg, o, none⟩ : Addr) else some ⟨gg, o + jj * 3, none⟩) = some ⟨gg, oq, none⟩ := by rw [hoq]; split <;> rfl
      have HIT := hid hite
      have hkw : IntKind.i64.wrap ((k : Int) + 1) = (jj : Int) := by rw [IntKind.wrap_i64]; omega
      have hk1 : (jj : Int) ≤ (l.length : Int) := by omega
      have hk2 : (0 : Int) ≤ (jj : Int) := by omega
      have HJJ := hid hjj
      have HOQ := hid hoq
      clear hk hcc hbig hite hjj hoq
      go_enter Tryd.func4, Tryd.ntmps4
      go_wp2_with (fail)
      refine c9.mono ?_
      rintro e W2 ⟨rfl, hb2⟩
      have HB2 := hid (HB1.out.trans (hb2.mono HB1.out.size))
      have HL2 := hid (HL.out.keep HB2.out)
      have HNW : Hid (∀ a m, a + m ≤ l.length → ∀ j u, (inssC ((l.drop a).take m))[j]? = some u → W2.cell? ((⟨gg, o + a * 3, none⟩ : Addr).add j) = some u) := hid (by
        intro a m hm j u hj
        have h1 := ins_piece HCC.out a m hm j u hj
        exact cell_kept h1 HB2.out)
      have HN1 : Hid (∀ j u, (inssC (l.take k))[j]? = some u → W2.cell? ((⟨gg, o, none⟩ : Addr).add j) = some u) := hid (by
        have h := HNW.out 0 k (by omega)
        rw [Nat.zero_mul, Nat.add_zero, List.drop_zero] at h
        exact h)
      have HN2 : Hid (∀ V : World, Below W2.heap.size W2 V → ∀ j u, (inssC (l.drop (k + 1)))[j]? = some u → V.cell? ((⟨gg, oq, none⟩ : Addr).add j) = some u) := hid (by
        intro V hb j u hj
        have hjj := HJJ.out
        by_cases hcap : lc = jj
        · have h0 : l.drop (k + 1) = [] := List.drop_eq_nil_of_le (by omega)
          rw [h0] at hj
          simp [inssC] at hj
        · have h := HNW.out (k + 1) (l.length - (k + 1)) (by omega) j u (by rw [List.take_of_length_le (by rw [List.length_drop]; omega)]; exact hj)
          have hoq2 : oq = o + (k + 1) * 3 := by rw [HOQ.out, if_neg hcap, hjj]
          rw [hoq2]
          exact cell_kept h hb)
      have HN3 : Hid (∀ V : World, Below W.heap.size W V → ∀ j u, (inssC l)[j]? = some u → V.cell? ((⟨gg, o, none⟩ : Addr).add j) = some u) := hid (by
        intro V hb j u hj
        have h := ins_piece HCC.out 0 l.length (by omega) j u (by rw [List.drop_zero, List.take_length]; exact hj)
        rw [Nat.zero_mul, Nat.add_zero] at h
        exact cell_kept h hb)
      clear hb2 c9 x0 x1 x2 x3
      go_wp2_with (fail)
      refine wp_region_held_drew (S := fun _ => True) (by kernel_rfl) ?_ (fun hHeld => ?_)
      · trivial
      refine wpAnyH_take (i := 0) (oi := { dst := some 54, op := Go.Op.move (Go.Operand.tmp 4), type := 23, pos := _, after := #[], guard := none }) (v := ?_) rfl (by kernel_rfl) (by kernel_rfl) (by kernel_rfl) (fun _ _ _ h => h) (Or.inl ⟨by rfl, ?_⟩) (by assumption) ?_
      rotate_left
      · intro w hSw; (try dsimp only at hSw); go_simp <;> first | with_reducible rfl | (rw [if_neg (by first | omega | (simp only [ByteArray.size_append] at *; omega))])
      simp only [Act.put, List.setIfInBounds_toArray, List.set_cons_zero, List.set_cons_succ]
      refine wpAnyH_take (i := 1) (oi := { dst := some 55, op := Go.Op.move (Go.Operand.tmp 9), type := 3, pos := _, after := #[], guard := none }) (v := ?_) rfl (by kernel_rfl) (by kernel_rfl) (by kernel_rfl) (fun _ _ _ h => h) (Or.inl ⟨by rfl, ?_⟩) (by assumption) ?_
      rotate_left
      · intro w hSw; (try dsimp only at hSw); go_simp <;> first | with_reducible rfl | (rw [if_neg (by first | omega | (simp only [ByteArray.size_append] at *; omega))])
      simp only [Act.put, List.setIfInBounds_toArray, List.set_cons_zero, List.set_cons_succ]
      refine wpAnyH_take (i := 2) (oi := { dst := some 56, op := Go.Op.slice 23 (Go.Operand.tmp 54) none (some (Go.Operand.tmp 55)) none, type := 23, pos := _, after := #[{ on := 0, ground := Go.Ground.data }, { on := 1, ground := Go.Ground.data }], guard := none }) (v := ?_) rfl (by kernel_rfl) (by kernel_rfl) (by kernel_rfl) (fun _ _ _ h => h) (Or.inl ⟨by rfl, ?_⟩) (by assumption) ?_
      rotate_left
      · intro w hSw; (try dsimp only at hSw); go_simp <;> first | with_reducible rfl | (rw [if_neg (by first | omega | (simp only [ByteArray.size_append] at *; omega))])
      simp only [Act.put, List.setIfInBounds_toArray, List.set_cons_zero, List.set_cons_succ]
      refine wpAnyH_take (i := 4) (oi := { dst := some 58, op := Go.Op.move (Go.Operand.tmp 4), type := 23, pos := _, after := #[], guard := none }) (v := ?_) rfl (by kernel_rfl) (by kernel_rfl) (by kernel_rfl) (fun _ _ _ h => h) (Or.inl ⟨by rfl, ?_⟩) (by assumption) ?_
      rotate_left
      · intro w hSw; (try dsimp only at hSw); go_simp <;> first | with_reducible rfl | (rw [if_neg (by first | omega | (simp only [ByteArray.size_append] at *; omega))])
      simp only [Act.put, List.setIfInBounds_toArray, List.set_cons_zero, List.set_cons_succ]
      refine wpAnyH_take (i := 5) (oi := { dst := some 59, op := Go.Op.move (Go.Operand.tmp 9), type := 3, pos := _, after := #[], guard := none }) (v := ?_) rfl (by kernel_rfl) (by kernel_rfl) (by kernel_rfl) (fun _ _ _ h => h) (Or.inl ⟨by rfl, ?_⟩) (by assumption) ?_
      rotate_left
      · intro w hSw; (try dsimp only at hSw); go_simp <;> first | with_reducible rfl | (rw [if_neg (by first | omega | (simp only [ByteArray.size_append] at *; omega))])
      simp only [Act.put, List.setIfInBounds_toArray, List.set_cons_zero, List.set_cons_succ]
      refine wpAnyH_take (i := 6) (oi := { dst := some 60, op := Go.Op.binOp Go.BinOp.add 3 (Go.Operand.tmp 59) (Go.Operand.const (Go.Value.int Go.IntKind.i64 1)) 3, type := 3, pos := _, after := #[{ on := 5, ground := Go.Ground.data }], guard := none }) (v := ?_) rfl (by kernel_rfl) (by kernel_rfl) (by kernel_rfl) (fun _ _ _ h => h) (Or.inl ⟨by rfl, ?_⟩) (by assumption) ?_
      rotate_left
      · intro w hSw; (try dsimp only at hSw); go_simp <;> first | with_reducible rfl | (rw [if_neg (by first | omega | (simp only [ByteArray.size_append] at *; omega))])
      simp only [Act.put, List.setIfInBounds_toArray, List.set_cons_zero, List.set_cons_succ]
      refine wpAnyH_take (i := 7) (oi := { dst := some 61, op := Go.Op.slice 23 (Go.Operand.tmp 58) (some (Go.Operand.tmp 60)) none none, type := 23, pos := _, after := #[{ on := 4, ground := Go.Ground.data }, { on := 6, ground := Go.Ground.data }], guard := none }) (v := ?_) rfl (by kernel_rfl) (by kernel_rfl) (by kernel_rfl) (fun _ _ _ h => h) (Or.inl ⟨by rfl, ?_⟩) (by assumption) ?_
      rotate_left
      · intro w hSw; (try dsimp only at hSw); go_simp <;> first | with_reducible rfl | (rw [if_neg (by first | omega | (simp only [ByteArray.size_append] at *; omega))])
      simp only [Act.put, List.setIfInBounds_toArray, List.set_cons_zero, List.set_cons_succ]
      refine wpAnyH_ready (rs := [3]) (by kernel_rfl) (by simp) ?_
      refine AllReadyH.cons (o := { dst := some 57, op := Go.Op.call { callee := Go.Callee.builtin Go.Builtin.append, args := #[Go.Operand.const (Go.Value.slice none 0 0), Go.Operand.tmp 56], argTypes := #[23, 23] }, type := 23, pos := _, after := #[{ on := 2, ground := Go.Ground.data }], guard := none }) rfl (fun K hK => ?_) AllReadyH.nil
      refine if_take (by rfl) ?_
      refine wp_append_at (.const (.slice none 0 0)) (.tmp 56) 23 rfl W2.drew.heap.size 38 i0 _ 3 24 Tryd.underlying23 hi hz0 hz1 hz2 rfl (by decide) (.slice none 0 0) 0 [] rfl (own_none _ _ _ _) ⟨gg, o, none⟩ k lc (inssC (l.take k)) rfl (by rw [inssC_len, List.length_take]; omega) HN1.out (inssC_one _) (by unfold maxLen; omega) (by omega) (Nat.le_refl _) ?_
      intro v1 w3 hown1 hgr1 _ _
      have hb3 := (Below.refl W2.heap.size W2).drew.grown hgr1 (Nat.le_refl _) (fun j hj => by cases hj)
      refine hK.out _ _ ?_ (fun hHeldA => ?_)
      · trivial
      clear hK K
      (try simp only [Act.put, List.setIfInBounds_toArray, List.set_cons_zero, List.set_cons_succ])
      refine wpAnyH_ready (rs := [8]) (by kernel_rfl) (by simp) ?_
      refine AllReadyH.cons (o := { dst := some 62, op := Go.Op.call { callee := Go.Callee.builtin Go.Builtin.append, args := #[Go.Operand.tmp 57, Go.Operand.tmp 61], argTypes := #[23, 23] }, type := 23, pos := _, after := #[{ on := 3, ground := Go.Ground.data }, { on := 7, ground := Go.Ground.data }, { on := 3, ground := Go.Ground.chain }], guard := none }) rfl (fun K hK => ?_) AllReadyH.nil
      refine if_take (by rfl) ?_
      refine wp_append_at (.tmp 57) (.tmp 61) 23 rfl W2.drew.heap.size 38 i0 _ 3 24 Tryd.underlying23 hi hz0 hz1 hz2 rfl (by decide) v1 _ _ rfl hown1 ⟨gg, oq, none⟩ (l.length - jj) (lc - jj) (inssC (l.drop (k + 1))) (congrArg (fun z => Value.slice z (l.length - jj) (lc - jj)) HIT.out) (by rw [inssC_len, List.length_drop, HJJ.out]) (HN2.out w3 hb3) (inssC_one _) (by unfold maxLen; omega) (by omega) (by have := hb3.size; exact this) ?_
      intro v2 w4 hown2 hgr2 _ _
      have hb4 := hb3.grown hgr2 hb3.size (fun j hj => by have := (hown1.lt j hj).1; exact this)
      refine hK.out _ _ ?_ (fun hHeldB => ?_)
      · trivial
      clear hK K
      (try simp only [Act.put, List.setIfInBounds_toArray, List.set_cons_zero, List.set_cons_succ])
      refine wpAnyH_take (i := 9) (oi := { dst := some 10, op := Go.Op.assign (Go.Operand.tmp 62), type := 23, pos := _, after := #[{ on := 8, ground := Go.Ground.data }, { on := 8, ground := Go.Ground.chain }, { on := 0, ground := Go.Ground.phase }, { on := 1, ground := Go.Ground.phase }, { on := 2, ground := Go.Ground.phase }, { on := 3, ground := Go.Ground.phase }, { on := 4, ground := Go.Ground.phase }, { on := 5, ground := Go.Ground.phase }, { on := 6, ground := Go.Ground.phase }, { on := 7, ground := Go.Ground.phase }, { on := 8, ground := Go.Ground.phase }], guard := none }) (v := ?_) rfl (by kernel_rfl) (by kernel_rfl) (by kernel_rfl) (fun _ _ _ h => h) (Or.inl ⟨by rfl, ?_⟩) (by assumption) ?_
      rotate_left
      · intro w hSw; (try dsimp only at hSw); go_simp <;> first | with_reducible rfl | (rw [if_neg (by first | omega | (simp only [ByteArray.size_append] at *; omega))])
      simp only [Act.put, List.setIfInBounds_toArray, List.set_cons_zero, List.set_cons_succ]
      refine wpAnyH_done (by kernel_rfl) ?_ _
      rw [HIT.out]
      have HB4 := hid hb4
      have hless : (l.take k ++ l.drop (k + 1)).length = 0 + k + (l.length - jj) := by rw [List.length_append, List.length_take, List.length_drop, HJJ.out]; omega
      have hmem : ∀ x ∈ l.take k ++ l.drop (k + 1), x.op < 256 := fun x hx => by
        rcases List.mem_append.1 hx with h | h
        · obtain ⟨i, hi, rfl⟩ := List.getElem_of_mem (List.mem_of_mem_take h); exact (HCC.out i hi).1
        · obtain ⟨i, hi, rfl⟩ := List.getElem_of_mem (List.mem_of_mem_drop h); exact (HCC.out i hi).1
      have hin2 : InR w4 v2 (l.take k ++ l.drop (k + 1)) := own_ins (B := W2.drew.heap.size) (by rw [hless, inssC_append]; rw [List.nil_append] at hown2; exact hown2) (by rw [hless]; omega) hmem
      have c9b := codecheck_ ps _ _ _ w4 ((HP.out.keep HB2.out).keep hb4) hin2
      have hsl := spoil_less (ps := ps) (l := l) (by rw [HT.out]; exact HT0.out) hkl
      generalize ckF ps (l.take k ++ l.drop (k + 1)) = t2 at *
      have HSL := hid hsl
      clear hown1 hgr1 hb3 hown2 hgr2 hb4 hless hmem hin2 hsl HNW
      go_wp2_with (fail)
      refine c9b.mono ?_
      rintro e w5 ⟨rfl, hb5⟩
      have HB5 := hid ((HB2.out.trans (HB4.out.mono HB2.out.size)).trans (hb5.mono (Nat.le_trans HB2.out.size HB4.out.size)))
      clear hb5 c9b
      have y := cell_kept (((HCC.out k hkl).2 0 (by omega)).trans (show _ = some (.int .u8 (l[k].op : Int)) from rfl)) HB5.out
      rw [Nat.add_zero] at y
      have hob := (HCC.out k hkl).1
      generalize l[k].op = ok at *
      by_cases h2 : t2 = 0
      · subst h2
        rcases (show ok = 4 ∨ ok = 5 ∨ (ok ≠ 4 ∧ ok ≠ 5) by omega) with h | h | ⟨h, h'⟩
        · have e4 : ((ok : Int) == 4) = true := by rw [beq_iff_eq]; omega
          clear h HSL
          have hcons : (#[Value.int .u8 1, .int .u8 6, .int .u8 17, .int .u8 19, .int .u8 0, .int .u8 18] : Array Value)[op % 6]? = some (.int .u8 (opF op : Int)) := opF_at op
          have hopl := opF_six op
          generalize opF op = oo at *
          have HOO := hid hopl
          clear hopl
          have hal5 := (Below.refl w5.heap.size w5).alloc (Nat.le_refl _) (.cells #[.int .u8 1, .int .u8 6, .int .u8 17, .int .u8 19, .int .u8 0, .int .u8 18] 36)
          have HB6 := hid (HB5.out.trans (hal5.mono HB5.out.size))
          have HS5 := hid HB5.out.size
          have HA1 := hid trivial
          clear hal5
          go_wp2_with (first
            | (have hm := HA1; clear hm HA1; at_builtin
               refine wpList_append_own_at _ rfl _ _ 23 rfl (w5.alloc (.cells #[.int .u8 1, .int .u8 6, .int .u8 17, .int .u8 19, .int .u8 0, .int .u8 18] 36)).heap.size 38 i0 (.agg #[.int .u8 0, .int .i64 0, .int .i64 0]) 3 24 Tryd.underlying23 hi hz0 hz1 hz2 rfl (by decide) (.slice none 0 0) 0 [] rfl (own_none _ _ _ _) ⟨gg, o, none⟩ l.length lc (inssC l) rfl (by rw [inssC_len]) (HN3.out _ HB6.out) (inssC_one _) (by unfold maxLen; omega) (by omega) (Nat.le_refl _) ?_
               intro v3 w7 hown3 hgr3 _ _
               have hb7 := (Below.refl (w5.alloc (.cells #[.int .u8 1, .int .u8 6, .int .u8 17, .int .u8 19, .int .u8 0, .int .u8 18] 36)).heap.size (w5.alloc (.cells #[.int .u8 1, .int .u8 6, .int .u8 17, .int .u8 19, .int .u8 0, .int .u8 18] 36))).grown hgr3 (Nat.le_refl _) (fun j hj => by cases hj)
               have HO3 := hid hown3
               have HB7 := hid hb7
               have HA2 := hid trivial
               clear hown3 hgr3 hb7)
            | (have hm := HA2; clear hm HA2; at_builtin
               have hal7 := (Below.refl w7.heap.size w7).alloc (Nat.le_refl _) (.cells #[.int .u8 (oo : Int), .int .i64 0, .int .i64 0] 38)
               refine wpList_append_own_at _ rfl _ _ 23 rfl (w5.alloc (.cells #[.int .u8 1, .int .u8 6, .int .u8 17, .int .u8 19, .int .u8 0, .int .u8 18] 36)).heap.size 38 i0 (.agg #[.int .u8 0, .int .i64 0, .int .i64 0]) 3 24 Tryd.underlying23 hi hz0 hz1 hz2 rfl (by decide) v3 _ _ rfl (own_same HO3.out (fun b e => hal7.block b (HO3.out.lt b e).2)) ⟨w7.heap.size, 0, none⟩ 1 1 [.int .u8 (oo : Int), .int .i64 0, .int .i64 0] rfl rfl (next_cells w7 [.int .u8 (oo : Int), .int .i64 0, .int .i64 0] 38) (by simp [Value.oneCell']) (by unfold maxLen; omega) (by omega) (Nat.le_trans HB7.out.size hal7.size) ?_
               intro v4 w8 hown4 hgr4 _ _
               have HO4 := hid hown4
               have HB8 := hid ((HB7.out.trans (hal7.mono HB7.out.size)).grown hgr4 (Nat.le_trans HB7.out.size hal7.size) (fun j hj => (HO3.out.lt j hj).1))
               clear hown4 hgr4 hal7))
          have HBW8 := hid (HB6.out.trans (HB8.out.mono HB6.out.size))
          have hmem4 : ∀ x ∈ l ++ [(⟨oo, 0, 0⟩ : Cin)], x.op < 256 := fun x hx => by
            rcases List.mem_append.1 hx with h | h
            · obtain ⟨i, hi, rfl⟩ := List.getElem_of_mem h; exact (HCC.out i hi).1
            · rw [List.mem_singleton.1 h]; have := HOO.out; show oo < 256; omega
          have hin4 : InR w8 v4 (l ++ [⟨oo, 0, 0⟩]) := own_ins (B := (w5.alloc (.cells #[.int .u8 1, .int .u8 6, .int .u8 17, .int .u8 19, .int .u8 0, .int .u8 18] 36)).heap.size) (by
            have h := HO4.out
            rw [List.length_append, List.length_singleton, inssC_append, ← Nat.zero_add l.length]
            rw [List.nil_append] at h
            exact h) (by rw [List.length_append, List.length_singleton]; omega) hmem4
          have c9d := codecheck_ ps _ _ _ w8 (HP.out.keep HBW8.out) hin4
          rw [spoil_more (by rw [HT.out]; exact HT0.out) oo HOO.out] at c9d
          clear hmem4 hin4 hcons
          refine c9d.mono ?_
          rintro e w9 ⟨rfl, hb9⟩
          have HB9 := hid (HBW8.out.trans (hb9.mono HBW8.out.size))
          clear hb9 c9d
          go_wp2_with (fail)
          refine (lives _ (HTR.out.1.below HB9.out) (HTR.out.2.below HB9.out)).mono ?_
          rintro e wf ⟨rfl, hbf⟩
          have HBF := hid (HB9.out.trans (hbf.mono HB9.out.size))
          clear hbf
          go_wp2_with (fail)
          go_ret
          exact ⟨rfl, HBF.out⟩
        · have e4 : ((ok : Int) == 4) = false := by rw [beq_eq_false_iff_ne]; omega
          have e5 : ((ok : Int) == 5) = true := by rw [beq_iff_eq]; omega
          clear h HSL
          have hcons : (#[Value.int .u8 1, .int .u8 6, .int .u8 17, .int .u8 19, .int .u8 0, .int .u8 18] : Array Value)[op % 6]? = some (.int .u8 (opF op : Int)) := opF_at op
          have hopl := opF_six op
          generalize opF op = oo at *
          have HOO := hid hopl
          clear hopl
          have hal5 := (Below.refl w5.heap.size w5).alloc (Nat.le_refl _) (.cells #[.int .u8 1, .int .u8 6, .int .u8 17, .int .u8 19, .int .u8 0, .int .u8 18] 36)
          have HB6 := hid (HB5.out.trans (hal5.mono HB5.out.size))
          have HS5 := hid HB5.out.size
          have HA1 := hid trivial
          clear hal5
          go_wp2_with (first
            | (have hm := HA1; clear hm HA1; at_builtin
               refine wpList_append_own_at _ rfl _ _ 23 rfl (w5.alloc (.cells #[.int .u8 1, .int .u8 6, .int .u8 17, .int .u8 19, .int .u8 0, .int .u8 18] 36)).heap.size 38 i0 (.agg #[.int .u8 0, .int .i64 0, .int .i64 0]) 3 24 Tryd.underlying23 hi hz0 hz1 hz2 rfl (by decide) (.slice none 0 0) 0 [] rfl (own_none _ _ _ _) ⟨gg, o, none⟩ l.length lc (inssC l) rfl (by rw [inssC_len]) (HN3.out _ HB6.out) (inssC_one _) (by unfold maxLen; omega) (by omega) (Nat.le_refl _) ?_
               intro v3 w7 hown3 hgr3 _ _
               have hb7 := (Below.refl (w5.alloc (.cells #[.int .u8 1, .int .u8 6, .int .u8 17, .int .u8 19, .int .u8 0, .int .u8 18] 36)).heap.size (w5.alloc (.cells #[.int .u8 1, .int .u8 6, .int .u8 17, .int .u8 19, .int .u8 0, .int .u8 18] 36))).grown hgr3 (Nat.le_refl _) (fun j hj => by cases hj)
               have HO3 := hid hown3
               have HB7 := hid hb7
               have HA2 := hid trivial
               clear hown3 hgr3 hb7)
            | (have hm := HA2; clear hm HA2; at_builtin
               have hal7 := (Below.refl w7.heap.size w7).alloc (Nat.le_refl _) (.cells #[.int .u8 (oo : Int), .int .i64 0, .int .i64 0] 38)
               refine wpList_append_own_at _ rfl _ _ 23 rfl (w5.alloc (.cells #[.int .u8 1, .int .u8 6, .int .u8 17, .int .u8 19, .int .u8 0, .int .u8 18] 36)).heap.size 38 i0 (.agg #[.int .u8 0, .int .i64 0, .int .i64 0]) 3 24 Tryd.underlying23 hi hz0 hz1 hz2 rfl (by decide) v3 _ _ rfl (own_same HO3.out (fun b e => hal7.block b (HO3.out.lt b e).2)) ⟨w7.heap.size, 0, none⟩ 1 1 [.int .u8 (oo : Int), .int .i64 0, .int .i64 0] rfl rfl (next_cells w7 [.int .u8 (oo : Int), .int .i64 0, .int .i64 0] 38) (by simp [Value.oneCell']) (by unfold maxLen; omega) (by omega) (Nat.le_trans HB7.out.size hal7.size) ?_
               intro v4 w8 hown4 hgr4 _ _
               have HO4 := hid hown4
               have HB8 := hid ((HB7.out.trans (hal7.mono HB7.out.size)).grown hgr4 (Nat.le_trans HB7.out.size hal7.size) (fun j hj => (HO3.out.lt j hj).1))
               clear hown4 hgr4 hal7))
          have HBW8 := hid (HB6.out.trans (HB8.out.mono HB6.out.size))
          have hmem4 : ∀ x ∈ l ++ [(⟨oo, 0, 0⟩ : Cin)], x.op < 256 := fun x hx => by
            rcases List.mem_append.1 hx with h | h
            · obtain ⟨i, hi, rfl⟩ := List.getElem_of_mem h; exact (HCC.out i hi).1
            · rw [List.mem_singleton.1 h]; have := HOO.out; show oo < 256; omega
          have hin4 : InR w8 v4 (l ++ [⟨oo, 0, 0⟩]) := own_ins (B := (w5.alloc (.cells #[.int .u8 1, .int .u8 6, .int .u8 17, .int .u8 19, .int .u8 0, .int .u8 18] 36)).heap.size) (by
            have h := HO4.out
            rw [List.length_append, List.length_singleton, inssC_append, ← Nat.zero_add l.length]
            rw [List.nil_append] at h
            exact h) (by rw [List.length_append, List.length_singleton]; omega) hmem4
          have c9d := codecheck_ ps _ _ _ w8 (HP.out.keep HBW8.out) hin4
          rw [spoil_more (by rw [HT.out]; exact HT0.out) oo HOO.out] at c9d
          clear hmem4 hin4 hcons
          refine c9d.mono ?_
          rintro e w9 ⟨rfl, hb9⟩
          have HB9 := hid (HBW8.out.trans (hb9.mono HBW8.out.size))
          clear hb9 c9d
          go_wp2_with (fail)
          refine (lives _ (HTR.out.1.below HB9.out) (HTR.out.2.below HB9.out)).mono ?_
          rintro e wf ⟨rfl, hbf⟩
          have HBF := hid (HB9.out.trans (hbf.mono HB9.out.size))
          clear hbf
          go_wp2_with (fail)
          go_ret
          exact ⟨rfl, HBF.out⟩
        · have e4 : ((ok : Int) == 4) = false := by rw [beq_eq_false_iff_ne]; omega
          have e5 : ((ok : Int) == 5) = false := by rw [beq_eq_false_iff_ne]; omega
          clear h h' HSL
          have hcons : (#[Value.int .u8 1, .int .u8 6, .int .u8 17, .int .u8 19, .int .u8 0, .int .u8 18] : Array Value)[op % 6]? = some (.int .u8 (opF op : Int)) := opF_at op
          have hopl := opF_six op
          generalize opF op = oo at *
          have HOO := hid hopl
          clear hopl
          have hal5 := (Below.refl w5.heap.size w5).alloc (Nat.le_refl _) (.cells #[.int .u8 1, .int .u8 6, .int .u8 17, .int .u8 19, .int .u8 0, .int .u8 18] 36)
          have HB6 := hid (HB5.out.trans (hal5.mono HB5.out.size))
          have HS5 := hid HB5.out.size
          have HA1 := hid trivial
          clear hal5
          go_wp2_with (first
            | (have hm := HA1; clear hm HA1; at_builtin
               refine wpList_append_own_at _ rfl _ _ 23 rfl (w5.alloc (.cells #[.int .u8 1, .int .u8 6, .int .u8 17, .int .u8 19, .int .u8 0, .int .u8 18] 36)).heap.size 38 i0 (.agg #[.int .u8 0, .int .i64 0, .int .i64 0]) 3 24 Tryd.underlying23 hi hz0 hz1 hz2 rfl (by decide) (.slice none 0 0) 0 [] rfl (own_none _ _ _ _) ⟨gg, o, none⟩ l.length lc (inssC l) rfl (by rw [inssC_len]) (HN3.out _ HB6.out) (inssC_one _) (by unfold maxLen; omega) (by omega) (Nat.le_refl _) ?_
               intro v3 w7 hown3 hgr3 _ _
               have hb7 := (Below.refl (w5.alloc (.cells #[.int .u8 1, .int .u8 6, .int .u8 17, .int .u8 19, .int .u8 0, .int .u8 18] 36)).heap.size (w5.alloc (.cells #[.int .u8 1, .int .u8 6, .int .u8 17, .int .u8 19, .int .u8 0, .int .u8 18] 36))).grown hgr3 (Nat.le_refl _) (fun j hj => by cases hj)
               have HO3 := hid hown3
               have HB7 := hid hb7
               have HA2 := hid trivial
               clear hown3 hgr3 hb7)
            | (have hm := HA2; clear hm HA2; at_builtin
               have hal7 := (Below.refl w7.heap.size w7).alloc (Nat.le_refl _) (.cells #[.int .u8 (oo : Int), .int .i64 0, .int .i64 0] 38)
               refine wpList_append_own_at _ rfl _ _ 23 rfl (w5.alloc (.cells #[.int .u8 1, .int .u8 6, .int .u8 17, .int .u8 19, .int .u8 0, .int .u8 18] 36)).heap.size 38 i0 (.agg #[.int .u8 0, .int .i64 0, .int .i64 0]) 3 24 Tryd.underlying23 hi hz0 hz1 hz2 rfl (by decide) v3 _ _ rfl (own_same HO3.out (fun b e => hal7.block b (HO3.out.lt b e).2)) ⟨w7.heap.size, 0, none⟩ 1 1 [.int .u8 (oo : Int), .int .i64 0, .int .i64 0] rfl rfl (next_cells w7 [.int .u8 (oo : Int), .int .i64 0, .int .i64 0] 38) (by simp [Value.oneCell']) (by unfold maxLen; omega) (by omega) (Nat.le_trans HB7.out.size hal7.size) ?_
               intro v4 w8 hown4 hgr4 _ _
               have HO4 := hid hown4
               have HB8 := hid ((HB7.out.trans (hal7.mono HB7.out.size)).grown hgr4 (Nat.le_trans HB7.out.size hal7.size) (fun j hj => (HO3.out.lt j hj).1))
               clear hown4 hgr4 hal7))
          have HBW8 := hid (HB6.out.trans (HB8.out.mono HB6.out.size))
          have hmem4 : ∀ x ∈ l ++ [(⟨oo, 0, 0⟩ : Cin)], x.op < 256 := fun x hx => by
            rcases List.mem_append.1 hx with h | h
            · obtain ⟨i, hi, rfl⟩ := List.getElem_of_mem h; exact (HCC.out i hi).1
            · rw [List.mem_singleton.1 h]; have := HOO.out; show oo < 256; omega
          have hin4 : InR w8 v4 (l ++ [⟨oo, 0, 0⟩]) := own_ins (B := (w5.alloc (.cells #[.int .u8 1, .int .u8 6, .int .u8 17, .int .u8 19, .int .u8 0, .int .u8 18] 36)).heap.size) (by
            have h := HO4.out
            rw [List.length_append, List.length_singleton, inssC_append, ← Nat.zero_add l.length]
            rw [List.nil_append] at h
            exact h) (by rw [List.length_append, List.length_singleton]; omega) hmem4
          have c9d := codecheck_ ps _ _ _ w8 (HP.out.keep HBW8.out) hin4
          rw [spoil_more (by rw [HT.out]; exact HT0.out) oo HOO.out] at c9d
          clear hmem4 hin4 hcons
          refine c9d.mono ?_
          rintro e w9 ⟨rfl, hb9⟩
          have HB9 := hid (HBW8.out.trans (hb9.mono HBW8.out.size))
          clear hb9 c9d
          go_wp2_with (fail)
          refine (lives _ (HTR.out.1.below HB9.out) (HTR.out.2.below HB9.out)).mono ?_
          rintro e wf ⟨rfl, hbf⟩
          have HBF := hid (HB9.out.trans (hbf.mono HB9.out.size))
          clear hbf
          go_wp2_with (fail)
          go_ret
          exact ⟨rfl, HBF.out⟩
      · have hs2 : (!(t2 == 0)) = true := by rw [beq_eq_false_iff_ne.2 h2]; rfl
        rcases HSL.out h2 with h | h
        · have e4 : ((ok : Int) == 4) = true := by rw [beq_iff_eq]; omega
          clear h HSL h2
          rw [hs2]
          have hcons : (#[Value.int .u8 1, .int .u8 6, .int .u8 17, .int .u8 19, .int .u8 0, .int .u8 18] : Array Value)[op % 6]? = some (.int .u8 (opF op : Int)) := opF_at op
          have hopl := opF_six op
          generalize opF op = oo at *
          have HOO := hid hopl
          clear hopl
          have hal5 := (Below.refl w5.heap.size w5).alloc (Nat.le_refl _) (.cells #[.int .u8 1, .int .u8 6, .int .u8 17, .int .u8 19, .int .u8 0, .int .u8 18] 36)
          have HB6 := hid (HB5.out.trans (hal5.mono HB5.out.size))
          have HS5 := hid HB5.out.size
          have HA1 := hid trivial
          clear hal5
          go_wp2_with (first
            | (have hm := HA1; clear hm HA1; at_builtin
               refine wpList_append_own_at _ rfl _ _ 23 rfl (w5.alloc (.cells #[.int .u8 1, .int .u8 6, .int .u8 17, .int .u8 19, .int .u8 0, .int .u8 18] 36)).heap.size 38 i0 (.agg #[.int .u8 0, .int .i64 0, .int .i64 0]) 3 24 Tryd.underlying23 hi hz0 hz1 hz2 rfl (by decide) (.slice none 0 0) 0 [] rfl (own_none _ _ _ _) ⟨gg, o, none⟩ l.length lc (inssC l) rfl (by rw [inssC_len]) (HN3.out _ HB6.out) (inssC_one _) (by unfold maxLen; omega) (by omega) (Nat.le_refl _) ?_
               intro v3 w7 hown3 hgr3 _ _
               have hb7 := (Below.refl (w5.alloc (.cells #[.int .u8 1, .int .u8 6, .int .u8 17, .int .u8 19, .int .u8 0, .int .u8 18] 36)).heap.size (w5.alloc (.cells #[.int .u8 1, .int .u8 6, .int .u8 17, .int .u8 19, .int .u8 0, .int .u8 18] 36))).grown hgr3 (Nat.le_refl _) (fun j hj => by cases hj)
               have HO3 := hid hown3
               have HB7 := hid hb7
               have HA2 := hid trivial
               clear hown3 hgr3 hb7)
            | (have hm := HA2; clear hm HA2; at_builtin
               have hal7 := (Below.refl w7.heap.size w7).alloc (Nat.le_refl _) (.cells #[.int .u8 (oo : Int), .int .i64 0, .int .i64 0] 38)
               refine wpList_append_own_at _ rfl _ _ 23 rfl (w5.alloc (.cells #[.int .u8 1, .int .u8 6, .int .u8 17, .int .u8 19, .int .u8 0, .int .u8 18] 36)).heap.size 38 i0 (.agg #[.int .u8 0, .int .i64 0, .int .i64 0]) 3 24 Tryd.underlying23 hi hz0 hz1 hz2 rfl (by decide) v3 _ _ rfl (own_same HO3.out (fun b e => hal7.block b (HO3.out.lt b e).2)) ⟨w7.heap.size, 0, none⟩ 1 1 [.int .u8 (oo : Int), .int .i64 0, .int .i64 0] rfl rfl (next_cells w7 [.int .u8 (oo : Int), .int .i64 0, .int .i64 0] 38) (by simp [Value.oneCell']) (by unfold maxLen; omega) (by omega) (Nat.le_trans HB7.out.size hal7.size) ?_
               intro v4 w8 hown4 hgr4 _ _
               have HO4 := hid hown4
               have HB8 := hid ((HB7.out.trans (hal7.mono HB7.out.size)).grown hgr4 (Nat.le_trans HB7.out.size hal7.size) (fun j hj => (HO3.out.lt j hj).1))
               clear hown4 hgr4 hal7))
          have HBW8 := hid (HB6.out.trans (HB8.out.mono HB6.out.size))
          have hmem4 : ∀ x ∈ l ++ [(⟨oo, 0, 0⟩ : Cin)], x.op < 256 := fun x hx => by
            rcases List.mem_append.1 hx with h | h
            · obtain ⟨i, hi, rfl⟩ := List.getElem_of_mem h; exact (HCC.out i hi).1
            · rw [List.mem_singleton.1 h]; have := HOO.out; show oo < 256; omega
          have hin4 : InR w8 v4 (l ++ [⟨oo, 0, 0⟩]) := own_ins (B := (w5.alloc (.cells #[.int .u8 1, .int .u8 6, .int .u8 17, .int .u8 19, .int .u8 0, .int .u8 18] 36)).heap.size) (by
            have h := HO4.out
            rw [List.length_append, List.length_singleton, inssC_append, ← Nat.zero_add l.length]
            rw [List.nil_append] at h
            exact h) (by rw [List.length_append, List.length_singleton]; omega) hmem4
          have c9d := codecheck_ ps _ _ _ w8 (HP.out.keep HBW8.out) hin4
          rw [spoil_more (by rw [HT.out]; exact HT0.out) oo HOO.out] at c9d
          clear hmem4 hin4 hcons
          refine c9d.mono ?_
          rintro e w9 ⟨rfl, hb9⟩
          have HB9 := hid (HBW8.out.trans (hb9.mono HBW8.out.size))
          clear hb9 c9d
          go_wp2_with (fail)
          refine (lives _ (HTR.out.1.below HB9.out) (HTR.out.2.below HB9.out)).mono ?_
          rintro e wf ⟨rfl, hbf⟩
          have HBF := hid (HB9.out.trans (hbf.mono HB9.out.size))
          clear hbf
          go_wp2_with (fail)
          go_ret
          exact ⟨rfl, HBF.out⟩
        · have e4 : ((ok : Int) == 4) = false := by rw [beq_eq_false_iff_ne]; omega
          have e5 : ((ok : Int) == 5) = true := by rw [beq_iff_eq]; omega
          clear h HSL h2
          rw [hs2]
          have hcons : (#[Value.int .u8 1, .int .u8 6, .int .u8 17, .int .u8 19, .int .u8 0, .int .u8 18] : Array Value)[op % 6]? = some (.int .u8 (opF op : Int)) := opF_at op
          have hopl := opF_six op
          generalize opF op = oo at *
          have HOO := hid hopl
          clear hopl
          have hal5 := (Below.refl w5.heap.size w5).alloc (Nat.le_refl _) (.cells #[.int .u8 1, .int .u8 6, .int .u8 17, .int .u8 19, .int .u8 0, .int .u8 18] 36)
          have HB6 := hid (HB5.out.trans (hal5.mono HB5.out.size))
          have HS5 := hid HB5.out.size
          have HA1 := hid trivial
          clear hal5
          go_wp2_with (first
            | (have hm := HA1; clear hm HA1; at_builtin
               refine wpList_append_own_at _ rfl _ _ 23 rfl (w5.alloc (.cells #[.int .u8 1, .int .u8 6, .int .u8 17, .int .u8 19, .int .u8 0, .int .u8 18] 36)).heap.size 38 i0 (.agg #[.int .u8 0, .int .i64 0, .int .i64 0]) 3 24 Tryd.underlying23 hi hz0 hz1 hz2 rfl (by decide) (.slice none 0 0) 0 [] rfl (own_none _ _ _ _) ⟨gg, o, none⟩ l.length lc (inssC l) rfl (by rw [inssC_len]) (HN3.out _ HB6.out) (inssC_one _) (by unfold maxLen; omega) (by omega) (Nat.le_refl _) ?_
               intro v3 w7 hown3 hgr3 _ _
               have hb7 := (Below.refl (w5.alloc (.cells #[.int .u8 1, .int .u8 6, .int .u8 17, .int .u8 19, .int .u8 0, .int .u8 18] 36)).heap.size (w5.alloc (.cells #[.int .u8 1, .int .u8 6, .int .u8 17, .int .u8 19, .int .u8 0, .int .u8 18] 36))).grown hgr3 (Nat.le_refl _) (fun j hj => by cases hj)
               have HO3 := hid hown3
               have HB7 := hid hb7
               have HA2 := hid trivial
               clear hown3 hgr3 hb7)
            | (have hm := HA2; clear hm HA2; at_builtin
               have hal7 := (Below.refl w7.heap.size w7).alloc (Nat.le_refl _) (.cells #[.int .u8 (oo : Int), .int .i64 0, .int .i64 0] 38)
               refine wpList_append_own_at _ rfl _ _ 23 rfl (w5.alloc (.cells #[.int .u8 1, .int .u8 6, .int .u8 17, .int .u8 19, .int .u8 0, .int .u8 18] 36)).heap.size 38 i0 (.agg #[.int .u8 0, .int .i64 0, .int .i64 0]) 3 24 Tryd.underlying23 hi hz0 hz1 hz2 rfl (by decide) v3 _ _ rfl (own_same HO3.out (fun b e => hal7.block b (HO3.out.lt b e).2)) ⟨w7.heap.size, 0, none⟩ 1 1 [.int .u8 (oo : Int), .int .i64 0, .int .i64 0] rfl rfl (next_cells w7 [.int .u8 (oo : Int), .int .i64 0, .int .i64 0] 38) (by simp [Value.oneCell']) (by unfold maxLen; omega) (by omega) (Nat.le_trans HB7.out.size hal7.size) ?_
               intro v4 w8 hown4 hgr4 _ _
               have HO4 := hid hown4
               have HB8 := hid ((HB7.out.trans (hal7.mono HB7.out.size)).grown hgr4 (Nat.le_trans HB7.out.size hal7.size) (fun j hj => (HO3.out.lt j hj).1))
               clear hown4 hgr4 hal7))
          have HBW8 := hid (HB6.out.trans (HB8.out.mono HB6.out.size))
          have hmem4 : ∀ x ∈ l ++ [(⟨oo, 0, 0⟩ : Cin)], x.op < 256 := fun x hx => by
            rcases List.mem_append.1 hx with h | h
            · obtain ⟨i, hi, rfl⟩ := List.getElem_of_mem h; exact (HCC.out i hi).1
            · rw [List.mem_singleton.1 h]; have := HOO.out; show oo < 256; omega
          have hin4 : InR w8 v4 (l ++ [⟨oo, 0, 0⟩]) := own_ins (B := (w5.alloc (.cells #[.int .u8 1, .int .u8 6, .int .u8 17, .int .u8 19, .int .u8 0, .int .u8 18] 36)).heap.size) (by
            have h := HO4.out
            rw [List.length_append, List.length_singleton, inssC_append, ← Nat.zero_add l.length]
            rw [List.nil_append] at h
            exact h) (by rw [List.length_append, List.length_singleton]; omega) hmem4
          have c9d := codecheck_ ps _ _ _ w8 (HP.out.keep HBW8.out) hin4
          rw [spoil_more (by rw [HT.out]; exact HT0.out) oo HOO.out] at c9d
          clear hmem4 hin4 hcons
          refine c9d.mono ?_
          rintro e w9 ⟨rfl, hb9⟩
          have HB9 := hid (HBW8.out.trans (hb9.mono HBW8.out.size))
          clear hb9 c9d
          go_wp2_with (fail)
          refine (lives _ (HTR.out.1.below HB9.out) (HTR.out.2.below HB9.out)).mono ?_
          rintro e wf ⟨rfl, hbf⟩
          have HBF := hid (HB9.out.trans (hbf.mono HB9.out.size))
          clear hbf
          go_wp2_with (fail)
          go_ret
          exact ⟨rfl, HBF.out⟩
end Go.Proofs.YtdenddknbmiboaaDoor.Lex
namespace Go.Proofs.YtdenddknbmiboaaDoor.Lex
open Go.ChangeShapes Go.WideShapes Go.ChangeAt Go.RowKit Go.Joins
/-- A row that is read, in its cells: to be copied. -/
theorem InR.news {W : World} {g o c n : Nat} {l : List Cin} (h : InR W (.slice (some ⟨g, o, none⟩) n c) l) : n = l.length ∧ ∀ V : World, Below W.heap.size W V → ∀ j u, (inssC l)[j]? = some u → V.cell? ((⟨g, o, none⟩ : Addr).add j) = some u := by
  obtain ⟨ao, c', e, _, h2⟩ := h
  injection e with e1 e2 e3
  refine ⟨e2, fun V hb j u hj => ?_⟩
  rcases h2 with h2 | ⟨g', o', e4, h2⟩
  · rw [h2] at hj
    simp [inssC] at hj
  · rw [← e1] at e4
    injection e4 with e4
    injection e4 with e5 e6 _
    subst e5 e6
    have h3 := ins_piece h2 0 l.length (by omega) j u (by rw [List.drop_zero, List.take_length]; exact hj)
    rw [Nat.zero_mul, Nat.add_zero] at h3
    exact cell_kept h3 hb
theorem InR.ops {W : World} {v : Value} {l : List Cin} (h : InR W v l) : ∀ x ∈ l, x.op < 256 := fun x hx => by
  obtain ⟨ao, c, e, _, h2⟩ := h
  obtain ⟨i, hi, rfl⟩ := List.getElem_of_mem hx
  rcases h2 with h2 | ⟨g, o, _, h2⟩
  · rw [h2] at hi
    cases hi
  · exact (h2 i hi).1
theorem InR.some {W : World} {v : Value} {l : List Cin} (h : InR W v l) (hl : 0 < l.length) : ∃ g o c, v = .slice (some ⟨g, o, none⟩) l.length c ∧ l.length ≤ c := by
  obtain ⟨ao, c, e, hc, h2⟩ := h
  rcases h2 with h2 | ⟨g, o, rfl, _⟩
  · rw [h2] at hl
    cases hl
  · exact ⟨g, o, c, e, hc.1⟩
theorem ckF_pos {ps : List Plc} {l : List Cin} (h : ckF ps l ≠ 0) : 0 < l.length := by
  cases l with
  | nil => exact absurd (show ckF ps [] = 0 by unfold ckF; split <;> rfl) h
  | cons a l => simp
set_option maxRecDepth 100000 in
set_option maxHeartbeats 64000000 in
theorem walk5 (ps : List Plc) (a b : List Cin) (pv av bv : Value) (W : World) (hR : TabR W) (hJ : TabJ W) (hP : PlR W pv ps) (hL : InR W av a) (hM : InR W bv b) : Calls Tryd.prog 5 #[pv, av, bv] W fun e w' => e = .returned (.bool true) ∧ Below W.heap.size W w' := by
  have hlv : ∀ V : World, Below W.heap.size W V → Calls Tryd.prog 6 #[] V fun e w' => e = .returned (.bool true) ∧ Below V.heap.size V w' := fun V hb => lives V (hR.below hb) (hJ.below hb)
  have c9a := codecheck_ ps a _ _ W hP hL
  have hcb : ∀ V : World, Below W.heap.size W V → Calls Tryd.prog 9 #[pv, bv] V (CkP V (ckF ps b)) := fun V hb => codecheck_ ps b _ _ V (hP.keep hb) (hM.keep hb)
  have HP := hid hP
  have HL := hid hL
  have HM := hid hM
  obtain ⟨pa, pc, rfl, ⟨hpc, hpm⟩, _⟩ := hP
  obtain ⟨aa, ac, rfl, ⟨hac, ham⟩, _⟩ := hL
  obtain ⟨ba, bc, rfl, ⟨hbc, hbm⟩, _⟩ := hM
  obtain ⟨i0, hi, hz0, hz1, hz2⟩ := info_parts infoIn
  clear hR hJ
  have HTA := hid (ckF_ty ps a)
  have HTB := hid (ckF_ty ps b)
  generalize hta : ckF ps a = ta at *
  generalize htb : ckF ps b = tb at *
  have HA := hid hta
  have HB := hid htb
  clear hta htb
  unfold CkP at c9a
  by_cases h0 : ta = 0
  · subst h0
    go_enter Tryd.func5, Tryd.ntmps5
    go_wp2_with (fail)
    refine c9a.mono ?_
    rintro e W2 ⟨rfl, hb2⟩
    have HB2 := hid hb2
    have c9b := hcb W2 hb2
    unfold CkP at c9b
    clear hb2 c9a hcb
    go_wp2_with (fail)
    refine c9b.mono ?_
    rintro e W3 ⟨rfl, hb3⟩
    have HB3 := hid (HB2.out.trans (hb3.mono HB2.out.size))
    clear hb3 c9b
    go_wp2_with (fail)
    refine (hlv _ HB3.out).mono ?_
    rintro e w9 ⟨rfl, hb9⟩
    have HB9 := hid (HB3.out.trans (hb9.mono HB3.out.size))
    clear hb9
    go_wp2_with (fail)
    go_ret
    exact ⟨rfl, HB9.out⟩
  by_cases h1 : tb = 0
  · subst h1
    have hok : (!(ta == 0)) = true := by rw [beq_eq_false_iff_ne.2 h0]; rfl
    rw [hok] at c9a
    clear hok h0
    go_enter Tryd.func5, Tryd.ntmps5
    go_wp2_with (fail)
    refine c9a.mono ?_
    rintro e W2 ⟨rfl, hb2⟩
    have HB2 := hid hb2
    have c9b := hcb W2 hb2
    unfold CkP at c9b
    clear hb2 c9a hcb
    go_wp2_with (fail)
    refine c9b.mono ?_
    rintro e W3 ⟨rfl, hb3⟩
    have HB3 := hid (HB2.out.trans (hb3.mono HB2.out.size))
    clear hb3 c9b
    go_wp2_with (fail)
    refine (hlv _ HB3.out).mono ?_
    rintro e w9 ⟨rfl, hb9⟩
    have HB9 := hid (HB3.out.trans (hb9.mono HB3.out.size))
    clear hb9
    go_wp2_with (fail)
    go_ret
    exact ⟨rfl, HB9.out⟩
  have hoka : (!(ta == 0)) = true := by rw [beq_eq_false_iff_ne.2 h0]; rfl
  have hokb : (!(tb == 0)) = true := by rw [beq_eq_false_iff_ne.2 h1]; rfl
  rw [hoka] at c9a
  have HA0 := hid h0
  have HB0 := hid h1
  have HOB := hid hokb
  clear hoka h0 h1 hokb
  by_cases hb1 : 1000 < ps.length
  · have hb1' : (ps.length : Int) > 1000 := by omega
    clear hb1
    go_enter Tryd.func5, Tryd.ntmps5
    go_wp2_with (fail)
    refine c9a.mono ?_
    rintro e W2 ⟨rfl, hb2⟩
    have HB2 := hid hb2
    have c9b := hcb W2 hb2
    unfold CkP at c9b
    rw [HOB.out] at c9b
    clear hb2 c9a hcb
    go_wp2_with (fail)
    refine c9b.mono ?_
    rintro e W3 ⟨rfl, hb3⟩
    have HB3 := hid (HB2.out.trans (hb3.mono HB2.out.size))
    clear hb3 c9b
    go_wp2_with (fail)
    refine (hlv _ HB3.out).mono ?_
    rintro e w9 ⟨rfl, hb9⟩
    have HB9 := hid (HB3.out.trans (hb9.mono HB3.out.size))
    clear hb9
    go_wp2_with (fail)
    go_ret
    exact ⟨rfl, HB9.out⟩
  have hb1' : ¬ (ps.length : Int) > 1000 := by omega
  have hsum : (a.length : Int) + (b.length : Int) ≤ 40000000000000 := by omega
  by_cases hb8 : 800 ≤ a.length + b.length
  · have hb8' : (a.length : Int) + (b.length : Int) ≥ 800 := by omega
    clear hb8 hb1
    go_enter Tryd.func5, Tryd.ntmps5
    go_wp2_with (fail)
    refine c9a.mono ?_
    rintro e W2 ⟨rfl, hb2⟩
    have HB2 := hid hb2
    have c9b := hcb W2 hb2
    unfold CkP at c9b
    rw [HOB.out] at c9b
    clear hb2 c9a hcb
    go_wp2_with (fail)
    refine c9b.mono ?_
    rintro e W3 ⟨rfl, hb3⟩
    have HB3 := hid (HB2.out.trans (hb3.mono HB2.out.size))
    clear hb3 c9b
    go_wp2_with (fail)
    refine (hlv _ HB3.out).mono ?_
    rintro e w9 ⟨rfl, hb9⟩
    have HB9 := hid (HB3.out.trans (hb9.mono HB3.out.size))
    clear hb9
    go_wp2_with (fail)
    go_ret
    exact ⟨rfl, HB9.out⟩
  have hb8' : ¬ (a.length : Int) + (b.length : Int) ≥ 800 := by omega
  have hab : a.length + b.length < 800 := by omega
  have hla : 0 < a.length := ckF_pos (by rw [HA.out]; exact HA0.out)
  have hlb : 0 < b.length := ckF_pos (by rw [HB.out]; exact HB0.out)
  obtain ⟨g1, o1, c1, he1, hc1⟩ := HL.out.some hla
  obtain ⟨g2, o2, c2, he2, hc2⟩ := HM.out.some hlb
  injection he1 with he1 _ he1'
  injection he2 with he2 _ he2'
  subst he1 he1' he2 he2'
  have HN1 := hid HL.out.news.2
  have HN2 := hid HM.out.news.2
  clear hb1 hb8 hc1 hc2
  go_enter Tryd.func5, Tryd.ntmps5
  go_wp2_with (fail)
  refine c9a.mono ?_
  rintro e W2 ⟨rfl, hb2⟩
  have HB2 := hid hb2
  have c9b := hcb W2 hb2
  unfold CkP at c9b
  rw [HOB.out] at c9b
  clear hb2 c9a hcb
  go_wp2_with (fail)
  refine c9b.mono ?_
  rintro e W3 ⟨rfl, hb3⟩
  have HB3 := hid (HB2.out.trans (hb3.mono HB2.out.size))
  clear hb3 c9b
  have HX1 := hid trivial
  go_wp2_with (first
    | (have hm := HX1; clear hm HX1; at_builtin
       refine wpList_append_own_at _ rfl _ _ 23 rfl W3.heap.size 38 i0 (.agg #[.int .u8 0, .int .i64 0, .int .i64 0]) 3 24 Tryd.underlying23 hi hz0 hz1 hz2 rfl (by decide) (.slice none 0 0) 0 [] rfl (own_none _ _ _ _) ⟨g1, o1, none⟩ a.length ac (inssC a) rfl (by rw [inssC_len]) (HN1.out _ HB3.out) (inssC_one _) (by unfold maxLen; omega) (by omega) (Nat.le_refl _) ?_
       intro v3 w7 hown3 hgr3 _ _
       have hb7 := (Below.refl W3.heap.size W3).grown hgr3 (Nat.le_refl _) (fun j hj => by cases hj)
       have HO3 := hid hown3
       have HB7 := hid hb7
       have HX2 := hid trivial
       clear hown3 hgr3 hb7)
    | (have hm := HX2; clear hm HX2; at_builtin
       refine wpList_append_own_at _ rfl _ _ 23 rfl W3.heap.size 38 i0 (.agg #[.int .u8 0, .int .i64 0, .int .i64 0]) 3 24 Tryd.underlying23 hi hz0 hz1 hz2 rfl (by decide) v3 _ _ rfl HO3.out ⟨g2, o2, none⟩ b.length bc (inssC b) rfl (by rw [inssC_len]) (HN2.out _ (HB3.out.trans (HB7.out.mono HB3.out.size))) (inssC_one _) (by unfold maxLen; omega) (by omega) HB7.out.size ?_
       intro v4 w8 hown4 hgr4 _ _
       have HO4 := hid hown4
       have HB8 := hid (HB7.out.grown hgr4 HB7.out.size (fun j hj => (HO3.out.lt j hj).1))
       clear hown4 hgr4))
  have HBW8 := hid (HB3.out.trans (HB8.out.mono HB3.out.size))
  have hin4 : InR w8 v4 (a ++ b) := own_ins (B := W3.heap.size) (by
    have h := HO4.out
    rw [List.length_append, inssC_append, ← Nat.zero_add a.length]
    rw [List.nil_append] at h
    exact h) (by rw [List.length_append]; omega) (fun x hx => by
      rcases List.mem_append.1 hx with h | h
      · exact HL.out.ops x h
      · exact HM.out.ops x h)
  obtain ⟨g4, o4, c4', rfl, hc4⟩ := hin4.some (by rw [List.length_append]; omega)
  have HI4 := hid hin4
  have HN4 := hid hin4.news.2
  have HLN : Hid ((a ++ b).length = a.length + b.length) := hid (by rw [List.length_append])
  clear hin4
  have HV : Hid (∀ o : Nat, 6 ≤ o ∧ o ≤ 18 ∧ o ≠ 17 → ckF ps (a ++ b ++ [⟨o, 0, 0⟩]) = wantF o ta tb) := hid (fun o ho => by
    have h := join_two (ps := ps) (a := a) (b := b) (by rw [HA.out]; exact HA0.out) (by rw [HB.out]; exact HB0.out) hab ho
    rw [HA.out, HB.out] at h
    exact h)
  have HOPS : Hid (∀ x ∈ a ++ b, x.op < 256) := hid HI4.out.ops
  generalize hll : a ++ b = ll at *
  clear hll
  rcases HTA.out.resolve_left HA0.out with rfl | rfl <;> rcases HTB.out.resolve_left HB0.out with rfl | rfl
  · simp only [show ((1 : Nat) : Int) = 1 from rfl]
    go_loopw [12] (fun i wr => ∃ o : Nat, 6 ≤ o ∧ o ≤ 19 ∧ i = .int .u8 (o : Int) ∧ Hid (Below w8.heap.size w8 wr)) (fun i _ => 19 - (intOf i).toNat)
    case atStart => exact ⟨6, by omega, by omega, rfl, hid (Below.refl _ _)⟩
    case round =>
      obtain ⟨o, ho6, ho19, rfl, HBr⟩ := hrel
      by_cases hlt : o ≤ 18
      · have hlt' : (o : Int) ≤ 18 := by omega
        have ho1 : (o : Int) + 1 ≤ 255 := by omega
        by_cases h17 : o = 17
        · have e17 : ((o : Int) == 17) = true := by rw [beq_iff_eq]; omega
          subst h17
          go_wp2_with (fail)
          go_roundw
          case rel => exact ⟨18, by omega, by omega, by go_num, HBr⟩
          case measure => simp [intOf]
        · have e17 : ((o : Int) == 17) = false := by rw [beq_eq_false_iff_ne]; omega
          have HBo := hid (HBW8.out.trans (HBr.out.mono HBW8.out.size))
          have hcv := HV.out o ⟨ho6, hlt, h17⟩
          have HCV := hid hcv
          have HX1 := hid trivial
          clear hcv
          go_wp2_with (first
            | (have hm := HX1; clear hm HX1; at_builtin
               refine wpList_append_own_at _ rfl _ _ 23 rfl wr.heap.size 38 i0 (.agg #[.int .u8 0, .int .i64 0, .int .i64 0]) 3 24 Tryd.underlying23 hi hz0 hz1 hz2 rfl (by decide) (.slice none 0 0) 0 [] rfl (own_none _ _ _ _) ⟨g4, o4, none⟩ ll.length c4' (inssC ll) rfl (by rw [inssC_len]) (HN4.out _ HBr.out) (inssC_one _) (by have := HLN.out; unfold maxLen; omega) (by have := HLN.out; omega) (Nat.le_refl _) ?_
               intro v5 w5 hown5 hgr5 _ _
               have hb5 := (Below.refl wr.heap.size wr).grown hgr5 (Nat.le_refl _) (fun j hj => by cases hj)
               have HO5 := hid hown5
               have HB5 := hid hb5
               have HX2 := hid trivial
               clear hown5 hgr5 hb5)
            | (have hm := HX2; clear hm HX2; at_builtin
               have hal7 := (Below.refl w5.heap.size w5).alloc (Nat.le_refl _) (.cells #[.int .u8 (o : Int), .int .i64 0, .int .i64 0] 38)
               refine wpList_append_own_at _ rfl _ _ 23 rfl wr.heap.size 38 i0 (.agg #[.int .u8 0, .int .i64 0, .int .i64 0]) 3 24 Tryd.underlying23 hi hz0 hz1 hz2 rfl (by decide) v5 _ _ rfl (own_same HO5.out (fun b e => hal7.block b (HO5.out.lt b e).2)) ⟨w5.heap.size, 0, none⟩ 1 1 [.int .u8 (o : Int), .int .i64 0, .int .i64 0] rfl rfl (next_cells w5 [.int .u8 (o : Int), .int .i64 0, .int .i64 0] 38) (by simp [Value.oneCell']) (by have := HLN.out; unfold maxLen; omega) (by have := HLN.out; omega) (Nat.le_trans HB5.out.size hal7.size) ?_
               intro v6 w6 hown6 hgr6 _ _
               have HO6 := hid hown6
               have HB6 := hid ((HB5.out.trans (hal7.mono HB5.out.size)).grown hgr6 (Nat.le_trans HB5.out.size hal7.size) (fun j hj => (HO5.out.lt j hj).1))
               clear hown6 hgr6 hal7))
          have HBX := hid (HBo.out.trans (HB6.out.mono HBo.out.size))
          have hin6 : InR w6 v6 (ll ++ [⟨o, 0, 0⟩]) := own_ins (B := wr.heap.size) (by
            have h := HO6.out
            rw [List.length_append, List.length_singleton, inssC_append, ← Nat.zero_add ll.length]
            rw [List.nil_append] at h
            exact h) (by have := HLN.out; rw [List.length_append, List.length_singleton]; omega) (fun x hx => by
              rcases List.mem_append.1 hx with h | h
              · exact HOPS.out x h
              · rw [List.mem_singleton.1 h]; show o < 256; omega)
          have c9c := codecheck_ ps _ _ _ w6 (HP.out.keep HBX.out) hin6
          rw [HCV.out] at c9c
          unfold CkP at c9c
          clear hin6
          generalize hwv : wantF o 1 1 = wv at *
          have HWV := hid hwv
          clear hwv
          refine c9c.mono ?_
          rintro e wz ⟨rfl, hbz⟩
          have HBZ := hid ((HBr.out.trans (HB6.out.mono HBr.out.size)).trans (hbz.mono (Nat.le_trans HBr.out.size HB6.out.size)))
          clear hbz c9c
          obtain rfl | rfl | rfl | rfl | rfl | rfl | rfl | rfl | rfl | rfl | rfl | rfl : o = 6 ∨ o = 7 ∨ o = 8 ∨ o = 9 ∨ o = 10 ∨ o = 11 ∨ o = 12 ∨ o = 13 ∨ o = 14 ∨ o = 15 ∨ o = 16 ∨ o = 18 := by omega
          · obtain rfl : wv = 1 := HWV.out.symm.trans (by decide)
            clear e17 hlt'
            go_wp2_with (fail)
            go_roundw
            case rel => exact ⟨7, by omega, by omega, by go_num, HBZ⟩
            case measure => simp [intOf]
          · obtain rfl : wv = 1 := HWV.out.symm.trans (by decide)
            clear e17 hlt'
            go_wp2_with (fail)
            go_roundw
            case rel => exact ⟨8, by omega, by omega, by go_num, HBZ⟩
            case measure => simp [intOf]
          · obtain rfl : wv = 1 := HWV.out.symm.trans (by decide)
            clear e17 hlt'
            go_wp2_with (fail)
            go_roundw
            case rel => exact ⟨9, by omega, by omega, by go_num, HBZ⟩
            case measure => simp [intOf]
          · obtain rfl : wv = 1 := HWV.out.symm.trans (by decide)
            clear e17 hlt'
            go_wp2_with (fail)
            go_roundw
            case rel => exact ⟨10, by omega, by omega, by go_num, HBZ⟩
            case measure => simp [intOf]
          · obtain rfl : wv = 1 := HWV.out.symm.trans (by decide)
            clear e17 hlt'
            go_wp2_with (fail)
            go_roundw
            case rel => exact ⟨11, by omega, by omega, by go_num, HBZ⟩
            case measure => simp [intOf]
          · obtain rfl : wv = 2 := HWV.out.symm.trans (by decide)
            clear e17 hlt'
            go_wp2_with (fail)
            go_roundw
            case rel => exact ⟨12, by omega, by omega, by go_num, HBZ⟩
            case measure => simp [intOf]
          · obtain rfl : wv = 2 := HWV.out.symm.trans (by decide)
            clear e17 hlt'
            go_wp2_with (fail)
            go_roundw
            case rel => exact ⟨13, by omega, by omega, by go_num, HBZ⟩
            case measure => simp [intOf]
          · obtain rfl : wv = 2 := HWV.out.symm.trans (by decide)
            clear e17 hlt'
            go_wp2_with (fail)
            go_roundw
            case rel => exact ⟨14, by omega, by omega, by go_num, HBZ⟩
            case measure => simp [intOf]
          · obtain rfl : wv = 2 := HWV.out.symm.trans (by decide)
            clear e17 hlt'
            go_wp2_with (fail)
            go_roundw
            case rel => exact ⟨15, by omega, by omega, by go_num, HBZ⟩
            case measure => simp [intOf]
          · obtain rfl : wv = 0 := HWV.out.symm.trans (by decide)
            clear e17 hlt'
            go_wp2_with (fail)
            go_roundw
            case rel => exact ⟨16, by omega, by omega, by go_num, HBZ⟩
            case measure => simp [intOf]
          · obtain rfl : wv = 0 := HWV.out.symm.trans (by decide)
            clear e17 hlt'
            go_wp2_with (fail)
            go_roundw
            case rel => exact ⟨17, by omega, by omega, by go_num, HBZ⟩
            case measure => simp [intOf]
          · obtain rfl : wv = 1 := HWV.out.symm.trans (by decide)
            clear e17 hlt'
            go_wp2_with (fail)
            go_roundw
            case rel => exact ⟨19, by omega, by omega, by go_num, HBZ⟩
            case measure => simp [intOf]
      · obtain rfl : o = 19 := by omega
        have HBE := hid (HBW8.out.trans (HBr.out.mono HBW8.out.size))
        clear hlt
        go_wp2_with (fail)
        refine (hlv _ HBE.out).mono ?_
        rintro e w9 ⟨rfl, hb9⟩
        have HB9 := hid (HBE.out.trans (hb9.mono HBE.out.size))
        clear hb9
        go_wp2_with (fail)
        go_ret
        exact ⟨rfl, HB9.out⟩
  · simp only [show ((1 : Nat) : Int) = 1 from rfl, show ((2 : Nat) : Int) = 2 from rfl]
    go_loopw [12] (fun i wr => ∃ o : Nat, 6 ≤ o ∧ o ≤ 19 ∧ i = .int .u8 (o : Int) ∧ Hid (Below w8.heap.size w8 wr)) (fun i _ => 19 - (intOf i).toNat)
    case atStart => exact ⟨6, by omega, by omega, rfl, hid (Below.refl _ _)⟩
    case round =>
      obtain ⟨o, ho6, ho19, rfl, HBr⟩ := hrel
      by_cases hlt : o ≤ 18
      · have hlt' : (o : Int) ≤ 18 := by omega
        have ho1 : (o : Int) + 1 ≤ 255 := by omega
        by_cases h17 : o = 17
        · have e17 : ((o : Int) == 17) = true := by rw [beq_iff_eq]; omega
          subst h17
          go_wp2_with (fail)
          go_roundw
          case rel => exact ⟨18, by omega, by omega, by go_num, HBr⟩
          case measure => simp [intOf]
        · have e17 : ((o : Int) == 17) = false := by rw [beq_eq_false_iff_ne]; omega
          have HBo := hid (HBW8.out.trans (HBr.out.mono HBW8.out.size))
          have hcv := HV.out o ⟨ho6, hlt, h17⟩
          have HCV := hid hcv
          have HX1 := hid trivial
          clear hcv
          go_wp2_with (first
            | (have hm := HX1; clear hm HX1; at_builtin
               refine wpList_append_own_at _ rfl _ _ 23 rfl wr.heap.size 38 i0 (.agg #[.int .u8 0, .int .i64 0, .int .i64 0]) 3 24 Tryd.underlying23 hi hz0 hz1 hz2 rfl (by decide) (.slice none 0 0) 0 [] rfl (own_none _ _ _ _) ⟨g4, o4, none⟩ ll.length c4' (inssC ll) rfl (by rw [inssC_len]) (HN4.out _ HBr.out) (inssC_one _) (by have := HLN.out; unfold maxLen; omega) (by have := HLN.out; omega) (Nat.le_refl _) ?_
               intro v5 w5 hown5 hgr5 _ _
               have hb5 := (Below.refl wr.heap.size wr).grown hgr5 (Nat.le_refl _) (fun j hj => by cases hj)
               have HO5 := hid hown5
               have HB5 := hid hb5
               have HX2 := hid trivial
               clear hown5 hgr5 hb5)
            | (have hm := HX2; clear hm HX2; at_builtin
               have hal7 := (Below.refl w5.heap.size w5).alloc (Nat.le_refl _) (.cells #[.int .u8 (o : Int), .int .i64 0, .int .i64 0] 38)
               refine wpList_append_own_at _ rfl _ _ 23 rfl wr.heap.size 38 i0 (.agg #[.int .u8 0, .int .i64 0, .int .i64 0]) 3 24 Tryd.underlying23 hi hz0 hz1 hz2 rfl (by decide) v5 _ _ rfl (own_same HO5.out (fun b e => hal7.block b (HO5.out.lt b e).2)) ⟨w5.heap.size, 0, none⟩ 1 1 [.int .u8 (o : Int), .int .i64 0, .int .i64 0] rfl rfl (next_cells w5 [.int .u8 (o : Int), .int .i64 0, .int .i64 0] 38) (by simp [Value.oneCell']) (by have := HLN.out; unfold maxLen; omega) (by have := HLN.out; omega) (Nat.le_trans HB5.out.size hal7.size) ?_
               intro v6 w6 hown6 hgr6 _ _
               have HO6 := hid hown6
               have HB6 := hid ((HB5.out.trans (hal7.mono HB5.out.size)).grown hgr6 (Nat.le_trans HB5.out.size hal7.size) (fun j hj => (HO5.out.lt j hj).1))
               clear hown6 hgr6 hal7))
          have HBX := hid (HBo.out.trans (HB6.out.mono HBo.out.size))
          have hin6 : InR w6 v6 (ll ++ [⟨o, 0, 0⟩]) := own_ins (B := wr.heap.size) (by
            have h := HO6.out
            rw [List.length_append, List.length_singleton, inssC_append, ← Nat.zero_add ll.length]
            rw [List.nil_append] at h
            exact h) (by have := HLN.out; rw [List.length_append, List.length_singleton]; omega) (fun x hx => by
              rcases List.mem_append.1 hx with h | h
              · exact HOPS.out x h
              · rw [List.mem_singleton.1 h]; show o < 256; omega)
          have c9c := codecheck_ ps _ _ _ w6 (HP.out.keep HBX.out) hin6
          rw [HCV.out] at c9c
          unfold CkP at c9c
          clear hin6
          generalize hwv : wantF o 1 2 = wv at *
          have HWV := hid hwv
          clear hwv
          refine c9c.mono ?_
          rintro e wz ⟨rfl, hbz⟩
          have HBZ := hid ((HBr.out.trans (HB6.out.mono HBr.out.size)).trans (hbz.mono (Nat.le_trans HBr.out.size HB6.out.size)))
          clear hbz c9c
          obtain rfl | rfl | rfl | rfl | rfl | rfl | rfl | rfl | rfl | rfl | rfl | rfl : o = 6 ∨ o = 7 ∨ o = 8 ∨ o = 9 ∨ o = 10 ∨ o = 11 ∨ o = 12 ∨ o = 13 ∨ o = 14 ∨ o = 15 ∨ o = 16 ∨ o = 18 := by omega
          · obtain rfl : wv = 0 := HWV.out.symm.trans (by decide)
            clear e17 hlt'
            go_wp2_with (fail)
            go_roundw
            case rel => exact ⟨7, by omega, by omega, by go_num, HBZ⟩
            case measure => simp [intOf]
          · obtain rfl : wv = 0 := HWV.out.symm.trans (by decide)
            clear e17 hlt'
            go_wp2_with (fail)
            go_roundw
            case rel => exact ⟨8, by omega, by omega, by go_num, HBZ⟩
            case measure => simp [intOf]
          · obtain rfl : wv = 0 := HWV.out.symm.trans (by decide)
            clear e17 hlt'
            go_wp2_with (fail)
            go_roundw
            case rel => exact ⟨9, by omega, by omega, by go_num, HBZ⟩
            case measure => simp [intOf]
          · obtain rfl : wv = 0 := HWV.out.symm.trans (by decide)
            clear e17 hlt'
            go_wp2_with (fail)
            go_roundw
            case rel => exact ⟨10, by omega, by omega, by go_num, HBZ⟩
            case measure => simp [intOf]
          · obtain rfl : wv = 0 := HWV.out.symm.trans (by decide)
            clear e17 hlt'
            go_wp2_with (fail)
            go_roundw
            case rel => exact ⟨11, by omega, by omega, by go_num, HBZ⟩
            case measure => simp [intOf]
          · obtain rfl : wv = 0 := HWV.out.symm.trans (by decide)
            clear e17 hlt'
            go_wp2_with (fail)
            go_roundw
            case rel => exact ⟨12, by omega, by omega, by go_num, HBZ⟩
            case measure => simp [intOf]
          · obtain rfl : wv = 0 := HWV.out.symm.trans (by decide)
            clear e17 hlt'
            go_wp2_with (fail)
            go_roundw
            case rel => exact ⟨13, by omega, by omega, by go_num, HBZ⟩
            case measure => simp [intOf]
          · obtain rfl : wv = 0 := HWV.out.symm.trans (by decide)
            clear e17 hlt'
            go_wp2_with (fail)
            go_roundw
            case rel => exact ⟨14, by omega, by omega, by go_num, HBZ⟩
            case measure => simp [intOf]
          · obtain rfl : wv = 0 := HWV.out.symm.trans (by decide)
            clear e17 hlt'
            go_wp2_with (fail)
            go_roundw
            case rel => exact ⟨15, by omega, by omega, by go_num, HBZ⟩
            case measure => simp [intOf]
          · obtain rfl : wv = 0 := HWV.out.symm.trans (by decide)
            clear e17 hlt'
            go_wp2_with (fail)
            go_roundw
            case rel => exact ⟨16, by omega, by omega, by go_num, HBZ⟩
            case measure => simp [intOf]
          · obtain rfl : wv = 0 := HWV.out.symm.trans (by decide)
            clear e17 hlt'
            go_wp2_with (fail)
            go_roundw
            case rel => exact ⟨17, by omega, by omega, by go_num, HBZ⟩
            case measure => simp [intOf]
          · obtain rfl : wv = 0 := HWV.out.symm.trans (by decide)
            clear e17 hlt'
            go_wp2_with (fail)
            go_roundw
            case rel => exact ⟨19, by omega, by omega, by go_num, HBZ⟩
            case measure => simp [intOf]
      · obtain rfl : o = 19 := by omega
        have HBE := hid (HBW8.out.trans (HBr.out.mono HBW8.out.size))
        clear hlt
        go_wp2_with (fail)
        refine (hlv _ HBE.out).mono ?_
        rintro e w9 ⟨rfl, hb9⟩
        have HB9 := hid (HBE.out.trans (hb9.mono HBE.out.size))
        clear hb9
        go_wp2_with (fail)
        go_ret
        exact ⟨rfl, HB9.out⟩
  · simp only [show ((1 : Nat) : Int) = 1 from rfl, show ((2 : Nat) : Int) = 2 from rfl]
    go_loopw [12] (fun i wr => ∃ o : Nat, 6 ≤ o ∧ o ≤ 19 ∧ i = .int .u8 (o : Int) ∧ Hid (Below w8.heap.size w8 wr)) (fun i _ => 19 - (intOf i).toNat)
    case atStart => exact ⟨6, by omega, by omega, rfl, hid (Below.refl _ _)⟩
    case round =>
      obtain ⟨o, ho6, ho19, rfl, HBr⟩ := hrel
      by_cases hlt : o ≤ 18
      · have hlt' : (o : Int) ≤ 18 := by omega
        have ho1 : (o : Int) + 1 ≤ 255 := by omega
        by_cases h17 : o = 17
        · have e17 : ((o : Int) == 17) = true := by rw [beq_iff_eq]; omega
          subst h17
          go_wp2_with (fail)
          go_roundw
          case rel => exact ⟨18, by omega, by omega, by go_num, HBr⟩
          case measure => simp [intOf]
        · have e17 : ((o : Int) == 17) = false := by rw [beq_eq_false_iff_ne]; omega
          have HBo := hid (HBW8.out.trans (HBr.out.mono HBW8.out.size))
          have hcv := HV.out o ⟨ho6, hlt, h17⟩
          have HCV := hid hcv
          have HX1 := hid trivial
          clear hcv
          go_wp2_with (first
            | (have hm := HX1; clear hm HX1; at_builtin
               refine wpList_append_own_at _ rfl _ _ 23 rfl wr.heap.size 38 i0 (.agg #[.int .u8 0, .int .i64 0, .int .i64 0]) 3 24 Tryd.underlying23 hi hz0 hz1 hz2 rfl (by decide) (.slice none 0 0) 0 [] rfl (own_none _ _ _ _) ⟨g4, o4, none⟩ ll.length c4' (inssC ll) rfl (by rw [inssC_len]) (HN4.out _ HBr.out) (inssC_one _) (by have := HLN.out; unfold maxLen; omega) (by have := HLN.out; omega) (Nat.le_refl _) ?_
               intro v5 w5 hown5 hgr5 _ _
               have hb5 := (Below.refl wr.heap.size wr).grown hgr5 (Nat.le_refl _) (fun j hj => by cases hj)
               have HO5 := hid hown5
               have HB5 := hid hb5
               have HX2 := hid trivial
               clear hown5 hgr5 hb5)
            | (have hm := HX2; clear hm HX2; at_builtin
               have hal7 := (Below.refl w5.heap.size w5).alloc (Nat.le_refl _) (.cells #[.int .u8 (o : Int), .int .i64 0, .int .i64 0] 38)
               refine wpList_append_own_at _ rfl _ _ 23 rfl wr.heap.size 38 i0 (.agg #[.int .u8 0, .int .i64 0, .int .i64 0]) 3 24 Tryd.underlying23 hi hz0 hz1 hz2 rfl (by decide) v5 _ _ rfl (own_same HO5.out (fun b e => hal7.block b (HO5.out.lt b e).2)) ⟨w5.heap.size, 0, none⟩ 1 1 [.int .u8 (o : Int), .int .i64 0, .int .i64 0] rfl rfl (next_cells w5 [.int .u8 (o : Int), .int .i64 0, .int .i64 0] 38) (by simp [Value.oneCell']) (by have := HLN.out; unfold maxLen; omega) (by have := HLN.out; omega) (Nat.le_trans HB5.out.size hal7.size) ?_
               intro v6 w6 hown6 hgr6 _ _
               have HO6 := hid hown6
               have HB6 := hid ((HB5.out.trans (hal7.mono HB5.out.size)).grown hgr6 (Nat.le_trans HB5.out.size hal7.size) (fun j hj => (HO5.out.lt j hj).1))
               clear hown6 hgr6 hal7))
          have HBX := hid (HBo.out.trans (HB6.out.mono HBo.out.size))
          have hin6 : InR w6 v6 (ll ++ [⟨o, 0, 0⟩]) := own_ins (B := wr.heap.size) (by
            have h := HO6.out
            rw [List.length_append, List.length_singleton, inssC_append, ← Nat.zero_add ll.length]
            rw [List.nil_append] at h
            exact h) (by have := HLN.out; rw [List.length_append, List.length_singleton]; omega) (fun x hx => by
              rcases List.mem_append.1 hx with h | h
              · exact HOPS.out x h
              · rw [List.mem_singleton.1 h]; show o < 256; omega)
          have c9c := codecheck_ ps _ _ _ w6 (HP.out.keep HBX.out) hin6
          rw [HCV.out] at c9c
          unfold CkP at c9c
          clear hin6
          generalize hwv : wantF o 2 1 = wv at *
          have HWV := hid hwv
          clear hwv
          refine c9c.mono ?_
          rintro e wz ⟨rfl, hbz⟩
          have HBZ := hid ((HBr.out.trans (HB6.out.mono HBr.out.size)).trans (hbz.mono (Nat.le_trans HBr.out.size HB6.out.size)))
          clear hbz c9c
          obtain rfl | rfl | rfl | rfl | rfl | rfl | rfl | rfl | rfl | rfl | rfl | rfl : o = 6 ∨ o = 7 ∨ o = 8 ∨ o = 9 ∨ o = 10 ∨ o = 11 ∨ o = 12 ∨ o = 13 ∨ o = 14 ∨ o = 15 ∨ o = 16 ∨ o = 18 := by omega
          · obtain rfl : wv = 0 := HWV.out.symm.trans (by decide)
            clear e17 hlt'
            go_wp2_with (fail)
            go_roundw
            case rel => exact ⟨7, by omega, by omega, by go_num, HBZ⟩
            case measure => simp [intOf]
          · obtain rfl : wv = 0 := HWV.out.symm.trans (by decide)
            clear e17 hlt'
            go_wp2_with (fail)
            go_roundw
            case rel => exact ⟨8, by omega, by omega, by go_num, HBZ⟩
            case measure => simp [intOf]
          · obtain rfl : wv = 0 := HWV.out.symm.trans (by decide)
            clear e17 hlt'
            go_wp2_with (fail)
            go_roundw
            case rel => exact ⟨9, by omega, by omega, by go_num, HBZ⟩
            case measure => simp [intOf]
          · obtain rfl : wv = 0 := HWV.out.symm.trans (by decide)
            clear e17 hlt'
            go_wp2_with (fail)
            go_roundw
            case rel => exact ⟨10, by omega, by omega, by go_num, HBZ⟩
            case measure => simp [intOf]
          · obtain rfl : wv = 0 := HWV.out.symm.trans (by decide)
            clear e17 hlt'
            go_wp2_with (fail)
            go_roundw
            case rel => exact ⟨11, by omega, by omega, by go_num, HBZ⟩
            case measure => simp [intOf]
          · obtain rfl : wv = 0 := HWV.out.symm.trans (by decide)
            clear e17 hlt'
            go_wp2_with (fail)
            go_roundw
            case rel => exact ⟨12, by omega, by omega, by go_num, HBZ⟩
            case measure => simp [intOf]
          · obtain rfl : wv = 0 := HWV.out.symm.trans (by decide)
            clear e17 hlt'
            go_wp2_with (fail)
            go_roundw
            case rel => exact ⟨13, by omega, by omega, by go_num, HBZ⟩
            case measure => simp [intOf]
          · obtain rfl : wv = 0 := HWV.out.symm.trans (by decide)
            clear e17 hlt'
            go_wp2_with (fail)
            go_roundw
            case rel => exact ⟨14, by omega, by omega, by go_num, HBZ⟩
            case measure => simp [intOf]
          · obtain rfl : wv = 0 := HWV.out.symm.trans (by decide)
            clear e17 hlt'
            go_wp2_with (fail)
            go_roundw
            case rel => exact ⟨15, by omega, by omega, by go_num, HBZ⟩
            case measure => simp [intOf]
          · obtain rfl : wv = 0 := HWV.out.symm.trans (by decide)
            clear e17 hlt'
            go_wp2_with (fail)
            go_roundw
            case rel => exact ⟨16, by omega, by omega, by go_num, HBZ⟩
            case measure => simp [intOf]
          · obtain rfl : wv = 0 := HWV.out.symm.trans (by decide)
            clear e17 hlt'
            go_wp2_with (fail)
            go_roundw
            case rel => exact ⟨17, by omega, by omega, by go_num, HBZ⟩
            case measure => simp [intOf]
          · obtain rfl : wv = 0 := HWV.out.symm.trans (by decide)
            clear e17 hlt'
            go_wp2_with (fail)
            go_roundw
            case rel => exact ⟨19, by omega, by omega, by go_num, HBZ⟩
            case measure => simp [intOf]
      · obtain rfl : o = 19 := by omega
        have HBE := hid (HBW8.out.trans (HBr.out.mono HBW8.out.size))
        clear hlt
        go_wp2_with (fail)
        refine (hlv _ HBE.out).mono ?_
        rintro e w9 ⟨rfl, hb9⟩
        have HB9 := hid (HBE.out.trans (hb9.mono HBE.out.size))
        clear hb9
        go_wp2_with (fail)
        go_ret
        exact ⟨rfl, HB9.out⟩
  · simp only [show ((2 : Nat) : Int) = 2 from rfl]
    go_loopw [12] (fun i wr => ∃ o : Nat, 6 ≤ o ∧ o ≤ 19 ∧ i = .int .u8 (o : Int) ∧ Hid (Below w8.heap.size w8 wr)) (fun i _ => 19 - (intOf i).toNat)
    case atStart => exact ⟨6, by omega, by omega, rfl, hid (Below.refl _ _)⟩
    case round =>
      obtain ⟨o, ho6, ho19, rfl, HBr⟩ := hrel
      by_cases hlt : o ≤ 18
      · have hlt' : (o : Int) ≤ 18 := by omega
        have ho1 : (o : Int) + 1 ≤ 255 := by omega
        by_cases h17 : o = 17
        · have e17 : ((o : Int) == 17) = true := by rw [beq_iff_eq]; omega
          subst h17
          go_wp2_with (fail)
          go_roundw
          case rel => exact ⟨18, by omega, by omega, by go_num, HBr⟩
          case measure => simp [intOf]
        · have e17 : ((o : Int) == 17) = false := by rw [beq_eq_false_iff_ne]; omega
          have HBo := hid (HBW8.out.trans (HBr.out.mono HBW8.out.size))
          have hcv := HV.out o ⟨ho6, hlt, h17⟩
          have HCV := hid hcv
          have HX1 := hid trivial
          clear hcv
          go_wp2_with (first
            | (have hm := HX1; clear hm HX1; at_builtin
               refine wpList_append_own_at _ rfl _ _ 23 rfl wr.heap.size 38 i0 (.agg #[.int .u8 0, .int .i64 0, .int .i64 0]) 3 24 Tryd.underlying23 hi hz0 hz1 hz2 rfl (by decide) (.slice none 0 0) 0 [] rfl (own_none _ _ _ _) ⟨g4, o4, none⟩ ll.length c4' (inssC ll) rfl (by rw [inssC_len]) (HN4.out _ HBr.out) (inssC_one _) (by have := HLN.out; unfold maxLen; omega) (by have := HLN.out; omega) (Nat.le_refl _) ?_
               intro v5 w5 hown5 hgr5 _ _
               have hb5 := (Below.refl wr.heap.size wr).grown hgr5 (Nat.le_refl _) (fun j hj => by cases hj)
               have HO5 := hid hown5
               have HB5 := hid hb5
               have HX2 := hid trivial
               clear hown5 hgr5 hb5)
            | (have hm := HX2; clear hm HX2; at_builtin
               have hal7 := (Below.refl w5.heap.size w5).alloc (Nat.le_refl _) (.cells #[.int .u8 (o : Int), .int .i64 0, .int .i64 0] 38)
               refine wpList_append_own_at _ rfl _ _ 23 rfl wr.heap.size 38 i0 (.agg #[.int .u8 0, .int .i64 0, .int .i64 0]) 3 24 Tryd.underlying23 hi hz0 hz1 hz2 rfl (by decide) v5 _ _ rfl (own_same HO5.out (fun b e => hal7.block b (HO5.out.lt b e).2)) ⟨w5.heap.size, 0, none⟩ 1 1 [.int .u8 (o : Int), .int .i64 0, .int .i64 0] rfl rfl (next_cells w5 [.int .u8 (o : Int), .int .i64 0, .int .i64 0] 38) (by simp [Value.oneCell']) (by have := HLN.out; unfold maxLen; omega) (by have := HLN.out; omega) (Nat.le_trans HB5.out.size hal7.size) ?_
               intro v6 w6 hown6 hgr6 _ _
               have HO6 := hid hown6
               have HB6 := hid ((HB5.out.trans (hal7.mono HB5.out.size)).grown hgr6 (Nat.le_trans HB5.out.size hal7.size) (fun j hj => (HO5.out.lt j hj).1))
               clear hown6 hgr6 hal7))
          have HBX := hid (HBo.out.trans (HB6.out.mono HBo.out.size))
          have hin6 : InR w6 v6 (ll ++ [⟨o, 0, 0⟩]) := own_ins (B := wr.heap.size) (by
            have h := HO6.out
            rw [List.length_append, List.length_singleton, inssC_append, ← Nat.zero_add ll.length]
            rw [List.nil_append] at h
            exact h) (by have := HLN.out; rw [List.length_append, List.length_singleton]; omega) (fun x hx => by
              rcases List.mem_append.1 hx with h | h
              · exact HOPS.out x h
              · rw [List.mem_singleton.1 h]; show o < 256; omega)
          have c9c := codecheck_ ps _ _ _ w6 (HP.out.keep HBX.out) hin6
          rw [HCV.out] at c9c
          unfold CkP at c9c
          clear hin6
          generalize hwv : wantF o 2 2 = wv at *
          have HWV := hid hwv
          clear hwv
          refine c9c.mono ?_
          rintro e wz ⟨rfl, hbz⟩
          have HBZ := hid ((HBr.out.trans (HB6.out.mono HBr.out.size)).trans (hbz.mono (Nat.le_trans HBr.out.size HB6.out.size)))
          clear hbz c9c
          obtain rfl | rfl | rfl | rfl | rfl | rfl | rfl | rfl | rfl | rfl | rfl | rfl : o = 6 ∨ o = 7 ∨ o = 8 ∨ o = 9 ∨ o = 10 ∨ o = 11 ∨ o = 12 ∨ o = 13 ∨ o = 14 ∨ o = 15 ∨ o = 16 ∨ o = 18 := by omega
          · obtain rfl : wv = 0 := HWV.out.symm.trans (by decide)
            clear e17 hlt'
            go_wp2_with (fail)
            go_roundw
            case rel => exact ⟨7, by omega, by omega, by go_num, HBZ⟩
            case measure => simp [intOf]
          · obtain rfl : wv = 0 := HWV.out.symm.trans (by decide)
            clear e17 hlt'
            go_wp2_with (fail)
            go_roundw
            case rel => exact ⟨8, by omega, by omega, by go_num, HBZ⟩
            case measure => simp [intOf]
          · obtain rfl : wv = 0 := HWV.out.symm.trans (by decide)
            clear e17 hlt'
            go_wp2_with (fail)
            go_roundw
            case rel => exact ⟨9, by omega, by omega, by go_num, HBZ⟩
            case measure => simp [intOf]
          · obtain rfl : wv = 0 := HWV.out.symm.trans (by decide)
            clear e17 hlt'
            go_wp2_with (fail)
            go_roundw
            case rel => exact ⟨10, by omega, by omega, by go_num, HBZ⟩
            case measure => simp [intOf]
          · obtain rfl : wv = 0 := HWV.out.symm.trans (by decide)
            clear e17 hlt'
            go_wp2_with (fail)
            go_roundw
            case rel => exact ⟨11, by omega, by omega, by go_num, HBZ⟩
            case measure => simp [intOf]
          · obtain rfl : wv = 2 := HWV.out.symm.trans (by decide)
            clear e17 hlt'
            go_wp2_with (fail)
            go_roundw
            case rel => exact ⟨12, by omega, by omega, by go_num, HBZ⟩
            case measure => simp [intOf]
          · obtain rfl : wv = 2 := HWV.out.symm.trans (by decide)
            clear e17 hlt'
            go_wp2_with (fail)
            go_roundw
            case rel => exact ⟨13, by omega, by omega, by go_num, HBZ⟩
            case measure => simp [intOf]
          · obtain rfl : wv = 0 := HWV.out.symm.trans (by decide)
            clear e17 hlt'
            go_wp2_with (fail)
            go_roundw
            case rel => exact ⟨14, by omega, by omega, by go_num, HBZ⟩
            case measure => simp [intOf]
          · obtain rfl : wv = 0 := HWV.out.symm.trans (by decide)
            clear e17 hlt'
            go_wp2_with (fail)
            go_roundw
            case rel => exact ⟨15, by omega, by omega, by go_num, HBZ⟩
            case measure => simp [intOf]
          · obtain rfl : wv = 2 := HWV.out.symm.trans (by decide)
            clear e17 hlt'
            go_wp2_with (fail)
            go_roundw
            case rel => exact ⟨16, by omega, by omega, by go_num, HBZ⟩
            case measure => simp [intOf]
          · obtain rfl : wv = 2 := HWV.out.symm.trans (by decide)
            clear e17 hlt'
            go_wp2_with (fail)
            go_roundw
            case rel => exact ⟨17, by omega, by omega, by go_num, HBZ⟩
            case measure => simp [intOf]
          · obtain rfl : wv = 2 := HWV.out.symm.trans (by decide)
            clear e17 hlt'
            go_wp2_with (fail)
            go_roundw
            case rel => exact ⟨19, by omega, by omega, by go_num, HBZ⟩
            case measure => simp [intOf]
      · obtain rfl : o = 19 := by omega
        have HBE := hid (HBW8.out.trans (HBr.out.mono HBW8.out.size))
        clear hlt
        go_wp2_with (fail)
        refine (hlv _ HBE.out).mono ?_
        rintro e w9 ⟨rfl, hb9⟩
        have HB9 := hid (HBE.out.trans (hb9.mono HBE.out.size))
        clear hb9
        go_wp2_with (fail)
        go_ret
        exact ⟨rfl, HB9.out⟩
end Go.Proofs.YtdenddknbmiboaaDoor.Lex
