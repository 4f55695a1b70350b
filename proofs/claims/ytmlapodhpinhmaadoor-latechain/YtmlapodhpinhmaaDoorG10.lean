/-
  The walk of LateChain.
-/
import Derived.Test.YtmlapodhpinhmaaDoorG9
import Derived.Test.YtmlapodhpinhmaaDoorG8
namespace Go.Proofs.YtmlapodhpinhmaaDoor.Lex
open Go.ChangeShapes Go.WideShapes Go.ChangeAt Go.RowKit Go.Joins
/-- What a slot holds when its operation has come up. -/
def Ec (W0 : World) (k : Nat) (S : Int) (nm nm2 : ByteArray) (d : Nat) (v : Value) (V : World) : Prop :=
  match d with
  | 39 => v = .int .i64 (k : Int)
  | 40 => v = .int .u8 (k : Int)
  | 41 => v = .int .u8 (97 + (k : Int))
  | 42 => ∃ b, v = .slice (some ⟨b, 0, none⟩) 2 2 ∧ V.heap[b]? = some (.cells #[.int .u8 102, .int .u8 (97 + (k : Int))] 5 (0, 0))
  | 43 => v = .string nm2
  | 44 => v = .int .i64 S
  | 45 => v = .string nm
  | 46 => v = exV ⟨3, 0, nm, []⟩ N0
  | 47 => v = flV ⟨nm2, 1, S, 0, ⟨3, 0, nm, []⟩⟩ N0
  | 11 => ∃ b, v = .pointer (some ⟨b, 0, none⟩) ∧ W0.heap.size ≤ b ∧ ∃ cs : Array Value, V.heap[b]? = some (.cells cs 55 (0, 0)) ∧ cs.size = 8
  | _ => True
theorem Ec.keep {W0 : World} {k : Nat} {S : Int} {nm nm2 : ByteArray} (d : Nat) (v : Value) (w w' : World) (hb : Below w.heap.size w w') (h : Ec W0 k S nm nm2 d v w) : Ec W0 k S nm nm2 d v w' := by
  revert h
  unfold Ec
  split <;> intro h <;> first | trivial | exact h | (obtain ⟨b, e, g⟩ := h; exact ⟨b, e, keep_row g hb⟩) | (obtain ⟨b, e, g, cs, h1, h2⟩ := h; exact ⟨b, e, g, cs, keep_row h1 hb, h2⟩)
theorem nm_next (k : Nat) (hk : k < 20) : (⟨#[UInt8.ofNat 102, UInt8.ofNat (97 + k)]⟩ : ByteArray) = nmC (k + 1) := by
  unfold nmC
  rw [if_neg (by omega), show 96 + (k + 1) = 97 + k by omega]
  rfl
theorem conv_two (sb k : Nat) (hk : k < 20) (V : World) (hr : V.heap[sb]? = some (.cells #[.int .u8 102, .int .u8 (97 + (k : Int))] 5 (0, 0))) : (convert 43 9 (.slice (some ⟨sb, 0, none⟩) 2 2)).run Tryd.prog V = .ok (.string ⟨#[UInt8.ofNat 102, UInt8.ofNat (97 + k)]⟩) V :=
  run_convert_bytes_back V 43 9 5 ⟨sb, 0, none⟩ 2 [UInt8.ofNat 102, UInt8.ofNat (97 + k)] Tryd.underlying43 Tryd.underlying5 Tryd.underlying9 fun j hj => by
    have hj2 : j < 2 := hj
    rcases (by omega : j = 0 ∨ j = 1) with rfl | rfl
    · rw [show (⟨sb, 0, none⟩ : Addr).add 0 = ⟨sb, 0, none⟩ from rfl, cell_of_row _ _ _ _ 5 (0, 0) hr]
      rfl
    · rw [show (⟨sb, 0, none⟩ : Addr).add 1 = ⟨sb, 1, none⟩ from rfl, cell_of_row _ _ _ _ 5 (0, 0) hr]
      show some (Value.int .u8 (97 + (k : Int))) = some (.int .u8 ((UInt8.ofNat (97 + k)).toNat : Int))
      have : (UInt8.ofNat (97 + k)).toNat = 97 + k := by rw [UInt8.toNat_ofNat']; omega
      rw [this]
      congr 2
theorem info55 : (Tryd.prog.info? 55).map (·.size) = some 8 := by kernel_rfl
theorem stC_eq (f : Nat → Nat) (i : Nat) : 1 + ((f i : Nat) : Int) % 4 = stC f i := by unfold stC; omega
set_option maxRecDepth 100000 in
set_option maxHeartbeats 16000000 in
theorem walk5 (f : Nat → Nat) (n : Nat) (v : Value) (lb : List Bool) (ab : Option Addr) (nb cb : Nat) (w : World) (hM : BAt w f n v) (hB : CameO w ab nb lb) (hR : TabR w) (hJ : TabJ w) : Calls Tryd.prog 5 #[v, .slice ab nb cb] w fun e w' => e = .returned (.bool true) ∧ Below w.heap.size w w' := by
  obtain ⟨ma, mc, rfl, hmn, hmc⟩ := hM
  have HMC := hid hmc
  have HB := hid hB
  have HR := hid hR
  have HJ := hid hJ
  have LV0 := lives w hR hJ
  clear hmc hB hR hJ
  go_enter Tryd.func5, Tryd.ntmps5
  by_cases h0 : n = 0
  · have h0' : (n : Int) = 0 := by omega
    subst h0
    go_wp2_with (fail)
    refine LV0.mono ?_
    rintro e wz ⟨rfl, hbz⟩
    have BZ := hid hbz
    clear hbz LV0
    go_wp2_with (fail)
    go_ret
    exact ⟨rfl, BZ.out⟩
  · have h0' : ¬ (n : Int) = 0 := by omega
    by_cases h20 : 20 < n
    · have h20' : (n : Int) > 20 := by omega
      go_wp2_with (fail)
      refine LV0.mono ?_
      rintro e wz ⟨rfl, hbz⟩
      have BZ := hid hbz
      clear hbz LV0
      go_wp2_with (fail)
      go_ret
      exact ⟨rfl, BZ.out⟩
    · have h20' : ¬ (n : Int) > 20 := by omega
      clear LV0
      obtain ⟨g, hg⟩ : ∃ g : Nat → Bool, g = fun i => decide (i < nb) && lb.getD i false := ⟨_, rfl⟩
      have HG := hid hg
      clear hg
      obtain ⟨w1, hw1⟩ : ∃ w1, w1 = w.alloc (.cells #[.string ⟨#[120]⟩, .int .u8 1, .int .i64 1] 59) := ⟨_, rfl⟩
      have hb1 : Below w.heap.size w w1 := by rw [hw1]; exact (Below.refl _ w).alloc (Nat.le_refl _) _
      have hs1 : w1.heap.size = w.heap.size + 1 := by rw [hw1]; simp
      have hr1 : w1.heap[w.heap.size]? = some (.cells #[.string ⟨#[120]⟩, .int .u8 1, .int .i64 1] 59 (0, 0)) := by rw [hw1]; exact heap_alloc_new w _
      have XA := heap_alloc_new w1 (.cells c26 26)
      have B3 := (Below.refl w1.heap.size w1).alloc (Nat.le_refl _) (.cells c26 26)
      have hx : nmC 0 = ⟨#[120]⟩ := rfl
      go_wp2_with
        (rw [← hs1, ← hw1]
         refine wpList_store_row rfl 26 _ _ rfl w1.heap.size #[.int .i64 4, .slice (some ⟨w.heap.size, 0, none⟩) 1 1, .slice none 0 0, .slice none 0 0] rfl rfl 26 _ XA info26 rfl (by simp [Value.oneCell']) ?_
         have XR : ((w1.alloc (.cells c26 26)).setRow w1.heap.size #[.int .i64 4, .slice (some ⟨w.heap.size, 0, none⟩) 1 1, .slice none 0 0, .slice none 0 0]).heap[w1.heap.size]? = some (.cells #[.int .i64 4, .slice (some ⟨w.heap.size, 0, none⟩) 1 1, .slice none 0 0, .slice none 0 0] 26 (0, 0)) := setRow_heap _ _ _ _ _ _ XA
         have b3 := below_row B3 (by simp) (Nat.le_refl _) #[.int .i64 4, .slice (some ⟨w.heap.size, 0, none⟩) 1 1, .slice none 0 0, .slice none 0 0]
         generalize (w1.alloc (.cells c26 26)).setRow w1.heap.size #[.int .i64 4, .slice (some ⟨w.heap.size, 0, none⟩) 1 1, .slice none 0 0, .slice none 0 0] = w2 at *
         have hb2 := hb1.trans (b3.mono hb1.size)
         have X2 := hid (CS.mk XR (by rw [hx]; exact keep_row hr1 b3) ⟨rfl, .inl ⟨rfl, rfl⟩⟩ (by omega) (Nat.le_refl _) (fun i hi => by omega) (HR.out.below hb2) (HJ.out.below hb2) hb2 : CS w f g w1.heap.size w.heap.size 0 (.slice none 0 0) (fun _ => N0) w2)
         clear b3 XR hb2 B3 XA hr1)
      rw [hs1] at X2
      clear hs1 hw1 hb1 hx
      go_loopw [6, 7, 8, 9] (fun last at' want i wr => ∃ (k : Nat) (fv : Value) (sv : Nat → Value), k ≤ n ∧ last = .string (nmC k) ∧ at' = .int .i64 (atC f k) ∧ want = .int .i64 (wvC f g k) ∧ i = .int .i64 (k : Int) ∧ Hid (CS w f g (w.heap.size + 1) w.heap.size k fv sv wr)) (fun _ _ _ i _ => n - (intOf i).toNat)
      case atStart => exact ⟨0, _, _, Nat.zero_le _, rfl, rfl, rfl, rfl, X2⟩
      case round =>
        obtain ⟨k, fv, sv, hk, rfl, rfl, rfl, rfl, XK⟩ := hrel
        obtain ⟨W0, rfl⟩ : ∃ W0, W0 = wr := ⟨_, rfl⟩
        by_cases hkn : k < n
        · have hkn' : (k : Int) < (n : Int) := by omega
          have hk0 : (0 : Int) ≤ (k : Int) := by omega
          have hw8 : IntKind.u8.wrap (k : Int) = (k : Int) := by rw [IntKind.wrap_u8]; omega
          have hw9 : IntKind.u8.wrap (97 + (k : Int)) = 97 + (k : Int) := by rw [IntKind.wrap_u8]; omega
          obtain ⟨mb, mo, rfl, hcc⟩ := HMC.out.resolve_left (by omega)
          have z0 := cell_kept (hcc k hkn).1 XK.out.below
          have hf8 := (hcc k hkn).2
          have HS := hid (stC_eq f k)
          obtain ⟨nm, hnm⟩ : ∃ nm, nm = nmC k := ⟨_, rfl⟩
          obtain ⟨nm2, hnm2⟩ : ∃ nm, nm = nmC (k + 1) := ⟨_, rfl⟩
          have HNM : Hid (Value.string ⟨#[UInt8.ofNat 102, UInt8.ofNat (97 + k)]⟩ = .string nm2) := hid (by rw [hnm2, nm_next k (by omega)])
          rw [← hnm]
          have HN1 := hid hnm
          have HN2 := hid hnm2
          clear hcc hnm hnm2
          generalize f k = fk at z0 hf8 HS
          go_wp2_with (fail)
          generalize 1 + (fk : Int) % 4 = S at *
          rename_i hKK
          refine Rbs.region_last (m := 10) (ol := { dst := none, op := Go.Op.store 55 (Go.Operand.tmp 11) (Go.Operand.tmp 47), type := 0, pos := _, after := #[{ on := 9, ground := Go.Ground.data }, { on := 8, ground := Go.Ground.data }, { on := 7, ground := Go.Ground.chain }, { on := 0, ground := Go.Ground.phase }, { on := 1, ground := Go.Ground.phase }, { on := 2, ground := Go.Ground.phase }, { on := 3, ground := Go.Ground.phase }, { on := 4, ground := Go.Ground.phase }, { on := 5, ground := Go.Ground.phase }, { on := 6, ground := Go.Ground.phase }, { on := 7, ground := Go.Ground.phase }, { on := 8, ground := Go.Ground.phase }, { on := 9, ground := Go.Ground.phase }], guard := none }) (J := fun V => Below W0.heap.size W0 V) (E := Ec W0 k S nm nm2) (by kernel_rfl) (by kernel_rfl) (by kernel_rfl) (by kernel_rfl) rfl rfl rfl (by kernel_rfl) (fun d v w1 w2 hb h => Ec.keep d v w1 w2 hb h) (Below.refl _ _).drew ?step ?fin
          case step =>
            intro i o hi ho
            rcases (by omega : i = 0 ∨ i = 1 ∨ i = 2 ∨ i = 3 ∨ i = 4 ∨ i = 5 ∨ i = 6 ∨ i = 7 ∨ i = 8 ∨ i = 9) with rfl | rfl | rfl | rfl | rfl | rfl | rfl | rfl | rfl | rfl
            · obtain rfl := Option.some.inj (show some _ = some o from ho)
              intro ac V yl K hf hs _ hJ hK
              have HJ := hid hJ
              have e9 : ac.tmps[9]? = some (.int .i64 (k : Int)) := (hf 9 (by kernel_rfl)).trans rfl
              clear hf hJ
              go_simp
              exact hK.out _ _ (fun d hd => by cases hd; exact rfl) HJ.out (.inl ⟨Below.refl _ _, rfl⟩)
            · obtain rfl := Option.some.inj (show some _ = some o from ho)
              intro ac V yl K hf hs _ hJ hK
              have HJ := hid hJ
              clear hf hJ
              obtain ⟨v39, e39, h39⟩ := hs 39 (by kernel_rfl)
              obtain rfl : v39 = .int .i64 (k : Int) := h39
              go_simp
              exact hK.out _ _ (fun d hd => by cases hd; exact rfl) HJ.out (.inl ⟨Below.refl _ _, rfl⟩)
            · obtain rfl := Option.some.inj (show some _ = some o from ho)
              intro ac V yl K hf hs _ hJ hK
              have HJ := hid hJ
              clear hf hJ
              obtain ⟨v40, e40, h40⟩ := hs 40 (by kernel_rfl)
              obtain rfl : v40 = .int .u8 (k : Int) := h40
              go_simp
              exact hK.out _ _ (fun d hd => by cases hd; exact rfl) HJ.out (.inl ⟨Below.refl _ _, rfl⟩)
            · obtain rfl := Option.some.inj (show some _ = some o from ho)
              intro ac V yl K hf hs _ hJ hK
              have HJ := hid hJ
              clear hf hJ
              obtain ⟨v41, e41, h41⟩ := hs 41 (by kernel_rfl)
              obtain rfl : v41 = .int .u8 (97 + (k : Int)) := h41
              go_simp
              exact hK.out _ _ (fun d hd => by cases hd; exact ⟨_, rfl, heap_alloc_new V _⟩) (HJ.out.alloc HJ.out.size _) (.inl ⟨(Below.refl _ _).alloc (Nat.le_refl _) _, rfl⟩)
            · obtain rfl := Option.some.inj (show some _ = some o from ho)
              intro ac V yl K hf hs _ hJ hK
              have HJ := hid hJ
              clear hf hJ
              obtain ⟨v42, e42, h42⟩ := hs 42 (by kernel_rfl)
              obtain ⟨sb, rfl, hsr⟩ := h42
              have HCV : Hid ((convert 43 9 (.slice (some ⟨sb, 0, none⟩) 2 2)).run Tryd.prog V = .ok (.string nm2) V) := hid (by rw [HN2.out, ← nm_next k (by omega)]; exact conv_two sb k (by omega) V hsr)
              clear hsr
              go_simp
              rw [HCV.out]
              (try go_simp)
              exact hK.out _ _ (fun d hd => by cases hd; exact rfl) HJ.out (.inl ⟨Below.refl _ _, rfl⟩)
            · obtain rfl := Option.some.inj (show some _ = some o from ho)
              intro ac V yl K hf hs _ hJ hK
              have HJ := hid hJ
              have e10 : ac.tmps[10]? = some (.int .i64 S) := (hf 10 (by kernel_rfl)).trans rfl
              clear hf hJ
              go_simp
              exact hK.out _ _ (fun d hd => by cases hd; exact rfl) HJ.out (.inl ⟨Below.refl _ _, rfl⟩)
            · obtain rfl := Option.some.inj (show some _ = some o from ho)
              intro ac V yl K hf hs _ hJ hK
              have HJ := hid hJ
              have e6 : ac.tmps[6]? = some (.string nm) := (hf 6 (by kernel_rfl)).trans rfl
              clear hf hJ
              go_simp
              exact hK.out _ _ (fun d hd => by cases hd; exact rfl) HJ.out (.inl ⟨Below.refl _ _, rfl⟩)
            · obtain rfl := Option.some.inj (show some _ = some o from ho)
              intro ac V yl K hf hs _ hJ hK
              have HJ := hid hJ
              clear hf hJ
              obtain ⟨v45, e45, h45⟩ := hs 45 (by kernel_rfl)
              obtain rfl : v45 = .string nm := h45
              go_simp
              refine (name_at nm V).mono ?_
              rintro e V2 ⟨rfl, hb⟩
              have HB := hid hb
              clear hb
              go_wp2_with fail
              exact hK.out _ _ (fun d hd => by cases hd; exact rfl) (HJ.out.trans (HB.out.mono HJ.out.size)) (.inl ⟨HB.out, rfl⟩)
            · obtain rfl := Option.some.inj (show some _ = some o from ho)
              intro ac V yl K hf hs _ hJ hK
              have HJ := hid hJ
              clear hf hJ
              obtain ⟨v43, e43, h43⟩ := hs 43 (by kernel_rfl)
              obtain rfl : v43 = .string nm2 := h43
              obtain ⟨v44, e44, h44⟩ := hs 44 (by kernel_rfl)
              obtain rfl : v44 = .int .i64 S := h44
              obtain ⟨v46, e46, h46⟩ := hs 46 (by kernel_rfl)
              obtain rfl : v46 = exV ⟨3, 0, nm, []⟩ N0 := h46
              go_simp
              exact hK.out _ _ (fun d hd => by cases hd; exact rfl) HJ.out (.inl ⟨Below.refl _ _, rfl⟩)
            · obtain rfl := Option.some.inj (show some _ = some o from ho)
              intro ac V yl K hf hs _ hJ hK
              have HJ := hid hJ
              clear hf hJ
              go_simp
              exact hK.out _ _ (fun d hd => by cases hd; exact ⟨_, rfl, HJ.out.size, _, heap_alloc_new V _, rfl⟩) (HJ.out.alloc HJ.out.size _) (.inl ⟨(Below.refl _ _).alloc (Nat.le_refl _) _, rfl⟩)
          case fin =>
            rintro a V hd hsz hf hs hJ
            obtain ⟨v39, t39, h39⟩ := hs 0 39 (by omega) rfl
            obtain rfl : v39 = .int .i64 (k : Int) := h39
            obtain ⟨v40, t40, h40⟩ := hs 1 40 (by omega) rfl
            obtain rfl : v40 = .int .u8 (k : Int) := h40
            obtain ⟨v41, t41, h41⟩ := hs 2 41 (by omega) rfl
            obtain rfl : v41 = .int .u8 (97 + (k : Int)) := h41
            obtain ⟨v42, t42, h42⟩ := hs 3 42 (by omega) rfl
            obtain ⟨sb, rfl, _⟩ := h42
            obtain ⟨v43, t43, h43⟩ := hs 4 43 (by omega) rfl
            obtain rfl : v43 = .string nm2 := h43
            obtain ⟨v44, t44, h44⟩ := hs 5 44 (by omega) rfl
            obtain rfl : v44 = .int .i64 S := h44
            obtain ⟨v45, t45, h45⟩ := hs 6 45 (by omega) rfl
            obtain rfl : v45 = .string nm := h45
            obtain ⟨v46, t46, h46⟩ := hs 7 46 (by omega) rfl
            obtain rfl : v46 = exV ⟨3, 0, nm, []⟩ N0 := h46
            obtain ⟨v47, t47, h47⟩ := hs 8 47 (by omega) rfl
            obtain rfl : v47 = flV ⟨nm2, 1, S, 0, ⟨3, 0, nm, []⟩⟩ N0 := h47
            obtain ⟨v11, t11, h11⟩ := hs 9 11 (by omega) rfl
            obtain ⟨tb, rfl, htb, cs, hrow, hcs⟩ := h11
            have hx : a.eval (.tmp 11) = .pointer (some ⟨tb, 0, none⟩) := by show a.tmps.getD 11 undef = _; rw [Array.getD_eq_getD_getElem?, t11]; rfl
            have hy : a.eval (.tmp 47) = flV ⟨nm2, 1, S, 0, ⟨3, 0, nm, []⟩⟩ N0 := by show a.tmps.getD 47 undef = _; rw [Array.getD_eq_getD_getElem?, t47]; rfl
            refine wp_store_row 55 (.tmp 11) (.tmp 47) rfl tb _ hx hy 55 cs hrow info55 hcs (by simp [Value.oneCell']) ?_
            have b1 := below_row hJ hJ.size htb (flL ⟨nm2, 1, S, 0, ⟨3, 0, nm, []⟩⟩ N0).toArray
            have hr1 : (V.setRow tb (flL ⟨nm2, 1, S, 0, ⟨3, 0, nm, []⟩⟩ N0).toArray).heap[tb]? = some (.cells (flL ⟨nm2, 1, S, 0, ⟨3, 0, nm, []⟩⟩ N0).toArray 55 (0, 0)) := setRow_heap _ _ _ _ _ _ hrow
            refine hKK _ _ ?_
            have ea := act_upd [(39, .int .i64 (k : Int)), (40, .int .u8 (k : Int)), (41, .int .u8 (97 + (k : Int))), (42, .slice (some ⟨sb, 0, none⟩) 2 2), (43, .string nm2), (44, .int .i64 S), (45, .string nm), (46, exV ⟨3, 0, nm, []⟩ N0), (47, flV ⟨nm2, 1, S, 0, ⟨3, 0, nm, []⟩⟩ N0), (11, .pointer (some ⟨tb, 0, none⟩))] a _ hd hsz
              (fun p hp => by
                simp only [List.mem_cons, List.not_mem_nil, or_false] at hp
                rcases hp with rfl | rfl | rfl | rfl | rfl | rfl | rfl | rfl | rfl | rfl <;> assumption)
              (fun t ht => by
                refine hf t ?_
                cases hq : Rbs.dstIn _ t with
                | false => rfl
                | true =>
                  exfalso
                  unfold Rbs.dstIn at hq
                  rw [List.any_eq_true] at hq
                  obtain ⟨j, hj, he⟩ := hq
                  have hj := List.mem_range.1 hj
                  have he := eq_of_beq he
                  have hj11 : j < 11 := hj
                  rcases (by omega : j = 0 ∨ j = 1 ∨ j = 2 ∨ j = 3 ∨ j = 4 ∨ j = 5 ∨ j = 6 ∨ j = 7 ∨ j = 8 ∨ j = 9 ∨ j = 10) with rfl | rfl | rfl | rfl | rfl | rfl | rfl | rfl | rfl | rfl | rfl <;>
                    first
                      | (obtain rfl := Option.some.inj (show (some _ : Option Nat) = some t from he); simp at ht)
                      | (have he' : (none : Option Nat) = some t := he; cases he'))
            subst ea
            clear hf hs hd hsz hx hy t39 t40 t41 t42 t43 t44 t45 t46 t47 t11 hrow hcs
            simp only [Act.put, List.foldl_cons, List.foldl_nil, List.setIfInBounds_toArray, List.set_cons_zero, List.set_cons_succ]
            have X1 := hid (XK.out.keep b1)
            have HR1 := hid hr1
            have HTB := hid htb
            have HB1 := hid b1
            clear b1 hr1 htb hJ
            generalize V.setRow tb (flL ⟨nm2, 1, S, 0, ⟨3, 0, nm, []⟩⟩ N0).toArray = W1 at *
            have y : ∀ j, W1.cell? ⟨tb, j, none⟩ = (flL ⟨nm2, 1, S, 0, ⟨3, 0, nm, []⟩⟩ N0).toArray[j]? := fun j => by rw [cell_of_row _ _ _ _ 55 (0, 0) HR1.out]
            have y0 : W1.cell? ⟨tb, 0, none⟩ = some (.string nm2) := y 0
            have y1 : W1.cell? ⟨tb, 1, none⟩ = some (.int .u8 1) := y 1
            have y2 : W1.cell? ⟨tb, 2, none⟩ = some (.int .i64 S) := y 2
            have y3 : W1.cell? ⟨tb, 3, none⟩ = some (.int .i64 0) := y 3
            have y4 : W1.cell? ⟨tb, 4, none⟩ = some (.int .u8 3) := y 4
            have y5 : W1.cell? ⟨tb, 5, none⟩ = some (.int .i64 0) := y 5
            have y6 : W1.cell? ⟨tb, 6, none⟩ = some (.string nm) := y 6
            have y7 : W1.cell? ⟨tb, 7, none⟩ = some N0 := y 7
            clear y
            have x2 : W1.cell? ⟨w.heap.size + 1, 2, none⟩ = some fv := (row4 X1.out.row).2.2.1
            have HNS : Hid (nm.size ≤ 140737488355328) := hid (by rw [HN1.out]; unfold nmC; split <;> (show (_ : Nat) ≤ _) <;> first | (show (1 : Nat) ≤ _; omega) | (show (2 : Nat) ≤ _; omega))
            have HW : Hid (wvC f g (k + 1) = max (wvC f g k - backC g k + wayC f k) 0) := hid rfl
            have hwv := wv_low f g k
            generalize hWV : wvC f g k = WV at *
            generalize hATe : atC f k = AT at *
            have HATQ := hid hATe
            have q1 : IntKind.i64.wrap (WV - 1) = WV - 1 := by rw [IntKind.wrap_i64]; omega
            have q2 : IntKind.i64.wrap (WV + 1) = WV + 1 := by rw [IntKind.wrap_i64]; omega
            have q3 : IntKind.i64.wrap ((k : Int) + 1) = (k : Int) + 1 := by rw [IntKind.wrap_i64]; omega
            clear hWV hATe
            by_cases hkb : k < nb
            · have hkb' : (k : Int) < (nb : Int) := by omega
              obtain ⟨bb, bo, rfl, hbc⟩ := HB.out.2.resolve_left (by omega)
              have zb := cell_kept (hbc k hkb) X1.out.below
              clear hbc
              cases hbv : lb.getD k false with
              | true =>
                rw [hbv] at zb
                have hgk : g k = true := by rw [HG.out]; simp [hkb]; simpa using hbv
                clear hbv
                go_wp2_with (fail)
                refine (name_at nm _).mono ?_
                rintro e w3 ⟨rfl, hb3⟩
                have X3 := hid (X1.out.keep hb3)
                have HB3 := hid (HB1.out.trans (hb3.mono HB1.out.size))
                have HR3 := hid (keep_row HR1.out hb3)
                clear hb3 y0 y1 y2 y3 y4 y5 y6 y7 x2 zb
                go_wp2_with (fail)
                refine (pre_at (fun b => b = w.heap.size + 1 ∨ fv.ownBlock = some b ∨ b = tb) ⟨3, 0, nm, []⟩ N0 w3 (stN _ _ nm HNS.out) (fun j hj => by
                  rcases hj with e | e | e
                  · have := X3.out.pos; omega
                  · exact (X3.out.own.lt j e).2
                  · rw [e]; exact (Array.getElem?_eq_some_iff.1 HR3.out).1)).mono ?_
                rintro e w4 ⟨u, rfl, hu, hb4⟩
                obtain ⟨ua, uc, _, rfl, _⟩ := hu.now.out
                have X4 := hid (X3.out.keep hb4)
                have XB4 := hid (HB3.out.trans (hb4.mono HB3.out.size))
                have HR4 := hid (keep_row HR3.out hb4)
                have HU := hid hu
                clear hu hb4
                have y : ∀ j, w4.cell? ⟨tb, j, none⟩ = (flL ⟨nm2, 1, S, 0, ⟨3, 0, nm, []⟩⟩ N0).toArray[j]? := fun j => by rw [cell_of_row _ _ _ _ 55 (0, 0) HR4.out]
                have y4 : w4.cell? ⟨tb, 4, none⟩ = some (.int .u8 3) := y 4
                have y5 : w4.cell? ⟨tb, 5, none⟩ = some (.int .i64 0) := y 5
                have y6 : w4.cell? ⟨tb, 6, none⟩ = some (.string nm) := y 6
                have y7 : w4.cell? ⟨tb, 7, none⟩ = some N0 := y 7
                have f4 := frozen_of_row w4 tb 4 _ 55 HR4.out
                have f5 := frozen_of_row w4 tb 5 _ 55 HR4.out
                have f6 := frozen_of_row w4 tb 6 _ 55 HR4.out
                have f7 := frozen_of_row w4 tb 7 _ 55 HR4.out
                clear y
                have hb4 : Below W0.heap.size W0 ((((w4.setCell ⟨tb, 4, none⟩ (.int .u8 18)).setCell ⟨tb, 5, none⟩ (.int .i64 0)).setCell ⟨tb, 6, none⟩ (.string ⟨#[]⟩)).setCell ⟨tb, 7, none⟩ (.slice ua 2 uc)) := ((((XB4.out.setCell (p := ⟨tb, 4, none⟩) HTB.out _).setCell (p := ⟨tb, 5, none⟩) HTB.out _).setCell (p := ⟨tb, 6, none⟩) HTB.out _).setCell (p := ⟨tb, 7, none⟩) HTB.out _)
                have X5 := hid (XK.out.keep hb4)
                have hr5 : ((((w4.setCell ⟨tb, 4, none⟩ (.int .u8 18)).setCell ⟨tb, 5, none⟩ (.int .i64 0)).setCell ⟨tb, 6, none⟩ (.string ⟨#[]⟩)).setCell ⟨tb, 7, none⟩ (.slice ua 2 uc)).heap[tb]? = some (.cells [.string nm2, .int .u8 1, .int .i64 S, .int .i64 0, .int .u8 18, .int .i64 0, .string ⟨#[]⟩, .slice ua 2 uc].toArray 55 (0, 0)) := heap_setCell_same _ tb 7 _ 55 _ (heap_setCell_same _ tb 6 _ 55 _ (heap_setCell_same _ tb 5 _ 55 _ (heap_setCell_same w4 tb 4 _ 55 _ HR4.out)))
                have HR5 := hid hr5
                have hbu : Buts (fun b => b = w.heap.size + 1 ∨ fv.ownBlock = some b ∨ b = tb) w4 ((((w4.setCell ⟨tb, 4, none⟩ (.int .u8 18)).setCell ⟨tb, 5, none⟩ (.int .i64 0)).setCell ⟨tb, 6, none⟩ (.string ⟨#[]⟩)).setCell ⟨tb, 7, none⟩ (.slice ua 2 uc)) := (((Buts.set _ tb 4 _ (.inr (.inr rfl))).trans (Buts.set _ tb 5 _ (.inr (.inr rfl)))).trans (Buts.set _ tb 6 _ (.inr (.inr rfl)))).trans (Buts.set _ tb 7 _ (.inr (.inr rfl)))
                have hbd : bdC k (g k) = twE 18 exZ (preE ⟨3, 0, nm, []⟩) := by unfold bdC; rw [hgk, HN1.out]; rfl
                have HST : Hid (StOn (fun b => b = w.heap.size + 1 ∨ fv.ownBlock = some b) (((((w4.setCell ⟨tb, 4, none⟩ (.int .u8 18)).setCell ⟨tb, 5, none⟩ (.int .i64 0)).setCell ⟨tb, 6, none⟩ (.string ⟨#[]⟩)).setCell ⟨tb, 7, none⟩ (.slice ua 2 uc)).alloc (.cells #[.string nm2, .int .u8 1, .int .i64 S, .int .i64 0, .int .u8 18, .int .i64 0, .string ⟨#[]⟩, .slice ua 2 uc] 55)) (bdC k (g k)) (.slice ua 2 uc)) := hid (by
                  rw [hbd]
                  exact AtOn.grow (AtOn.step HU.out hbu) ((Below.refl _ _).alloc (Nat.le_refl _) _) (fun _ _ h => h.elim .inl (fun e => .inr (.inl e))))
                have HFL : Hid (flL (flCh f g k) (.slice ua 2 uc) = [.string nm2, .int .u8 1, .int .i64 S, .int .i64 0, .int .u8 18, .int .i64 0, .string ⟨#[]⟩, .slice ua 2 uc]) := hid (by unfold flCh flL; simp only [hbd]; rw [HN2.out, HS.out]; rfl)
                have HBK : Hid (backC g k = 1) := hid (by unfold backC; rw [hgk]; rfl)
                have y : ∀ j, ((((w4.setCell ⟨tb, 4, none⟩ (.int .u8 18)).setCell ⟨tb, 5, none⟩ (.int .i64 0)).setCell ⟨tb, 6, none⟩ (.string ⟨#[]⟩)).setCell ⟨tb, 7, none⟩ (.slice ua 2 uc)).cell? ⟨tb, j, none⟩ = [.string nm2, .int .u8 1, .int .i64 S, .int .i64 0, .int .u8 18, .int .i64 0, .string ⟨#[]⟩, .slice ua 2 uc].toArray[j]? := fun j => by rw [cell_of_row _ _ _ _ 55 (0, 0) hr5]
                have y0 : ((((w4.setCell ⟨tb, 4, none⟩ (.int .u8 18)).setCell ⟨tb, 5, none⟩ (.int .i64 0)).setCell ⟨tb, 6, none⟩ (.string ⟨#[]⟩)).setCell ⟨tb, 7, none⟩ (.slice ua 2 uc)).cell? ⟨tb, 0, none⟩ = some (.string nm2) := y 0
                have y1 : ((((w4.setCell ⟨tb, 4, none⟩ (.int .u8 18)).setCell ⟨tb, 5, none⟩ (.int .i64 0)).setCell ⟨tb, 6, none⟩ (.string ⟨#[]⟩)).setCell ⟨tb, 7, none⟩ (.slice ua 2 uc)).cell? ⟨tb, 1, none⟩ = some (.int .u8 1) := y 1
                have y2 : ((((w4.setCell ⟨tb, 4, none⟩ (.int .u8 18)).setCell ⟨tb, 5, none⟩ (.int .i64 0)).setCell ⟨tb, 6, none⟩ (.string ⟨#[]⟩)).setCell ⟨tb, 7, none⟩ (.slice ua 2 uc)).cell? ⟨tb, 2, none⟩ = some (.int .i64 S) := y 2
                have y3 : ((((w4.setCell ⟨tb, 4, none⟩ (.int .u8 18)).setCell ⟨tb, 5, none⟩ (.int .i64 0)).setCell ⟨tb, 6, none⟩ (.string ⟨#[]⟩)).setCell ⟨tb, 7, none⟩ (.slice ua 2 uc)).cell? ⟨tb, 3, none⟩ = some (.int .i64 0) := y 3
                have z4 : ((((w4.setCell ⟨tb, 4, none⟩ (.int .u8 18)).setCell ⟨tb, 5, none⟩ (.int .i64 0)).setCell ⟨tb, 6, none⟩ (.string ⟨#[]⟩)).setCell ⟨tb, 7, none⟩ (.slice ua 2 uc)).cell? ⟨tb, 4, none⟩ = some (.int .u8 18) := y 4
                have z5 : ((((w4.setCell ⟨tb, 4, none⟩ (.int .u8 18)).setCell ⟨tb, 5, none⟩ (.int .i64 0)).setCell ⟨tb, 6, none⟩ (.string ⟨#[]⟩)).setCell ⟨tb, 7, none⟩ (.slice ua 2 uc)).cell? ⟨tb, 5, none⟩ = some (.int .i64 0) := y 5
                have z6 : ((((w4.setCell ⟨tb, 4, none⟩ (.int .u8 18)).setCell ⟨tb, 5, none⟩ (.int .i64 0)).setCell ⟨tb, 6, none⟩ (.string ⟨#[]⟩)).setCell ⟨tb, 7, none⟩ (.slice ua 2 uc)).cell? ⟨tb, 6, none⟩ = some (.string ⟨#[]⟩) := y 6
                have z7 : ((((w4.setCell ⟨tb, 4, none⟩ (.int .u8 18)).setCell ⟨tb, 5, none⟩ (.int .i64 0)).setCell ⟨tb, 6, none⟩ (.string ⟨#[]⟩)).setCell ⟨tb, 7, none⟩ (.slice ua 2 uc)).cell? ⟨tb, 7, none⟩ = some (.slice ua 2 uc) := y 7
                have x2 : ((((w4.setCell ⟨tb, 4, none⟩ (.int .u8 18)).setCell ⟨tb, 5, none⟩ (.int .i64 0)).setCell ⟨tb, 6, none⟩ (.string ⟨#[]⟩)).setCell ⟨tb, 7, none⟩ (.slice ua 2 uc)).cell? ⟨w.heap.size + 1, 2, none⟩ = some fv := (row4 X5.out.row).2.2.1
                have q4 : IntKind.i64.wrap WV = WV := by rw [IntKind.wrap_i64]; omega
                clear y hgk hbd hb4 hr5 hbu
                obtain ⟨W5, hW5⟩ : ∃ W5, ((((w4.setCell ⟨tb, 4, none⟩ (.int .u8 18)).setCell ⟨tb, 5, none⟩ (.int .i64 0)).setCell ⟨tb, 6, none⟩ (.string ⟨#[]⟩)).setCell ⟨tb, 7, none⟩ (.slice ua 2 uc)) = W5 := ⟨_, rfl⟩
                rw [hW5] at X5 HR5 HST y0 y1 y2 y3 z4 z5 z6 z7 x2
                by_cases hat : AT = S
                · have hat' : (S != AT) = false := by simp [hat]
                  have HWY : Hid (wvC f g (k + 1) = max (WV - 1) 0) := hid (by rw [HW.out, HBK.out]; unfold wayC; rw [HATQ.out, ← HS.out, if_pos hat]; congr 1; simp)
                  clear hat
                  obtain ⟨i0, hi, hz0, hz1, hz2⟩ := info_parts inf55
                  have HBX := hid ((Below.refl W5.heap.size W5).alloc (Nat.le_refl _) (.cells #[.string nm2, .int .u8 1, .int .i64 S, .int .i64 0, .int .u8 18, .int .i64 0, .string ⟨#[]⟩, .slice ua 2 uc] 55))
                  have HNX := hid (World.news_of_block (heap_alloc_new W5 (.cells #[.string nm2, .int .u8 1, .int .i64 S, .int .i64 0, .int .u8 18, .int .i64 0, .string ⟨#[]⟩, .slice ua 2 uc] 55)))
                  have HOW := hid ((X5.out.keep HBX.out).own)
                  have HPB := hid (show w.heap.size + 2 ≤ (W5.alloc (.cells #[.string nm2, .int .u8 1, .int .i64 S, .int .i64 0, .int .u8 18, .int .i64 0, .string ⟨#[]⟩, .slice ua 2 uc] 55)).heap.size by have h1 := X5.out.pos; have h2 := HBX.out.size; omega)
                  go_wp2_with
                    (first
                      | (rw [hW5])
                      | (at_builtin
                         refine wpList_append_at rfl (.tmp 72) (.tmp 74) 23 rfl (w.heap.size + 1 + 1) 55 i0 _ 8 96 Tryd.underlying23 hi hz0 hz1 hz2 rfl (by decide) fv k (flC (chR f g sv k)) rfl HOW.out ⟨W5.heap.size, 0, none⟩ 1 1 [.string nm2, .int .u8 1, .int .i64 S, .int .i64 0, .int .u8 18, .int .i64 0, .string ⟨#[]⟩, .slice ua 2 uc] rfl rfl HNX.out (by simp [Value.oneCell']) (by unfold maxLen; omega) (by omega) HPB.out ?_
                         intro v5 w5 hown hgrow _ hatb
                         obtain ⟨gg, cc, rfl⟩ := row_pos hown (by omega)
                         rw [← HFL.out] at hown
                         have XG := hid (CS.grow X5.out HR.out HJ.out HBX.out hown hgrow hatb HST.out)
                         have hq : w5.heap[w.heap.size + 1]? = some (.cells #[.int .i64 4, .slice (some ⟨w.heap.size, 0, none⟩) 1 1, fv, .slice none 0 0] 26 (0, 0)) := (hgrow.block _ (X5.out.keep HBX.out).pos (fun e => by have := (HOW.out.lt _ e.symm).1; omega)).trans (X5.out.keep HBX.out).row
                         have c8 := (cell_of_row w5 (w.heap.size + 1) 2 _ 26 (0, 0) hq).trans (show _ = some fv from rfl)
                         have f8 := frozen_of_row w5 (w.heap.size + 1) 2 _ 26 hq
                         have htr : w5.heap[tb]? = some (.cells [.string nm2, .int .u8 1, .int .i64 S, .int .i64 0, .int .u8 18, .int .i64 0, .string ⟨#[]⟩, .slice ua 2 uc].toArray 55 (0, 0)) := (hgrow.block _ (Nat.lt_of_lt_of_le (Array.getElem?_eq_some_iff.1 HR5.out).1 HBX.out.size) (fun e => by have := (XK.out.own.lt _ e.symm).2; have := HTB.out; omega)).trans (keep_row HR5.out HBX.out)
                         have HTR := hid ((Below.heap_setCell w5 ⟨w.heap.size + 1, 2, none⟩ (.slice (some ⟨gg, 0, none⟩) (k + 1) cc) tb (by show tb ≠ w.heap.size + 1; have := HTB.out; have := XK.out.pos; omega)).trans htr)
                         obtain ⟨p0, p1, p2, p3⟩ := row4 XG.out.row
                         clear hown hgrow hatb hq htr))
                  generalize w5.setCell ⟨w.heap.size + 1, 2, none⟩ (.slice (some ⟨gg, 0, none⟩) (k + 1) cc) = w6 at *
                  refine (of_l (chP f g (k + 1)) _ _ _ _ (XG.out.pg (by omega)) XG.out.R XG.out.J).mono ?_
                  rintro e w8 ⟨hO, hb8⟩
                  have X8 := hid (XG.out.keep hb8)
                  have HT8 := hid (keep_row HTR.out hb8)
                  have hE0 := ch_nmErr f g (n := k + 1) (by omega)
                  have hof := ch_of f g (n := k + 1) (by omega) (by omega)
                  rcases hO with ⟨hE, _⟩ | ⟨_, hl, _⟩ | ⟨l, b2, _, hl, he, _, hrw, hlen, _⟩
                  · exact absurd hE0 hE
                  · rw [hof] at hl; cases hl
                  · rw [hof] at hl
                    obtain rfl := Option.some.inj hl
                    rw [ch_len] at he
                    subst he
                    have hz := hrw.cell k (by rw [ls_len]; omega)
                    rw [← lateAt_nat _ k (by rw [ls_len]; omega), ls_at f g (by omega), if_pos (by omega), HWY.out] at hz
                    have y0' : w8.cell? ⟨tb, 0, none⟩ = some (.string nm2) := by rw [cell_of_row _ _ _ _ 55 (0, 0) HT8.out]; rfl
                    clear hE0 hof hl hrw hlen hb8
                    go_wp2_with (fail)
                    go_roundw
                    case rel => exact ⟨k + 1, _, _, by omega, by rw [HN2.out], by rw [HS.out] <;> rfl, by rw [HWY.out] <;> rfl, by go_num, X8⟩
                    case measure => simp [intOf]; omega
                · have hat' : (S != AT) = true := by simpa using fun h => hat h.symm
                  have HWY : Hid (wvC f g (k + 1) = max WV 0) := hid (by rw [HW.out, HBK.out]; unfold wayC; rw [HATQ.out, ← HS.out, if_neg hat]; congr 1; simp)
                  clear hat
                  obtain ⟨i0, hi, hz0, hz1, hz2⟩ := info_parts inf55
                  have HBX := hid ((Below.refl W5.heap.size W5).alloc (Nat.le_refl _) (.cells #[.string nm2, .int .u8 1, .int .i64 S, .int .i64 0, .int .u8 18, .int .i64 0, .string ⟨#[]⟩, .slice ua 2 uc] 55))
                  have HNX := hid (World.news_of_block (heap_alloc_new W5 (.cells #[.string nm2, .int .u8 1, .int .i64 S, .int .i64 0, .int .u8 18, .int .i64 0, .string ⟨#[]⟩, .slice ua 2 uc] 55)))
                  have HOW := hid ((X5.out.keep HBX.out).own)
                  have HPB := hid (show w.heap.size + 2 ≤ (W5.alloc (.cells #[.string nm2, .int .u8 1, .int .i64 S, .int .i64 0, .int .u8 18, .int .i64 0, .string ⟨#[]⟩, .slice ua 2 uc] 55)).heap.size by have h1 := X5.out.pos; have h2 := HBX.out.size; omega)
                  go_wp2_with
                    (first
                      | (rw [hW5])
                      | (at_builtin
                         refine wpList_append_at rfl (.tmp 72) (.tmp 74) 23 rfl (w.heap.size + 1 + 1) 55 i0 _ 8 96 Tryd.underlying23 hi hz0 hz1 hz2 rfl (by decide) fv k (flC (chR f g sv k)) rfl HOW.out ⟨W5.heap.size, 0, none⟩ 1 1 [.string nm2, .int .u8 1, .int .i64 S, .int .i64 0, .int .u8 18, .int .i64 0, .string ⟨#[]⟩, .slice ua 2 uc] rfl rfl HNX.out (by simp [Value.oneCell']) (by unfold maxLen; omega) (by omega) HPB.out ?_
                         intro v5 w5 hown hgrow _ hatb
                         obtain ⟨gg, cc, rfl⟩ := row_pos hown (by omega)
                         rw [← HFL.out] at hown
                         have XG := hid (CS.grow X5.out HR.out HJ.out HBX.out hown hgrow hatb HST.out)
                         have hq : w5.heap[w.heap.size + 1]? = some (.cells #[.int .i64 4, .slice (some ⟨w.heap.size, 0, none⟩) 1 1, fv, .slice none 0 0] 26 (0, 0)) := (hgrow.block _ (X5.out.keep HBX.out).pos (fun e => by have := (HOW.out.lt _ e.symm).1; omega)).trans (X5.out.keep HBX.out).row
                         have c8 := (cell_of_row w5 (w.heap.size + 1) 2 _ 26 (0, 0) hq).trans (show _ = some fv from rfl)
                         have f8 := frozen_of_row w5 (w.heap.size + 1) 2 _ 26 hq
                         have htr : w5.heap[tb]? = some (.cells [.string nm2, .int .u8 1, .int .i64 S, .int .i64 0, .int .u8 18, .int .i64 0, .string ⟨#[]⟩, .slice ua 2 uc].toArray 55 (0, 0)) := (hgrow.block _ (Nat.lt_of_lt_of_le (Array.getElem?_eq_some_iff.1 HR5.out).1 HBX.out.size) (fun e => by have := (XK.out.own.lt _ e.symm).2; have := HTB.out; omega)).trans (keep_row HR5.out HBX.out)
                         have HTR := hid ((Below.heap_setCell w5 ⟨w.heap.size + 1, 2, none⟩ (.slice (some ⟨gg, 0, none⟩) (k + 1) cc) tb (by show tb ≠ w.heap.size + 1; have := HTB.out; have := XK.out.pos; omega)).trans htr)
                         obtain ⟨p0, p1, p2, p3⟩ := row4 XG.out.row
                         clear hown hgrow hatb hq htr))
                  generalize w5.setCell ⟨w.heap.size + 1, 2, none⟩ (.slice (some ⟨gg, 0, none⟩) (k + 1) cc) = w6 at *
                  refine (of_l (chP f g (k + 1)) _ _ _ _ (XG.out.pg (by omega)) XG.out.R XG.out.J).mono ?_
                  rintro e w8 ⟨hO, hb8⟩
                  have X8 := hid (XG.out.keep hb8)
                  have HT8 := hid (keep_row HTR.out hb8)
                  have hE0 := ch_nmErr f g (n := k + 1) (by omega)
                  have hof := ch_of f g (n := k + 1) (by omega) (by omega)
                  rcases hO with ⟨hE, _⟩ | ⟨_, hl, _⟩ | ⟨l, b2, _, hl, he, _, hrw, hlen, _⟩
                  · exact absurd hE0 hE
                  · rw [hof] at hl; cases hl
                  · rw [hof] at hl
                    obtain rfl := Option.some.inj hl
                    rw [ch_len] at he
                    subst he
                    have hz := hrw.cell k (by rw [ls_len]; omega)
                    rw [← lateAt_nat _ k (by rw [ls_len]; omega), ls_at f g (by omega), if_pos (by omega), HWY.out] at hz
                    have y0' : w8.cell? ⟨tb, 0, none⟩ = some (.string nm2) := by rw [cell_of_row _ _ _ _ 55 (0, 0) HT8.out]; rfl
                    clear hE0 hof hl hrw hlen hb8
                    go_wp2_with (fail)
                    go_roundw
                    case rel => exact ⟨k + 1, _, _, by omega, by rw [HN2.out], by rw [HS.out] <;> rfl, by rw [HWY.out] <;> rfl, by go_num, X8⟩
                    case measure => simp [intOf]; omega
              | false =>
                rw [hbv] at zb
                have hgk : g k = false := by rw [HG.out]; simp; intro _; simpa using hbv
                clear hbv
                have hbd : bdC k (g k) = ⟨3, 0, nm, []⟩ := by unfold bdC; rw [hgk, HN1.out]; rfl
                have HFL : Hid (flL (flCh f g k) N0 = [.string nm2, .int .u8 1, .int .i64 S, .int .i64 0, .int .u8 3, .int .i64 0, .string nm, .slice none 0 0]) := hid (by unfold flCh flL; simp only [hbd]; rw [HN2.out, HS.out]; rfl)
                have HST : Hid (∀ V : World, StOn (fun b => b = w.heap.size + 1 ∨ fv.ownBlock = some b) V (bdC k (g k)) N0) := hid (fun V => by rw [hbd]; exact stN _ _ nm HNS.out)
                have HBK : Hid (backC g k = 0) := hid (by unfold backC; rw [hgk]; rfl)
                clear hgk hbd
                by_cases hat : AT = S
                · have hat' : (S != AT) = false := by simp [hat]
                  have HWY : Hid (wvC f g (k + 1) = max WV 0) := hid (by rw [HW.out, HBK.out]; unfold wayC; rw [HATQ.out, ← HS.out, if_pos hat]; congr 1; simp)
                  clear hat
                  obtain ⟨i0, hi, hz0, hz1, hz2⟩ := info_parts inf55
                  have HBX := hid ((Below.refl W1.heap.size W1).alloc (Nat.le_refl _) (.cells #[.string nm2, .int .u8 1, .int .i64 S, .int .i64 0, .int .u8 3, .int .i64 0, .string nm, .slice none 0 0] 55))
                  have HNX := hid (World.news_of_block (heap_alloc_new W1 (.cells #[.string nm2, .int .u8 1, .int .i64 S, .int .i64 0, .int .u8 3, .int .i64 0, .string nm, .slice none 0 0] 55)))
                  have HOW := hid ((X1.out.keep HBX.out).own)
                  have HPB := hid (show w.heap.size + 2 ≤ (W1.alloc (.cells #[.string nm2, .int .u8 1, .int .i64 S, .int .i64 0, .int .u8 3, .int .i64 0, .string nm, .slice none 0 0] 55)).heap.size by have h1 := X1.out.pos; have h2 := HBX.out.size; omega)
                  go_wp2_with
                    (at_builtin
                     refine wpList_append_at rfl (.tmp 72) (.tmp 74) 23 rfl (w.heap.size + 1 + 1) 55 i0 _ 8 96 Tryd.underlying23 hi hz0 hz1 hz2 rfl (by decide) fv k (flC (chR f g sv k)) rfl HOW.out ⟨W1.heap.size, 0, none⟩ 1 1 [.string nm2, .int .u8 1, .int .i64 S, .int .i64 0, .int .u8 3, .int .i64 0, .string nm, .slice none 0 0] rfl rfl HNX.out (by simp [Value.oneCell']) (by unfold maxLen; omega) (by omega) HPB.out ?_
                     intro v5 w5 hown hgrow _ hatb
                     obtain ⟨gg, cc, rfl⟩ := row_pos hown (by omega)
                     rw [← HFL.out] at hown
                     have XG := hid (CS.grow X1.out HR.out HJ.out HBX.out hown hgrow hatb (HST.out _))
                     have hq : w5.heap[w.heap.size + 1]? = some (.cells #[.int .i64 4, .slice (some ⟨w.heap.size, 0, none⟩) 1 1, fv, .slice none 0 0] 26 (0, 0)) := (hgrow.block _ (X1.out.keep HBX.out).pos (fun e => by have := (HOW.out.lt _ e.symm).1; omega)).trans (X1.out.keep HBX.out).row
                     have c8 := (cell_of_row w5 (w.heap.size + 1) 2 _ 26 (0, 0) hq).trans (show _ = some fv from rfl)
                     have f8 := frozen_of_row w5 (w.heap.size + 1) 2 _ 26 hq
                     have htr : w5.heap[tb]? = some (.cells [.string nm2, .int .u8 1, .int .i64 S, .int .i64 0, .int .u8 3, .int .i64 0, .string nm, .slice none 0 0].toArray 55 (0, 0)) := (hgrow.block _ (Nat.lt_of_lt_of_le (Array.getElem?_eq_some_iff.1 HR1.out).1 HBX.out.size) (fun e => by have := (XK.out.own.lt _ e.symm).2; have := HTB.out; omega)).trans (keep_row HR1.out HBX.out)
                     have HTR := hid ((Below.heap_setCell w5 ⟨w.heap.size + 1, 2, none⟩ (.slice (some ⟨gg, 0, none⟩) (k + 1) cc) tb (by show tb ≠ w.heap.size + 1; have := HTB.out; have := XK.out.pos; omega)).trans htr)
                     obtain ⟨p0, p1, p2, p3⟩ := row4 XG.out.row
                     clear hown hgrow hatb hq htr)
                  generalize w5.setCell ⟨w.heap.size + 1, 2, none⟩ (.slice (some ⟨gg, 0, none⟩) (k + 1) cc) = w6 at *
                  refine (of_l (chP f g (k + 1)) _ _ _ _ (XG.out.pg (by omega)) XG.out.R XG.out.J).mono ?_
                  rintro e w8 ⟨hO, hb8⟩
                  have X8 := hid (XG.out.keep hb8)
                  have HT8 := hid (keep_row HTR.out hb8)
                  have hE0 := ch_nmErr f g (n := k + 1) (by omega)
                  have hof := ch_of f g (n := k + 1) (by omega) (by omega)
                  rcases hO with ⟨hE, _⟩ | ⟨_, hl, _⟩ | ⟨l, b2, _, hl, he, _, hrw, hlen, _⟩
                  · exact absurd hE0 hE
                  · rw [hof] at hl; cases hl
                  · rw [hof] at hl
                    obtain rfl := Option.some.inj hl
                    rw [ch_len] at he
                    subst he
                    have hz := hrw.cell k (by rw [ls_len]; omega)
                    rw [← lateAt_nat _ k (by rw [ls_len]; omega), ls_at f g (by omega), if_pos (by omega), HWY.out] at hz
                    have y0' : w8.cell? ⟨tb, 0, none⟩ = some (.string nm2) := by rw [cell_of_row _ _ _ _ 55 (0, 0) HT8.out]; rfl
                    clear hE0 hof hl hrw hlen hb8
                    go_wp2_with (fail)
                    go_roundw
                    case rel => exact ⟨k + 1, _, _, by omega, by rw [HN2.out], by rw [HS.out] <;> rfl, by rw [HWY.out] <;> rfl, by go_num, X8⟩
                    case measure => simp [intOf]; omega
                · have hat' : (S != AT) = true := by simpa using fun h => hat h.symm
                  have HWY : Hid (wvC f g (k + 1) = max (WV + 1) 0) := hid (by rw [HW.out, HBK.out]; unfold wayC; rw [HATQ.out, ← HS.out, if_neg hat]; congr 1; simp)
                  clear hat
                  obtain ⟨i0, hi, hz0, hz1, hz2⟩ := info_parts inf55
                  have HBX := hid ((Below.refl W1.heap.size W1).alloc (Nat.le_refl _) (.cells #[.string nm2, .int .u8 1, .int .i64 S, .int .i64 0, .int .u8 3, .int .i64 0, .string nm, .slice none 0 0] 55))
                  have HNX := hid (World.news_of_block (heap_alloc_new W1 (.cells #[.string nm2, .int .u8 1, .int .i64 S, .int .i64 0, .int .u8 3, .int .i64 0, .string nm, .slice none 0 0] 55)))
                  have HOW := hid ((X1.out.keep HBX.out).own)
                  have HPB := hid (show w.heap.size + 2 ≤ (W1.alloc (.cells #[.string nm2, .int .u8 1, .int .i64 S, .int .i64 0, .int .u8 3, .int .i64 0, .string nm, .slice none 0 0] 55)).heap.size by have h1 := X1.out.pos; have h2 := HBX.out.size; omega)
                  go_wp2_with
                    (at_builtin
                     refine wpList_append_at rfl (.tmp 72) (.tmp 74) 23 rfl (w.heap.size + 1 + 1) 55 i0 _ 8 96 Tryd.underlying23 hi hz0 hz1 hz2 rfl (by decide) fv k (flC (chR f g sv k)) rfl HOW.out ⟨W1.heap.size, 0, none⟩ 1 1 [.string nm2, .int .u8 1, .int .i64 S, .int .i64 0, .int .u8 3, .int .i64 0, .string nm, .slice none 0 0] rfl rfl HNX.out (by simp [Value.oneCell']) (by unfold maxLen; omega) (by omega) HPB.out ?_
                     intro v5 w5 hown hgrow _ hatb
                     obtain ⟨gg, cc, rfl⟩ := row_pos hown (by omega)
                     rw [← HFL.out] at hown
                     have XG := hid (CS.grow X1.out HR.out HJ.out HBX.out hown hgrow hatb (HST.out _))
                     have hq : w5.heap[w.heap.size + 1]? = some (.cells #[.int .i64 4, .slice (some ⟨w.heap.size, 0, none⟩) 1 1, fv, .slice none 0 0] 26 (0, 0)) := (hgrow.block _ (X1.out.keep HBX.out).pos (fun e => by have := (HOW.out.lt _ e.symm).1; omega)).trans (X1.out.keep HBX.out).row
                     have c8 := (cell_of_row w5 (w.heap.size + 1) 2 _ 26 (0, 0) hq).trans (show _ = some fv from rfl)
                     have f8 := frozen_of_row w5 (w.heap.size + 1) 2 _ 26 hq
                     have htr : w5.heap[tb]? = some (.cells [.string nm2, .int .u8 1, .int .i64 S, .int .i64 0, .int .u8 3, .int .i64 0, .string nm, .slice none 0 0].toArray 55 (0, 0)) := (hgrow.block _ (Nat.lt_of_lt_of_le (Array.getElem?_eq_some_iff.1 HR1.out).1 HBX.out.size) (fun e => by have := (XK.out.own.lt _ e.symm).2; have := HTB.out; omega)).trans (keep_row HR1.out HBX.out)
                     have HTR := hid ((Below.heap_setCell w5 ⟨w.heap.size + 1, 2, none⟩ (.slice (some ⟨gg, 0, none⟩) (k + 1) cc) tb (by show tb ≠ w.heap.size + 1; have := HTB.out; have := XK.out.pos; omega)).trans htr)
                     obtain ⟨p0, p1, p2, p3⟩ := row4 XG.out.row
                     clear hown hgrow hatb hq htr)
                  generalize w5.setCell ⟨w.heap.size + 1, 2, none⟩ (.slice (some ⟨gg, 0, none⟩) (k + 1) cc) = w6 at *
                  refine (of_l (chP f g (k + 1)) _ _ _ _ (XG.out.pg (by omega)) XG.out.R XG.out.J).mono ?_
                  rintro e w8 ⟨hO, hb8⟩
                  have X8 := hid (XG.out.keep hb8)
                  have HT8 := hid (keep_row HTR.out hb8)
                  have hE0 := ch_nmErr f g (n := k + 1) (by omega)
                  have hof := ch_of f g (n := k + 1) (by omega) (by omega)
                  rcases hO with ⟨hE, _⟩ | ⟨_, hl, _⟩ | ⟨l, b2, _, hl, he, _, hrw, hlen, _⟩
                  · exact absurd hE0 hE
                  · rw [hof] at hl; cases hl
                  · rw [hof] at hl
                    obtain rfl := Option.some.inj hl
                    rw [ch_len] at he
                    subst he
                    have hz := hrw.cell k (by rw [ls_len]; omega)
                    rw [← lateAt_nat _ k (by rw [ls_len]; omega), ls_at f g (by omega), if_pos (by omega), HWY.out] at hz
                    have y0' : w8.cell? ⟨tb, 0, none⟩ = some (.string nm2) := by rw [cell_of_row _ _ _ _ 55 (0, 0) HT8.out]; rfl
                    clear hE0 hof hl hrw hlen hb8
                    go_wp2_with (fail)
                    go_roundw
                    case rel => exact ⟨k + 1, _, _, by omega, by rw [HN2.out], by rw [HS.out] <;> rfl, by rw [HWY.out] <;> rfl, by go_num, X8⟩
                    case measure => simp [intOf]; omega
            · have hkb' : ¬ (k : Int) < (nb : Int) := by omega
              have hgk : g k = false := by rw [HG.out]; simp [hkb]
              have hbd : bdC k (g k) = ⟨3, 0, nm, []⟩ := by unfold bdC; rw [hgk, HN1.out]; rfl
              have HFL : Hid (flL (flCh f g k) N0 = [.string nm2, .int .u8 1, .int .i64 S, .int .i64 0, .int .u8 3, .int .i64 0, .string nm, .slice none 0 0]) := hid (by unfold flCh flL; simp only [hbd]; rw [HN2.out, HS.out]; rfl)
              have HST : Hid (∀ V : World, StOn (fun b => b = w.heap.size + 1 ∨ fv.ownBlock = some b) V (bdC k (g k)) N0) := hid (fun V => by rw [hbd]; exact stN _ _ nm HNS.out)
              have HBK : Hid (backC g k = 0) := hid (by unfold backC; rw [hgk]; rfl)
              clear hgk hbd
              by_cases hat : AT = S
              · have hat' : (S != AT) = false := by simp [hat]
                have HWY : Hid (wvC f g (k + 1) = max WV 0) := hid (by rw [HW.out, HBK.out]; unfold wayC; rw [HATQ.out, ← HS.out, if_pos hat]; congr 1; simp)
                clear hat
                obtain ⟨i0, hi, hz0, hz1, hz2⟩ := info_parts inf55
                have HBX := hid ((Below.refl W1.heap.size W1).alloc (Nat.le_refl _) (.cells #[.string nm2, .int .u8 1, .int .i64 S, .int .i64 0, .int .u8 3, .int .i64 0, .string nm, .slice none 0 0] 55))
                have HNX := hid (World.news_of_block (heap_alloc_new W1 (.cells #[.string nm2, .int .u8 1, .int .i64 S, .int .i64 0, .int .u8 3, .int .i64 0, .string nm, .slice none 0 0] 55)))
                have HOW := hid ((X1.out.keep HBX.out).own)
                have HPB := hid (show w.heap.size + 2 ≤ (W1.alloc (.cells #[.string nm2, .int .u8 1, .int .i64 S, .int .i64 0, .int .u8 3, .int .i64 0, .string nm, .slice none 0 0] 55)).heap.size by have h1 := X1.out.pos; have h2 := HBX.out.size; omega)
                go_wp2_with
                  (at_builtin
                   refine wpList_append_at rfl (.tmp 72) (.tmp 74) 23 rfl (w.heap.size + 1 + 1) 55 i0 _ 8 96 Tryd.underlying23 hi hz0 hz1 hz2 rfl (by decide) fv k (flC (chR f g sv k)) rfl HOW.out ⟨W1.heap.size, 0, none⟩ 1 1 [.string nm2, .int .u8 1, .int .i64 S, .int .i64 0, .int .u8 3, .int .i64 0, .string nm, .slice none 0 0] rfl rfl HNX.out (by simp [Value.oneCell']) (by unfold maxLen; omega) (by omega) HPB.out ?_
                   intro v5 w5 hown hgrow _ hatb
                   obtain ⟨gg, cc, rfl⟩ := row_pos hown (by omega)
                   rw [← HFL.out] at hown
                   have XG := hid (CS.grow X1.out HR.out HJ.out HBX.out hown hgrow hatb (HST.out _))
                   have hq : w5.heap[w.heap.size + 1]? = some (.cells #[.int .i64 4, .slice (some ⟨w.heap.size, 0, none⟩) 1 1, fv, .slice none 0 0] 26 (0, 0)) := (hgrow.block _ (X1.out.keep HBX.out).pos (fun e => by have := (HOW.out.lt _ e.symm).1; omega)).trans (X1.out.keep HBX.out).row
                   have c8 := (cell_of_row w5 (w.heap.size + 1) 2 _ 26 (0, 0) hq).trans (show _ = some fv from rfl)
                   have f8 := frozen_of_row w5 (w.heap.size + 1) 2 _ 26 hq
                   have htr : w5.heap[tb]? = some (.cells [.string nm2, .int .u8 1, .int .i64 S, .int .i64 0, .int .u8 3, .int .i64 0, .string nm, .slice none 0 0].toArray 55 (0, 0)) := (hgrow.block _ (Nat.lt_of_lt_of_le (Array.getElem?_eq_some_iff.1 HR1.out).1 HBX.out.size) (fun e => by have := (XK.out.own.lt _ e.symm).2; have := HTB.out; omega)).trans (keep_row HR1.out HBX.out)
                   have HTR := hid ((Below.heap_setCell w5 ⟨w.heap.size + 1, 2, none⟩ (.slice (some ⟨gg, 0, none⟩) (k + 1) cc) tb (by show tb ≠ w.heap.size + 1; have := HTB.out; have := XK.out.pos; omega)).trans htr)
                   obtain ⟨p0, p1, p2, p3⟩ := row4 XG.out.row
                   clear hown hgrow hatb hq htr)
                generalize w5.setCell ⟨w.heap.size + 1, 2, none⟩ (.slice (some ⟨gg, 0, none⟩) (k + 1) cc) = w6 at *
                refine (of_l (chP f g (k + 1)) _ _ _ _ (XG.out.pg (by omega)) XG.out.R XG.out.J).mono ?_
                rintro e w8 ⟨hO, hb8⟩
                have X8 := hid (XG.out.keep hb8)
                have HT8 := hid (keep_row HTR.out hb8)
                have hE0 := ch_nmErr f g (n := k + 1) (by omega)
                have hof := ch_of f g (n := k + 1) (by omega) (by omega)
                rcases hO with ⟨hE, _⟩ | ⟨_, hl, _⟩ | ⟨l, b2, _, hl, he, _, hrw, hlen, _⟩
                · exact absurd hE0 hE
                · rw [hof] at hl; cases hl
                · rw [hof] at hl
                  obtain rfl := Option.some.inj hl
                  rw [ch_len] at he
                  subst he
                  have hz := hrw.cell k (by rw [ls_len]; omega)
                  rw [← lateAt_nat _ k (by rw [ls_len]; omega), ls_at f g (by omega), if_pos (by omega), HWY.out] at hz
                  have y0' : w8.cell? ⟨tb, 0, none⟩ = some (.string nm2) := by rw [cell_of_row _ _ _ _ 55 (0, 0) HT8.out]; rfl
                  clear hE0 hof hl hrw hlen hb8
                  go_wp2_with (fail)
                  go_roundw
                  case rel => exact ⟨k + 1, _, _, by omega, by rw [HN2.out], by rw [HS.out] <;> rfl, by rw [HWY.out] <;> rfl, by go_num, X8⟩
                  case measure => simp [intOf]; omega
              · have hat' : (S != AT) = true := by simpa using fun h => hat h.symm
                have HWY : Hid (wvC f g (k + 1) = max (WV + 1) 0) := hid (by rw [HW.out, HBK.out]; unfold wayC; rw [HATQ.out, ← HS.out, if_neg hat]; congr 1; simp)
                clear hat
                obtain ⟨i0, hi, hz0, hz1, hz2⟩ := info_parts inf55
                have HBX := hid ((Below.refl W1.heap.size W1).alloc (Nat.le_refl _) (.cells #[.string nm2, .int .u8 1, .int .i64 S, .int .i64 0, .int .u8 3, .int .i64 0, .string nm, .slice none 0 0] 55))
                have HNX := hid (World.news_of_block (heap_alloc_new W1 (.cells #[.string nm2, .int .u8 1, .int .i64 S, .int .i64 0, .int .u8 3, .int .i64 0, .string nm, .slice none 0 0] 55)))
                have HOW := hid ((X1.out.keep HBX.out).own)
                have HPB := hid (show w.heap.size + 2 ≤ (W1.alloc (.cells #[.string nm2, .int .u8 1, .int .i64 S, .int .i64 0, .int .u8 3, .int .i64 0, .string nm, .slice none 0 0] 55)).heap.size by have h1 := X1.out.pos; have h2 := HBX.out.size; omega)
                go_wp2_with
                  (at_builtin
                   refine wpList_append_at rfl (.tmp 72) (.tmp 74) 23 rfl (w.heap.size + 1 + 1) 55 i0 _ 8 96 Tryd.underlying23 hi hz0 hz1 hz2 rfl (by decide) fv k (flC (chR f g sv k)) rfl HOW.out ⟨W1.heap.size, 0, none⟩ 1 1 [.string nm2, .int .u8 1, .int .i64 S, .int .i64 0, .int .u8 3, .int .i64 0, .string nm, .slice none 0 0] rfl rfl HNX.out (by simp [Value.oneCell']) (by unfold maxLen; omega) (by omega) HPB.out ?_
                   intro v5 w5 hown hgrow _ hatb
                   obtain ⟨gg, cc, rfl⟩ := row_pos hown (by omega)
                   rw [← HFL.out] at hown
                   have XG := hid (CS.grow X1.out HR.out HJ.out HBX.out hown hgrow hatb (HST.out _))
                   have hq : w5.heap[w.heap.size + 1]? = some (.cells #[.int .i64 4, .slice (some ⟨w.heap.size, 0, none⟩) 1 1, fv, .slice none 0 0] 26 (0, 0)) := (hgrow.block _ (X1.out.keep HBX.out).pos (fun e => by have := (HOW.out.lt _ e.symm).1; omega)).trans (X1.out.keep HBX.out).row
                   have c8 := (cell_of_row w5 (w.heap.size + 1) 2 _ 26 (0, 0) hq).trans (show _ = some fv from rfl)
                   have f8 := frozen_of_row w5 (w.heap.size + 1) 2 _ 26 hq
                   have htr : w5.heap[tb]? = some (.cells [.string nm2, .int .u8 1, .int .i64 S, .int .i64 0, .int .u8 3, .int .i64 0, .string nm, .slice none 0 0].toArray 55 (0, 0)) := (hgrow.block _ (Nat.lt_of_lt_of_le (Array.getElem?_eq_some_iff.1 HR1.out).1 HBX.out.size) (fun e => by have := (XK.out.own.lt _ e.symm).2; have := HTB.out; omega)).trans (keep_row HR1.out HBX.out)
                   have HTR := hid ((Below.heap_setCell w5 ⟨w.heap.size + 1, 2, none⟩ (.slice (some ⟨gg, 0, none⟩) (k + 1) cc) tb (by show tb ≠ w.heap.size + 1; have := HTB.out; have := XK.out.pos; omega)).trans htr)
                   obtain ⟨p0, p1, p2, p3⟩ := row4 XG.out.row
                   clear hown hgrow hatb hq htr)
                generalize w5.setCell ⟨w.heap.size + 1, 2, none⟩ (.slice (some ⟨gg, 0, none⟩) (k + 1) cc) = w6 at *
                refine (of_l (chP f g (k + 1)) _ _ _ _ (XG.out.pg (by omega)) XG.out.R XG.out.J).mono ?_
                rintro e w8 ⟨hO, hb8⟩
                have X8 := hid (XG.out.keep hb8)
                have HT8 := hid (keep_row HTR.out hb8)
                have hE0 := ch_nmErr f g (n := k + 1) (by omega)
                have hof := ch_of f g (n := k + 1) (by omega) (by omega)
                rcases hO with ⟨hE, _⟩ | ⟨_, hl, _⟩ | ⟨l, b2, _, hl, he, _, hrw, hlen, _⟩
                · exact absurd hE0 hE
                · rw [hof] at hl; cases hl
                · rw [hof] at hl
                  obtain rfl := Option.some.inj hl
                  rw [ch_len] at he
                  subst he
                  have hz := hrw.cell k (by rw [ls_len]; omega)
                  rw [← lateAt_nat _ k (by rw [ls_len]; omega), ls_at f g (by omega), if_pos (by omega), HWY.out] at hz
                  have y0' : w8.cell? ⟨tb, 0, none⟩ = some (.string nm2) := by rw [cell_of_row _ _ _ _ 55 (0, 0) HT8.out]; rfl
                  clear hE0 hof hl hrw hlen hb8
                  go_wp2_with (fail)
                  go_roundw
                  case rel => exact ⟨k + 1, _, _, by omega, by rw [HN2.out], by rw [HS.out] <;> rfl, by rw [HWY.out] <;> rfl, by go_num, X8⟩
                  case measure => simp [intOf]; omega
        · have hkn' : ¬ (k : Int) < (n : Int) := by omega
          go_wp2_with (fail)
          refine (lives _ XK.out.R XK.out.J).mono ?_
          rintro e wz ⟨rfl, hbz⟩
          have BZ := hid (XK.out.below.trans (hbz.mono XK.out.below.size))
          clear hbz
          go_wp2_with (fail)
          go_ret
          exact ⟨rfl, BZ.out⟩
end Go.Proofs.YtmlapodhpinhmaaDoor.Lex
