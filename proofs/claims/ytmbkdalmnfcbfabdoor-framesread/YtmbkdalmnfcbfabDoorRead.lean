/-
  The walk of FramesRead.
-/
import Derived.Test.YtmbkdalmnfcbfabDoorKinds
namespace Go.Proofs.YtmbkdalmnfcbfabDoor.Bits
open Go.ChangeShapes Go.WideShapes Go.ChangeAt Go.RowKit Go.Shelf Go.Maps
theorem walk5_far (a : Option Addr) (len cap : Nat) (c : Nat) (w : World) (hW : Wid w) (hlen : 2000 < len) (hlm : len ≤ 140737488355328) :
    Calls Tryd.prog 5 #[.slice a len cap, .int .u8 (c : Int)] w fun e w' => e = .returned (.bool true) ∧ Below w.heap.size w w' := by
  have p1 : Hid True := trivial
  have hl' : (2000 : Int) < (len : Int) := by omega
  go_enter Tryd.func5, Tryd.ntmps5
  go_wp2_with (go_at_call 7; first
    | (clear p1; refine (alive _ hW).mono ?_; rintro e w1 ⟨rfl, hk1⟩; have hW1 := hW.below hk1)
    | (refine (alive w1 hW1).mono ?_; rintro e w2 ⟨rfl, hk2⟩))
  go_ret
  exact ⟨rfl, bstep hk1 hk2⟩
theorem news1 {W : World} {b : Nat} {u : Value} {t : TypeId} (h : W.heap[b]? = some (.cells #[u] t (0, 0))) : ∀ j v, [u][j]? = some v → W.cell? ((⟨b, 0, none⟩ : Addr).add j) = some v := fun j v hv => by
  rw [add_none, Nat.zero_add, cell_of_row W b j _ t (0, 0) h]; simpa using hv
/-- Values, of all bytes of the right length; Payload, of these. -/
theorem read_values (a : Option Addr) (len cap k m : Nat) (a2 : Option Addr) (cap2 : Nat) (B : List Int) (w : World) (hlen : len = 8 * k + m) (hE : Elems w a len B) (hT : Elems w a2 (k + 8 * m) (TT k (8 * m))) :
    Calls Tryd.prog 14 #[.slice a len cap, .slice a2 (k + 8 * m) cap2] w fun e w' => ∃ g, e = .returned (.tuple #[.slice (some ⟨g, 0, none⟩) (k + 8 * m) (k + 8 * m), .int .i64 0]) ∧ Row2 w' g (k + 8 * m) (k + 8 * m) (TT k (8 * m)) (XT B (TT k (8 * m))) ∧ w.heap.size ≤ g ∧ Below w.heap.size w w' := by
  have e8 : (8 * len + 7) / 8 = len := by omega
  have ht : tot (KT (TT k (8 * m))) (k + 8 * m) = 8 * len := by rw [tot_TT k (8 * m) _ (Nat.le_refl _)]; split <;> omega
  have h := values_ok a cap a2 (k + 8 * m) cap2 B (TT k (8 * m)) (8 * len) w (by rw [e8]; exact hE) hT (fun i hi => by rw [KT_TT k (8 * m) i hi]; split <;> decide) ht (by rw [e8, Nat.sub_self]; rfl)
  rw [e8] at h
  exact h
theorem read_payload (g len k m : Nat) (B : List Int) (w : World) (hlen : len = 8 * k + m) (h2000 : len ≤ 2000) (hB : Byte B) (hl : B.length = len) (hR : Row2 w g (k + 8 * m) (k + 8 * m) (TT k (8 * m)) (XT B (TT k (8 * m)))) :
    Calls Tryd.prog 13 #[.slice (some ⟨g, 0, none⟩) (k + 8 * m) (k + 8 * m)] w fun e w' => ∃ g', e = .returned (.tuple #[.slice (some ⟨g', 0, none⟩) len len, .int .i64 0]) ∧ Blk w' g' B ∧ w.heap.size ≤ g' ∧ Below w.heap.size w w' := by
  have e8 : (8 * len + 7) / 8 = len := by omega
  have ht : tot (KT (TT k (8 * m))) (k + 8 * m) = 8 * len := by rw [tot_TT k (8 * m) _ (Nat.le_refl _)]; split <;> omega
  have hV := hR.vals (by omega) (fun i _ => byte_getD (TT_byte k (8 * m)) i)
  have hun : ∀ i, un (XT B (TT k (8 * m)) i) = val (part B (tot (KT (TT k (8 * m))) i) (KT (TT k (8 * m)) i)) := fun i => by
    unfold XT
    refine un_si _ (Nat.lt_of_lt_of_le (val_lt _) ?_)
    rw [part_length]
    exact Nat.pow_le_pow_right (by decide) (KT_le _ _)
  have hK : (fun i => wide ((TT k (8 * m)).getD i 0).toNat) = KT (TT k (8 * m)) := rfl
  have h := payload (some ⟨g, 0, none⟩) (k + 8 * m) (k + 8 * m) (fun i => ((TT k (8 * m)).getD i 0).toNat) (XT B (TT k (8 * m))) w hV
    (fun i hi => by
      have h1 : wide ((TT k (8 * m)).getD i 0).toNat = KT (TT k (8 * m)) i := rfl
      rw [hun, h1]
      refine ⟨by rw [KT_TT k (8 * m) i hi]; split <;> decide, ?_⟩
      have := val_lt (part B (tot (KT (TT k (8 * m))) i) (KT (TT k (8 * m)) i))
      rwa [part_length] at this) (by rw [hK, ht, e8]; omega) (by omega)
  rw [hK, ht, e8] at h
  refine h.mono fun e w' ⟨g', he, hb, hg, hbl⟩ => ⟨g', he, ?_, hg, hbl⟩
  rw [upTo_congr _ (fun i => un (XT B (TT k (8 * m)) i)) (fun i => val (part B (tot (KT (TT k (8 * m))) i) (KT (TT k (8 * m)) i))) _ (fun i _ => hun i), upTo_part, ht, ← hl] at hb
  have hf : pack (part B 0 (8 * B.length)) = B := pack_full B hB
  rwa [hf] at hb
set_option maxRecDepth 100000 in
set_option maxHeartbeats 1000000 in
theorem walk5_ok (a : Option Addr) (len cap : Nat) (c : Nat) (B : List Int) (w : World) (hW : Wid w) (hE : Elems w a len B) (hB : Byte B) (hlen : len ≤ 2000) (hc : c < 256) :
    Calls Tryd.prog 5 #[.slice a len cap, .int .u8 (c : Int)] w fun e w' => e = .returned (.bool true) ∧ Below w.heap.size w w' := by
  obtain ⟨i0, hi, hz0, hz1, hz2⟩ := info_parts info43
  obtain ⟨k, hk⟩ : ∃ k : Nat, (k = c ∧ (k : Int) ≤ (len : Int) / 8) ∨ ((len : Int) / 8 = (k : Int) ∧ ¬ (c : Int) ≤ (k : Int)) := by
    by_cases h : (c : Int) ≤ (len : Int) / 8
    · exact ⟨c, .inl ⟨rfl, h⟩⟩
    · exact ⟨len / 8, .inr ⟨by omega, by omega⟩⟩
  have hk8 : 8 * k ≤ len := by omega
  obtain ⟨m, hm⟩ : ∃ m, len = 8 * k + m := ⟨len - 8 * k, by omega⟩
  have hl' : (len : Int) ≤ 2000 := by omega
  have Hm : Hid (len = 8 * k + m) := hm
  clear hm
  rcases hk with ⟨rfl, hck⟩ | ⟨hd8, hck⟩
  all_goals
    go_enter Tryd.func5, Tryd.ntmps5
    go_wp2_with (go_at_call 7; refine (alive _ hW).mono ?_; rintro e w1 ⟨rfl, hk1⟩)
    first | clear hck hd8 | clear hck
    have hE1 := hE.below hk1
    have hsz1 : w1.heap.size ≤ w1.heap.size := Nat.le_refl _
    go_loopw [6, 7] (fun t i wr => ∃ j : Nat, j ≤ k ∧ i = .int .i64 j ∧ wr.ownsRow w1.heap.size 43 1 t j ((TT j 0).map (Value.int .u8)) ∧ Below w1.heap.size w1 wr) (fun _ i _ => k - (intOf i).toNat)
    case atStart => exact ⟨0, Nat.zero_le _, rfl, ⟨rfl, .inl ⟨rfl, rfl⟩⟩, Below.refl _ _⟩
    case round =>
      obtain ⟨j, hj, rfl, hown, hb⟩ := hrel
      by_cases hlt : j < k
      · have hlt' : (j : Int) < (k : Int) := by omega
        have hge := own_ge' hown
        have hbA := hb.alloc hb.size (.cells #[.int .u8 1] 43)
        go_wp2_with (at_builtin; refine wpList_append_own _ rfl (.tmp 37) (.tmp 38) 42 rfl w1.heap.size 43 i0 (.int .u8 0) 1 1 Tryd.underlying42 hi hz0 hz1 hz2 rfl (by decide) _ j _ (by rfl) (hown.alloc _) ⟨wr.heap.size, 0, none⟩ 1 1 [.int .u8 1] (by rfl) rfl (news1 (heap_alloc_new _ _)) (by intro u hu; simp only [List.mem_singleton] at hu; rw [hu]; rfl) (by unfold maxLen; omega) (by omega) (Nat.le_trans hb.size (by simp)) ?_; intro v2 w2 hown2 hgr2 _)
        go_roundw
        case rel => exact ⟨j + 1, by omega, by go_num, by rw [← TT_one, List.map_append]; exact hown2, hbA.grown hgr2 hbA.size (fun k e => hge k e)⟩
        case measure => simp [intOf]; omega
      · have hjk : k = j := by omega
        subst hjk
        clear hlt hj
        have Hown : Hid (wr.ownsRow w1.heap.size 43 1 u6 (k + 8 * 0) ((TT k (8 * 0)).map (Value.int .u8))) := hown
        clear hown
        go_wp2
        go_loopw [6, 8] (fun t i w2 => ∃ q : Nat, q ≤ m ∧ i = .int .i64 (8 * (k : Int) + (q : Int)) ∧ w2.ownsRow w1.heap.size 43 1 t (k + 8 * q) ((TT k (8 * q)).map (Value.int .u8)) ∧ Below w1.heap.size w1 w2) (fun _ i _ => 8 * k + m - (intOf i).toNat)
        case atStart => exact ⟨0, Nat.zero_le _, by go_num, Hown.out, hb⟩
        case round =>
          clear hb Hown
          obtain ⟨q, hq, rfl, hown, hb⟩ := hrel
          by_cases hlt : q < m
          · have hlt' : 8 * (k : Int) + (q : Int) < (len : Int) := by have := Hm.out; omega
            have Hown : Hid (wr.ownsRow w1.heap.size 43 1 u6 (k + (8 * q + 0)) ((TT k (8 * q + 0)).map (Value.int .u8))) := hown
            clear hown
            go_wp2
            go_loopw [6, 9] (fun t i w2 => ∃ p : Nat, p ≤ 8 ∧ i = .int .i64 p ∧ w2.ownsRow w1.heap.size 43 1 t (k + (8 * q + p)) ((TT k (8 * q + p)).map (Value.int .u8)) ∧ Below w1.heap.size w1 w2) (fun _ i _ => 8 - (intOf i).toNat)
            case atStart => exact ⟨0, Nat.zero_le _, rfl, Hown.out, hb⟩
            case round =>
              clear hb Hown
              obtain ⟨p, hp, rfl, hown, hb⟩ := hrel
              by_cases hp8 : p < 8
              · have hp8' : (p : Int) < 8 := by omega
                have hge := own_ge' hown
                have hbA := hb.alloc hb.size (.cells #[.int .u8 2] 43)
                go_wp2_with (at_builtin; refine wpList_append_own _ rfl (.tmp 52) (.tmp 53) 42 rfl w1.heap.size 43 i0 (.int .u8 0) 1 1 Tryd.underlying42 hi hz0 hz1 hz2 rfl (by decide) _ (k + (8 * q + p)) _ (by rfl) (hown.alloc _) ⟨wr.heap.size, 0, none⟩ 1 1 [.int .u8 2] (by rfl) rfl (news1 (heap_alloc_new _ _)) (by intro u hu; simp only [List.mem_singleton] at hu; rw [hu]; rfl) (by unfold maxLen; omega) (by omega) (Nat.le_trans hb.size (by simp)) ?_; intro v2 w2 hown2 hgr2 _)
                go_roundw
                case rel => exact ⟨p + 1, by omega, by go_num, by rw [← Nat.add_assoc (8 * q), ← TT_two, List.map_append]; exact hown2, hbA.grown hgr2 hbA.size (fun k e => hge k e)⟩
                case measure => simp [intOf]; omega
              · have hpe : p = 8 := by omega
                subst hpe
                have Hown2 : Hid (wr.ownsRow w1.heap.size 43 1 u6 (k + 8 * (q + 1)) ((TT k (8 * (q + 1))).map (Value.int .u8))) := hown
                clear hown hp8 hp
                go_wp2
                go_roundw
                case rel => exact ⟨q + 1, by omega, by go_num, Hown2.out, hb⟩
                case measure => simp [intOf]; omega
          · have hqm : m = q := by omega
            subst hqm
            clear hlt hq
            have hlt' : ¬ 8 * (k : Int) + (m : Int) < (len : Int) := by have := Hm.out; omega
            obtain ⟨at2, cap2, rfl, hT⟩ := own_formT hown (by have := Hm.out; omega) (TT_byte k (8 * m))
            clear hown
            have hEr := hE1.below hb
            have Hlb : Hid (B.length = len) := hE.1
            go_wp2_with (first
              | (go_at_call 14; refine (read_values a len cap k m at2 cap2 B wr Hm.out hEr hT).mono ?_; rintro e w2 ⟨g, rfl, hR2, hg2, hk2⟩; have hE2 := hEr.below hk2)
              | (go_at_call 13; refine (read_payload g len k m B w2 Hm.out hlen hB Hlb.out hR2).mono ?_; rintro e w3 ⟨g3, rfl, hB3, hg3, hk3⟩; have hE3 := hE2.below hk3; have hEx := hB3.elems' hB (by have := Hlb.out; omega); rw [Hlb.out] at hEx)
              | (go_at_call 11; refine (same_b (some ⟨g3, 0, none⟩) a len len cap B w3 hEx hE3).mono ?_; rintro e w4 ⟨rfl, hk4⟩))
            have hE4 := hE3.below hk4
            have hV4 : Hid (Vals w4 (some ⟨g, 0, none⟩) (k + 8 * m) (fun i => ((TT k (8 * m)).getD i 0).toNat) (XT B (TT k (8 * m)))) := ((hR2.vals (by have := Hm.out; omega) (fun i _ => byte_getD (TT_byte k (8 * m)) i)).below hk3).below hk4
            have hb4 := bstep (bstep (bstep (bstep hk1 hb) hk2) hk3) hk4
            clear hB3 hEx hE3 hE2 hR2 hT hEr
            go_loopw [14] (fun i w5 => ∃ q : Nat, q ≤ m ∧ i = .int .i64 (8 * (k : Int) + (q : Int)) ∧ Below w4.heap.size w4 w5) (fun i _ => 8 * k + m - (intOf i).toNat)
            case atStart => exact ⟨0, Nat.zero_le _, by go_num, Below.refl _ _⟩
            case round =>
              clear hb
              obtain ⟨q, hq, rfl, hb⟩ := hrel
              by_cases hlt : q < m
              · have hlt' : 8 * (k : Int) + (q : Int) < (len : Int) := by have := Hm.out; omega
                go_wp2
                go_loopw [15] (fun i w5 => ∃ p : Nat, p ≤ 8 ∧ i = .int .i64 p ∧ Below w4.heap.size w4 w5) (fun i _ => 8 - (intOf i).toNat)
                case atStart => exact ⟨0, Nat.zero_le _, rfl, hb⟩
                case round =>
                  clear hb
                  obtain ⟨p, hp, rfl, hb⟩ := hrel
                  by_cases hp8 : p < 8
                  · have hp8' : (p : Int) < 8 := by omega
                    have hlenI : (len : Int) = 8 * k + m := by have := Hm.out; omega
                    have Hl : Hid ((len : Int) = 8 * k + m) := hlenI
                    clear hlenI
                    have hidx : k + 8 * q + p < k + 8 * m := by omega
                    have hXT : XT B (TT k (8 * m)) (k + 8 * q + p) = (val (part B (8 * (8 * k + q) + p) 1) : Int) := by
                      have h1 : KT (TT k (8 * m)) (k + 8 * q + p) = 1 := by rw [KT_TT k (8 * m) _ hidx, if_neg (by omega)]
                      have h2 : tot (KT (TT k (8 * m))) (k + 8 * q + p) = 8 * (8 * k + q) + p := by rw [tot_TT k (8 * m) _ (by omega)]; split <;> omega
                      unfold XT
                      rw [h1, h2]
                      have := val_lt (part B (8 * (8 * k + q) + p) 1)
                      rw [part_length] at this
                      unfold si
                      rw [if_pos (by omega)]
                    have hx2 := val_lt (part B (8 * (8 * k + q) + p) 1)
                    rw [part_length] at hx2
                    have hget := fun W hE => get_ok_c a len cap B (8 * (8 * k + q) + p) 1 W hE (by decide) (by have := Hm.out; omega)
                    have hcell : ∀ W, Below w4.heap.size w4 W → W.cell? ⟨g, (k + 8 * q + p) * 2 + 1, none⟩ = some (.int .i64 (val (part B (8 * (8 * k + q) + p) 1) : Int)) := fun W hbW => by
                      obtain ⟨b', o', e', hc'⟩ := (hV4.out.below hbW).2.2.resolve_left (by omega)
                      cases e'
                      have := (hc' _ hidx).2
                      rw [hXT, Nat.zero_add] at this
                      exact this
                    clear hXT
                    generalize val (part B (8 * (8 * k + q) + p) 1) = x at hx2 hget hcell
                    have hwx : IntKind.i64.wrap (x : Int) = (x : Int) := by rw [IntKind.wrap_i64]; omega
                    have HC : Hid (∀ W, Below w4.heap.size w4 W → W.cell? ⟨g, (k + 8 * q + p) * 2 + 1, none⟩ = some (.int .i64 (x : Int))) := hcell
                    clear hcell
                    go_wp2_with (go_at_call 10; refine (hget _ (hE4.below hb) _ _ (by omega) rfl).mono ?_; rintro e w6 ⟨rfl, hk6⟩; have hc6 := HC.out w6 (bstep hb hk6))
                    go_roundw
                    case rel => exact ⟨p + 1, by omega, by go_num, bstep hb hk6⟩
                    case measure => simp [intOf]; omega
                  · have hpe : p = 8 := by omega
                    subst hpe
                    clear hp8 hp
                    go_wp2
                    go_roundw
                    case rel => exact ⟨q + 1, by omega, by go_num, hb⟩
                    case measure => simp [intOf]; omega
              · have hlt' : ¬ 8 * (k : Int) + (q : Int) < (len : Int) := by have := Hm.out; omega
                go_wp2
                go_ret
                exact ⟨rfl, bstep hb4 hb⟩
/-- The walk of FramesRead, whatever the bytes. -/
theorem walk5 (a : Option Addr) (len cap : Nat) (c : Nat) (B : List Int) (w : World) (hW : Wid w) (hC : Came w a len B) (hc : c < 2 ^ 8) :
    Calls Tryd.prog 5 #[.slice a len cap, .int .u8 (c : Int)] w fun e w' => e = .returned (.bool true) ∧ Below w.heap.size w w' := by
  by_cases hlen : 2000 < len
  · exact walk5_far a len cap c w hW hlen hC.2.1
  · exact walk5_ok a len cap c B w hW (hC.elems (by omega)) (byte_of_getD fun i hi => hC.2.2.1 i (by rw [hC.1] at hi; exact hi)) (by omega) (by omega)
end Go.Proofs.YtmbkdalmnfcbfabDoor.Bits
