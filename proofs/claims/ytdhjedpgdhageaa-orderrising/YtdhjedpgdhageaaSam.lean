/-
  What the laws call: are lists of numbers the same? How great are lists? A twin.
-/
import Derived.Test.YtdhjedpgdhageaaOf
namespace Go.Proofs.Ytdhjedpgdhageaa.Ord
open Go.ChangeShapes Go.WideShapes Go.ChangeAt Go.RowKit Go.Joins
theorem Row.rd {W : World} {base : Nat} {v : Value} {l : List Int} (h : Row W base v l) (hl : l.length ≤ 17592186044416) : Rd W W.heap.size v l := by
  obtain ⟨ao, cap, e, h1, h2, h3⟩ := h.at
  have hm : maxLen = 9223372036854775807 := rfl
  refine ⟨ao, cap, e, h1, ⟨by omega, hl⟩, ?_⟩
  rcases h3 with h3 | ⟨g, rfl, hc⟩
  · exact .inl (List.length_eq_zero_iff.1 h3)
  · by_cases h0 : l.length = 0
    · exact .inl (List.length_eq_zero_iff.1 h0)
    · refine .inr ⟨g, 0, rfl, (h.lo g (by rw [e]; rfl)).2, fun i hi => ?_⟩
      rw [Nat.zero_add, hc i hi, ga_lt hi]
theorem Rd.keepW {W W' : World} {v : Value} {r : List Int} (h : Rd W W.heap.size v r) (hb : Below W.heap.size W W') : Rd W' W'.heap.size v r := (h.keep hb).up hb.size
theorem LL.keepW {W W' : World} {v : Value} {l : List (List Int)} (h : LL W W.heap.size v l) (hb : Below W.heap.size W W') : LL W' W'.heap.size v l := (h.keep hb).up hb.size
theorem ne_at {a b : List Int} {k : Nat} (h : ga a k ≠ ga b k) : a ≠ b := fun e => h (by rw [e])
theorem eq_of {a b : List Int} (hl : a.length = b.length) (h : ∀ i, i < a.length → ga a i = ga b i) : a = b := by
  refine List.ext_getElem hl (fun i h1 h2 => ?_)
  have := h i h1
  rwa [ga_lt h1, ga_lt h2] at this
set_option maxRecDepth 100000 in
set_option maxHeartbeats 1000000 in
theorem same_at (W : World) (lo lo2 : Nat) (va vb : Value) (a b : List Int) (ha : Rd W lo va a) (hb : Rd W lo2 vb b) : Calls Try.prog 12 #[va, vb] W fun e w' => e = .returned (.bool (decide (a = b))) ∧ ∃ q, w' = W.drewN q := by
  obtain ⟨ao, ac, rfl, hale, hac, hacs⟩ := ha
  obtain ⟨bo, bc, rfl, hble, hbc, hbcs⟩ := hb
  by_cases hl : a.length = b.length
  · have HA := hid hacs
    have HB := hid hbcs
    have HL := hid hl
    have e0 : ((a.length : Int) != (b.length : Int)) = false := by rw [bne_eq_false_iff_eq]; omega
    clear hacs hbcs hl
    go_enter Try.func12, Try.ntmps12
    go_wp2_with (fail)
    go_loopw [5] (fun s5 wr => ∃ k : Nat, k ≤ a.length ∧ s5 = .int .i64 (k : Int) ∧ Hid ((∃ q, wr = W.drewN q) ∧ ∀ i, i < k → ga a i = ga b i)) (fun s5 _ => a.length - (intOf s5).toNat)
    case atStart => exact ⟨0, by omega, rfl, hid ⟨⟨0, rfl⟩, fun i hi => by omega⟩⟩
    case round =>
      obtain ⟨k, hk, rfl, HK⟩ := hrel
      obtain ⟨q, hwr⟩ := HK.out.1
      subst hwr
      by_cases hlt : k < a.length
      · have hlt' : (k : Int) < (a.length : Int) := by omega
        obtain ⟨b1, o1, rfl, _, hc1⟩ := HA.out.resolve_left (by intro e; rw [e] at hlt; simp at hlt)
        obtain ⟨b2, o2, rfl, _, hc2⟩ := HB.out.resolve_left (by intro e; have := HL.out; rw [e] at this; simp at this; rw [this] at hlt; simp at hlt)
        have hck1 : W.cell? ⟨b1, o1 + k, none⟩ = some (.int .i64 (ga a k)) := hc1 k hlt
        have hck2 : W.cell? ⟨b2, o2 + k, none⟩ = some (.int .i64 (ga b k)) := hc2 k (by have := HL.out; omega)
        have hkb : (k : Int) < (b.length : Int) := by have := HL.out; omega
        clear hc1 hc2
        by_cases hne : ga a k = ga b k
        · have hne' : (ga a k != ga b k) = false := by rw [bne_eq_false_iff_eq]; exact hne
          have HNE := hid hne
          clear hne
          go_wp2_with (fail)
          go_quiet (fail)
          go_wp2_with (fail)
          go_roundw
          case rel =>
            refine ⟨k + 1, by omega, by go_num, hid ⟨⟨q + nq, by first | rfl | exact World.drewN_drewN _ _ _⟩, fun i hi => ?_⟩⟩
            by_cases e : i = k
            · rw [e]; exact HNE.out
            · exact HK.out.2 i (by omega)
          case measure => simp [intOf]; omega
        · have hne' : (ga a k != ga b k) = true := by rw [bne_iff_ne]; exact hne
          have HF : Hid (decide (a = b) = false) := hid (decide_eq_false (ne_at hne))
          go_wp2_with (fail)
          go_quiet (fail)
          go_wp2_with (fail)
          go_ret
          exact ⟨by rw [HF.out]; rfl, q + nq, by first | rfl | exact World.drewN_drewN _ _ _⟩
      · have hlt' : ¬ (k : Int) < (a.length : Int) := by omega
        obtain rfl : k = a.length := by omega
        have HF : Hid (decide (a = b) = true) := hid (decide_eq_true (eq_of HL.out HK.out.2))
        go_wp2_with (fail)
        go_ret
        exact ⟨by rw [HF.out]; rfl, q, rfl⟩
  · have e0 : ((a.length : Int) != (b.length : Int)) = true := by rw [bne_iff_ne]; omega
    have HF : Hid (decide (a = b) = false) := hid (decide_eq_false (fun e => hl (by rw [e])))
    clear hacs hbcs
    go_enter Try.func12, Try.ntmps12
    go_wp2_with (fail)
    go_ret
    exact ⟨by rw [HF.out]; rfl, 0, rfl⟩
end Go.Proofs.Ytdhjedpgdhageaa.Ord
