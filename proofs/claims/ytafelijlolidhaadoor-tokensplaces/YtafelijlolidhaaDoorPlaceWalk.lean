/-
  The walk of the law on the places of a text's tokens.
-/
import Derived.Test.YtafelijlolidhaaDoorPlaceM
import Derived.Test.YtafelijlolidhaaDoorJoinBad
import Derived.BigQuiet
namespace Go.Proofs.YtafelijlolidhaaDoor.Lex
open Go.ChangeShapes Go.WideShapes Go.ChangeAt Go.RowKit Go.Joins
theorem scan_next (L : List UInt8) (q j : Nat) (c : Bool) (h : j < q) (hs : scan L (q - j) j c = true) : okAt L j c = true ∧ scan L (q - (j + 1)) (j + 1) (nextC L j c) = true := by
  rw [show q - j = (q - (j + 1)) + 1 by omega, scan] at hs
  simpa using hs
theorem u8_of {x : UInt8} (h : ((x.toNat : Int) == 10) = true) : x = 10 := by
  apply UInt8.toNat_inj.1
  simp at h
  show x.toNat = 10
  omega
theorem u8_ne {x : UInt8} (h : ((x.toNat : Int) == 10) = false) : x ≠ 10 := by rintro rfl; exact absurd h (by decide)
theorem next_true {L : List UInt8} {j : Nat} (h : nextC L j false = true) : j + 1 < L.length ∧ L.getD j 0 = 45 ∧ L.getD (j + 1) 0 = 45 := by
  unfold nextC at h
  split at h
  · cases h
  · simp at h; exact ⟨h.1.1, by simpa using h.1.2, by simpa using h.2⟩
theorem wrap_id {x : Int} (h1 : -9223372036854775808 ≤ x) (h2 : x ≤ 9223372036854775807) : IntKind.i64.wrap x = x := by
  simp only [IntKind.wrap, IntKind.signed, IntKind.bits]
  simp
  omega
theorem not_empty (X : ByteArray) (h : 1 ≤ X.size) : X.toList.isEmpty = false := by
  rw [ByteArray.toList_eq]
  rw [Lib.size_eq] at h
  cases hl : X.data.toList with
  | nil => rw [hl] at h; simp at h
  | cons => rfl
theorem ext_take (s : ByteArray) (q n : Nat) : (⟨((s.data.toList.drop q).take n).toArray⟩ : ByteArray) = s.extract q (q + n) := by
  have : (s.extract q (q + n)).data.toList = (s.data.toList.drop q).take n := by
    rw [ByteArray.data_extract, Array.toList_extract, List.extract_eq_take_drop]
    congr 1
    omega
  rw [← this]
set_option maxRecDepth 100000 in
set_option maxHeartbeats 1000000 in
theorem place_big (s : ByteArray) (w : World) (hW : Laid w ∧ TabS w) (h : 65536 < s.size) :
    Calls Tryd.prog 4 #[.string s] w fun e w' => e = .returned (.bool true) ∧ Below w.heap.size w w' := by
  have c := fun W hL hT => alive W hL hT
  have hA : Hid (At w w) := ⟨Below.refl _ _, hW.1, hW.2⟩
  have c2 := c
  have h1' : (65536 : Int) < (s.size : Int) := by omega
  clear hW h
  go_enter Tryd.func4, Tryd.ntmps4
  go_wp2_with (first
    | (go_at_call 13; refine (c _ hA.out.laid hA.out.tab).mono ?_; rintro e w1 ⟨rfl, hb1⟩; have A1 := hid (hA.out.step hb1); clear hb1 c)
    | (go_at_call 13; refine (c2 _ A1.out.laid A1.out.tab).mono ?_; rintro e w2 ⟨rfl, hb2⟩; have A2 := hid (A1.out.step hb2); clear hb2 c2))
  go_ret
  exact ⟨rfl, A2.out.below⟩
set_option maxRecDepth 100000 in
set_option maxHeartbeats 1000000 in
theorem place_bad (s : ByteArray) (w : World) (hW : Laid w ∧ TabS w) (h : s.size ≤ 65536) (a : Nat) (h1 : toks 0 s.data.toList = .error a) :
    Calls Tryd.prog 4 #[.string s] w fun e w' => e = .returned (.bool true) ∧ Below w.heap.size w w' := by
  have c := fun W hL hT => alive W hL hT
  have c1 := fun W hT => read_bad s _ h1 W hT (by omega)
  have hA : Hid (At w w) := ⟨Below.refl _ _, hW.1, hW.2⟩
  have h1' : ¬ (65536 : Int) < (s.size : Int) := by omega
  have ha : (a : Int) < (s.size : Int) := by have := toks_err_in _ _ _ _ rfl h1; rw [← Lib.size_eq] at this; omega
  have ha0 : (0 : Int) ≤ (a : Int) := by omega
  clear hW h h1
  go_enter Tryd.func4, Tryd.ntmps4
  go_wp2_with (first
    | (go_at_call 13; refine (c _ hA.out.laid hA.out.tab).mono ?_; rintro e w1 ⟨rfl, hb1⟩; have A1 := hid (hA.out.step hb1); clear hb1 c)
    | (go_at_call 14; refine (c1 _ A1.out.tab).mono ?_; rintro e w2 ⟨rfl, hb2⟩; have A2 := hid (A1.out.step hb2); clear hb2 c1))
  go_ret
  exact ⟨rfl, A2.out.below⟩
set_option maxRecDepth 100000 in
set_option maxHeartbeats 4000000 in
theorem place_ok (s : ByteArray) (w : World) (hW : Laid w ∧ TabS w) (h : s.size ≤ 65536) (ts : List Tok) (h1 : toks 0 s.data.toList = .ok ts) :
    Calls Tryd.prog 4 #[.string s] w fun e w' => e = .returned (.bool true) ∧ Below w.heap.size w w' := by
  have c := fun W hL hT => alive W hL hT
  have c1 := fun W hT => read_ok s _ h1 W hT (by omega)
  have hA : Hid (At w w) := ⟨Below.refl _ _, hW.1, hW.2⟩
  have h1' : ¬ (65536 : Int) < (s.size : Int) := by omega
  have hlt : ts.length ≤ 65536 := by have := toks_few _ s.data.toList 0 ts rfl h1; rw [← Lib.size_eq] at this; omega
  have H1 := hid h1
  clear hW h1
  go_enter Tryd.func4, Tryd.ntmps4
  go_wp2_with (first
    | (go_at_call 13; refine (c _ hA.out.laid hA.out.tab).mono ?_; rintro e w1 ⟨rfl, hb1⟩; have A1 := hid (hA.out.step hb1); clear hb1 c)
    | (go_at_call 14; refine (c1 _ A1.out.tab).mono ?_; rintro e w2 ⟨va, rfl, ho2, hb2⟩; obtain ⟨ao, cao, rfl, hta⟩ := TokAt.of_own ho2; have A2 := hid (A1.out.step hb2); have O2 := hid (p := TokAt w2 (.slice ao ts.length cao) ts) ⟨ao, cao, rfl, hta⟩; clear hb2 c1 ho2 hta))
  go_loopw [6, 7] (fun f i wr => ∃ (k p : Nat), k ≤ ts.length + 1 ∧ p ≤ s.size ∧ f = .int .i64 (p : Int) ∧ i = .int .i64 (k : Int) ∧ Hid (k ≤ ts.length → toks p (s.data.toList.drop p) = .ok (ts.drop k)) ∧ Hid (Below w2.heap.size w2 wr)) (fun _ i _ => ts.length + 1 - (intOf i).toNat)
  case atStart => exact ⟨0, 0, by omega, by omega, rfl, rfl, fun _ => by simpa [Hid] using H1.out, Below.refl _ _⟩
  case round =>
    obtain ⟨k, p, hk, hp, rfl, rfl, hT, hB⟩ := hrel
    by_cases hle : k ≤ ts.length
    · have hle' : (k : Int) ≤ (ts.length : Int) := by omega
      have hk0 : (0 : Int) ≤ (k : Int) := by omega
      obtain ⟨q, hpq, hqs, hsc, hcase⟩ := toks_gap s.data.toList _ p false (ts.drop k) (by rw [← Lib.size_eq]; exact hp) rfl (hT.out hle) (.inl rfl)
      have HSC : Hid (scan s.data.toList (q - p) p false = true) := hsc
      rw [← Lib.size_eq] at hqs hcase
      clear hsc hT
      have hpq' : ¬ (q : Int) < (p : Int) := by omega
      by_cases hlt2 : k < ts.length
      · have hlt' : (k : Int) < (ts.length : Int) := by omega
        have hd : ts.drop k = ts[k] :: ts.drop (k + 1) := List.drop_eq_getElem_cons hlt2
        rcases hcase with ⟨h0, _⟩ | ⟨K, n, rest, hK1, hK3, hn1, hqn, heq, hrest⟩
        · rw [hd] at h0; cases h0
        rw [hd] at heq
        injection heq with e1 e2
        have HT2 : Hid (toks (q + n) (s.data.toList.drop (q + n)) = .ok (ts.drop (k + 1))) := by rw [e2]; exact hrest
        obtain ⟨X, hX⟩ : ∃ X, s.extract q (q + n) = X := ⟨_, rfl⟩
        have hXs : X.size = n := by rw [← hX, ByteArray.size_extract]; omega
        have HXs := hid hXs
        have hXt : (⟨ts[k].text.toArray⟩ : ByteArray) = X := by
          rw [e1, ← hX]
          exact ext_take s q n
        obtain ⟨ao', cao', hva, hcb⟩ := O2.out.below hB.out
        injection hva with ea _ ec
        subst ea
        subst ec
        obtain ⟨g, rfl, hg⟩ := hcb.resolve_left (by omega)
        obtain ⟨x0, x1, x2⟩ := hg k hlt2
        rw [hXt] at x1
        rw [e1] at x0 x2
        simp only at x0 x2
        have hXe : X.toList.isEmpty = false := by exact not_empty X (by omega)
        have hq0 : (0 : Int) ≤ (q : Int) := by omega
        have hXn : (X.size : Int) = (n : Int) := by omega
        have hsub : decide ((s.size : Int) - (q : Int) < (X.size : Int)) = false := decide_eq_false (by omega)
        have hK1' : decide ((K : Int) < 1) = false := decide_eq_false (by omega)
        have hK3' : decide ((3 : Int) < (K : Int)) = false := decide_eq_false (by omega)
        have hpq2 : decide (q < p) = false := decide_eq_false (by omega)
        have hw1 : IntKind.i64.wrap ((s.size : Int) - (q : Int)) = (s.size : Int) - (q : Int) := wrap_id (by omega) (by omega)
        have hw2 : IntKind.i64.wrap ((q : Int) + (X.size : Int)) = (q : Int) + (X.size : Int) := wrap_id (by omega) (by omega)
        have hK1n : decide (K < 1) = false := decide_eq_false (by omega)
        have hK3n : decide (3 < K) = false := decide_eq_false (by omega)
        have hK0 : decide (K = 0) = false := decide_eq_false (by omega)
        have hX2 : s.extract q (q + X.size) = X := by rw [hXs]; exact hX
        have hqx : (q : Int) + (X.size : Int) ≤ (s.size : Int) := by omega
        clear hcb hg hX hXt e1 e2 hrest hd hXn hXs
        go_wp2
        go_quiet (fail)
        go_wp2
        go_loop [9, 10] (fun cv kv => ∃ (c : Bool) (j : Nat), p ≤ j ∧ j ≤ q ∧ cv = .bool c ∧ kv = .int .i64 (j : Int) ∧ Hid (scan s.data.toList (q - j) j c = true)) (fun _ kv => q - (intOf kv).toNat)
        case atStart => exact ⟨false, p, Nat.le_refl _, hpq, rfl, rfl, HSC⟩
        case round =>
          obtain ⟨c, j, hj1, hj2, rfl, rfl, hsc⟩ := hrel
          by_cases hjq : j < q
          · have hjq' : (j : Int) < (q : Int) := by omega
            have hjs : j < s.size := by omega
            have hjs' : (j : Int) < (s.size : Int) := by omega
            have hj0 : (0 : Int) ≤ (j : Int) := by omega
            obtain ⟨hok, hnx⟩ := scan_next s.data.toList q j c hjq hsc.out
            have hg := getD_get s j hjs
            obtain ⟨x, hx⟩ : ∃ x, s[j]'hjs = x := ⟨_, rfl⟩
            rw [hx] at hg
            have HN : Hid (scan s.data.toList (q - (j + 1)) (j + 1) (nextC s.data.toList j c) = true) := hnx
            clear hsc hnx
            rcases Bool.eq_false_or_eq_true ((x.toNat : Int) == 10) with hb10 | hb10
            · have hcn : nextC s.data.toList j c = false := by unfold nextC; rw [hg, if_pos (u8_of hb10)]
              rw [hcn] at HN
              clear hok hcn hg
              go_wp2
              go_round
              case rel => exact ⟨false, j + 1, by omega, by omega, rfl, by go_num, HN⟩
              case measure => simp [intOf]; omega
            · have hx10 : x ≠ 10 := u8_ne hb10
              cases c with
              | true =>
                have hcn : nextC s.data.toList j true = true := by unfold nextC; rw [hg, if_neg hx10]; rfl
                rw [hcn] at HN
                clear hok hcn hg
                go_wp2
                go_round
                case rel => exact ⟨true, j + 1, by omega, by omega, rfl, by go_num, HN⟩
                case measure => simp [intOf]; omega
              | false =>
                cases hn : nextC s.data.toList j false with
                | true =>
                  obtain ⟨hl, h45, y45⟩ := next_true hn
                  have hls : j + 1 < s.size := by rw [Lib.size_eq]; exact hl
                  have hls' : (j : Int) + 1 < (s.size : Int) := by omega
                  have hg1 := getD_get s (j + 1) hls
                  obtain ⟨y, hy⟩ : ∃ y, s[j + 1]'hls = y := ⟨_, rfl⟩
                  rw [hy] at hg1
                  have hb45 : ((x.toNat : Int) == 45) = true := by rw [hg] at h45; rw [h45]; rfl
                  have hc45 : ((y.toNat : Int) == 45) = true := by rw [hg1] at y45; rw [y45]; rfl
                  have hj01 : (0 : Int) ≤ (j : Int) + 1 := by omega
                  rw [hn] at HN
                  clear hok hn hg hg1 h45 y45 hl
                  go_wp2
                  go_round
                  case rel => exact ⟨true, j + 1, by omega, by omega, rfl, by go_num, HN⟩
                  case measure => simp [intOf]; omega
                | false =>
                  rw [hn] at HN
                  have hbl : x = 32 ∨ x = 9 ∨ x = 13 := by unfold okAt at hok; rw [hn, hg] at hok; simp [hx10] at hok; rcases hok with (h | h) | h <;> simp [h]
                  clear hok hn hg
                  by_cases hls : j + 1 < s.size
                  · have hls' : (j : Int) + 1 < (s.size : Int) := by omega
                    rcases hbl with rfl | rfl | rfl
                    · have hb45 : (((32 : UInt8).toNat : Int) == 45) = false := by decide
                      have hb32 : (((32 : UInt8).toNat : Int) != 32) = false := by decide
                      go_wp2
                      go_round
                      case rel => exact ⟨false, j + 1, by omega, by omega, rfl, by go_num, HN⟩
                      case measure => simp [intOf]; omega
                    · have hb45 : (((9 : UInt8).toNat : Int) == 45) = false := by decide
                      have hb32 : (((9 : UInt8).toNat : Int) != 32) = true := by decide
                      have hb9 : (((9 : UInt8).toNat : Int) != 9) = false := by decide
                      go_wp2
                      go_round
                      case rel => exact ⟨false, j + 1, by omega, by omega, rfl, by go_num, HN⟩
                      case measure => simp [intOf]; omega
                    · have hb45 : (((13 : UInt8).toNat : Int) == 45) = false := by decide
                      have hb32 : (((13 : UInt8).toNat : Int) != 32) = true := by decide
                      have hb9 : (((13 : UInt8).toNat : Int) != 9) = true := by decide
                      have hb13 : (((13 : UInt8).toNat : Int) != 13) = false := by decide
                      go_wp2
                      go_round
                      case rel => exact ⟨false, j + 1, by omega, by omega, rfl, by go_num, HN⟩
                      case measure => simp [intOf]; omega
                  · have hls' : ¬ (j : Int) + 1 < (s.size : Int) := by omega
                    rcases hbl with rfl | rfl | rfl
                    · have hb45 : (((32 : UInt8).toNat : Int) == 45) = false := by decide
                      have hb32 : (((32 : UInt8).toNat : Int) != 32) = false := by decide
                      go_wp2
                      go_round
                      case rel => exact ⟨false, j + 1, by omega, by omega, rfl, by go_num, HN⟩
                      case measure => simp [intOf]; omega
                    · have hb45 : (((9 : UInt8).toNat : Int) == 45) = false := by decide
                      have hb32 : (((9 : UInt8).toNat : Int) != 32) = true := by decide
                      have hb9 : (((9 : UInt8).toNat : Int) != 9) = false := by decide
                      go_wp2
                      go_round
                      case rel => exact ⟨false, j + 1, by omega, by omega, rfl, by go_num, HN⟩
                      case measure => simp [intOf]; omega
                    · have hb45 : (((13 : UInt8).toNat : Int) == 45) = false := by decide
                      have hb32 : (((13 : UInt8).toNat : Int) != 32) = true := by decide
                      have hb9 : (((13 : UInt8).toNat : Int) != 9) = true := by decide
                      have hb13 : (((13 : UInt8).toNat : Int) != 13) = false := by decide
                      go_wp2
                      go_round
                      case rel => exact ⟨false, j + 1, by omega, by omega, rfl, by go_num, HN⟩
                      case measure => simp [intOf]; omega
          · have hjq' : ¬ (j : Int) < (q : Int) := by omega
            go_wp2
            go_roundw
            case rel => exact ⟨k + 1, q + X.size, by omega, by omega, by go_num, by go_num, fun _ => by rw [HXs.out]; exact HT2.out, below_drewN hB.out _⟩
            case measure => simp [intOf]; omega
      · have hlt' : ¬ (k : Int) < (ts.length : Int) := by omega
        have hq : q = s.size := by
          rcases hcase with ⟨_, h⟩ | ⟨K, n, rest, _, _, _, _, heq, _⟩
          · exact h
          · rw [List.drop_eq_nil_of_le (by omega)] at heq; cases heq
        subst hq
        clear hcase
        go_wp2
        go_loop [9, 10] (fun cv kv => ∃ (c : Bool) (j : Nat), p ≤ j ∧ j ≤ s.size ∧ cv = .bool c ∧ kv = .int .i64 (j : Int) ∧ Hid (scan s.data.toList (s.size - j) j c = true)) (fun _ kv => s.size - (intOf kv).toNat)
        case atStart => exact ⟨false, p, Nat.le_refl _, hpq, rfl, rfl, HSC⟩
        case round =>
          obtain ⟨c, j, hj1, hj2, rfl, rfl, hsc⟩ := hrel
          by_cases hjq : j < s.size
          · have hjq' : (j : Int) < (s.size : Int) := by omega
            have hjs : j < s.size := by omega
            have hjs' : (j : Int) < (s.size : Int) := by omega
            have hj0 : (0 : Int) ≤ (j : Int) := by omega
            obtain ⟨hok, hnx⟩ := scan_next s.data.toList s.size j c hjq hsc.out
            have hg := getD_get s j hjs
            obtain ⟨x, hx⟩ : ∃ x, s[j]'hjs = x := ⟨_, rfl⟩
            rw [hx] at hg
            have HN : Hid (scan s.data.toList (s.size - (j + 1)) (j + 1) (nextC s.data.toList j c) = true) := hnx
            clear hsc hnx
            rcases Bool.eq_false_or_eq_true ((x.toNat : Int) == 10) with hb10 | hb10
            · have hcn : nextC s.data.toList j c = false := by unfold nextC; rw [hg, if_pos (u8_of hb10)]
              rw [hcn] at HN
              clear hok hcn hg
              go_wp2
              go_round
              case rel => exact ⟨false, j + 1, by omega, by omega, rfl, by go_num, HN⟩
              case measure => simp [intOf]; omega
            · have hx10 : x ≠ 10 := u8_ne hb10
              cases c with
              | true =>
                have hcn : nextC s.data.toList j true = true := by unfold nextC; rw [hg, if_neg hx10]; rfl
                rw [hcn] at HN
                clear hok hcn hg
                go_wp2
                go_round
                case rel => exact ⟨true, j + 1, by omega, by omega, rfl, by go_num, HN⟩
                case measure => simp [intOf]; omega
              | false =>
                cases hn : nextC s.data.toList j false with
                | true =>
                  obtain ⟨hl, h45, y45⟩ := next_true hn
                  have hls : j + 1 < s.size := by rw [Lib.size_eq]; exact hl
                  have hls' : (j : Int) + 1 < (s.size : Int) := by omega
                  have hg1 := getD_get s (j + 1) hls
                  obtain ⟨y, hy⟩ : ∃ y, s[j + 1]'hls = y := ⟨_, rfl⟩
                  rw [hy] at hg1
                  have hb45 : ((x.toNat : Int) == 45) = true := by rw [hg] at h45; rw [h45]; rfl
                  have hc45 : ((y.toNat : Int) == 45) = true := by rw [hg1] at y45; rw [y45]; rfl
                  have hj01 : (0 : Int) ≤ (j : Int) + 1 := by omega
                  rw [hn] at HN
                  clear hok hn hg hg1 h45 y45 hl
                  go_wp2
                  go_round
                  case rel => exact ⟨true, j + 1, by omega, by omega, rfl, by go_num, HN⟩
                  case measure => simp [intOf]; omega
                | false =>
                  rw [hn] at HN
                  have hbl : x = 32 ∨ x = 9 ∨ x = 13 := by unfold okAt at hok; rw [hn, hg] at hok; simp [hx10] at hok; rcases hok with (h | h) | h <;> simp [h]
                  clear hok hn hg
                  by_cases hls : j + 1 < s.size
                  · have hls' : (j : Int) + 1 < (s.size : Int) := by omega
                    rcases hbl with rfl | rfl | rfl
                    · have hb45 : (((32 : UInt8).toNat : Int) == 45) = false := by decide
                      have hb32 : (((32 : UInt8).toNat : Int) != 32) = false := by decide
                      go_wp2
                      go_round
                      case rel => exact ⟨false, j + 1, by omega, by omega, rfl, by go_num, HN⟩
                      case measure => simp [intOf]; omega
                    · have hb45 : (((9 : UInt8).toNat : Int) == 45) = false := by decide
                      have hb32 : (((9 : UInt8).toNat : Int) != 32) = true := by decide
                      have hb9 : (((9 : UInt8).toNat : Int) != 9) = false := by decide
                      go_wp2
                      go_round
                      case rel => exact ⟨false, j + 1, by omega, by omega, rfl, by go_num, HN⟩
                      case measure => simp [intOf]; omega
                    · have hb45 : (((13 : UInt8).toNat : Int) == 45) = false := by decide
                      have hb32 : (((13 : UInt8).toNat : Int) != 32) = true := by decide
                      have hb9 : (((13 : UInt8).toNat : Int) != 9) = true := by decide
                      have hb13 : (((13 : UInt8).toNat : Int) != 13) = false := by decide
                      go_wp2
                      go_round
                      case rel => exact ⟨false, j + 1, by omega, by omega, rfl, by go_num, HN⟩
                      case measure => simp [intOf]; omega
                  · have hls' : ¬ (j : Int) + 1 < (s.size : Int) := by omega
                    rcases hbl with rfl | rfl | rfl
                    · have hb45 : (((32 : UInt8).toNat : Int) == 45) = false := by decide
                      have hb32 : (((32 : UInt8).toNat : Int) != 32) = false := by decide
                      go_wp2
                      go_round
                      case rel => exact ⟨false, j + 1, by omega, by omega, rfl, by go_num, HN⟩
                      case measure => simp [intOf]; omega
                    · have hb45 : (((9 : UInt8).toNat : Int) == 45) = false := by decide
                      have hb32 : (((9 : UInt8).toNat : Int) != 32) = true := by decide
                      have hb9 : (((9 : UInt8).toNat : Int) != 9) = false := by decide
                      go_wp2
                      go_round
                      case rel => exact ⟨false, j + 1, by omega, by omega, rfl, by go_num, HN⟩
                      case measure => simp [intOf]; omega
                    · have hb45 : (((13 : UInt8).toNat : Int) == 45) = false := by decide
                      have hb32 : (((13 : UInt8).toNat : Int) != 32) = true := by decide
                      have hb9 : (((13 : UInt8).toNat : Int) != 9) = true := by decide
                      have hb13 : (((13 : UInt8).toNat : Int) != 13) = false := by decide
                      go_wp2
                      go_round
                      case rel => exact ⟨false, j + 1, by omega, by omega, rfl, by go_num, HN⟩
                      case measure => simp [intOf]; omega
          · have hjq' : ¬ (j : Int) < (s.size : Int) := by omega
            go_wp2
            go_roundw
            case rel => exact ⟨k + 1, p, by omega, by omega, rfl, by go_num, fun h => absurd h (by omega), hB⟩
            case measure => simp [intOf]; omega
    · have hle' : ¬ (k : Int) ≤ (ts.length : Int) := by omega
      have B3 := hid hB.out
      go_wp2
      go_ret
      exact ⟨rfl, bstep A2.out.below B3.out⟩
/-- The walk: the Go text of the law returns true and turns nothing that was there. -/
theorem walk4 (s : ByteArray) (w : World) (hW : Laid w ∧ TabS w) :
    Calls Tryd.prog 4 #[.string s] w fun e w' => e = .returned (.bool true) ∧ Below w.heap.size w w' := by
  by_cases h : s.size ≤ 65536
  · cases h1 : toks 0 s.data.toList with
    | error a => exact place_bad s w hW h a h1
    | ok ts => exact place_ok s w hW h ts h1
  · exact place_big s w hW (by omega)
end Go.Proofs.YtafelijlolidhaaDoor.Lex
