/-
  Read: the tokens of a text.
-/
import Derived.Test.YtkieljleopbhoaaDoorCome
namespace Go.Proofs.YtkieljleopbhoaaDoor.Lex
open Go.RowKit
theorem ownsRow_mono {w : World} {B B' e size n : Nat} {v : Value} {xs : List Value} (h : w.ownsRow B e size v n xs) (hle : B' ≤ B) : w.ownsRow B' e size v n xs := by
  refine ⟨h.1, ?_⟩
  rcases h.2 with hn | ⟨g, cap, cur, e1, hg0, rest⟩
  · exact .inl hn
  · exact .inr ⟨g, cap, cur, e1, by omega, rest⟩
theorem three_new (w : World) (x y z : Value) : ∀ j u, [x, y, z][j]? = some u → (w.alloc (.cells #[x, y, z] 45)).cell? ((⟨w.heap.size, 0, none⟩ : Addr).add j) = some u := by
  intro j u hj
  have hadd : (⟨w.heap.size, 0, none⟩ : Addr).add j = ⟨w.heap.size, j, none⟩ := by unfold Addr.add; split <;> simp_all
  rw [hadd, World.cell?_alloc_at _ _ _ _ rfl]
  rcases j with _ | _ | _ | j
  · simpa using hj
  · simpa using hj
  · simpa using hj
  · simp at hj
set_option maxRecDepth 100000 in
set_option maxHeartbeats 4000000 in
theorem read (s : ByteArray) (w : World) (hT : TabS w) (hs : s.size ≤ 65536) : Calls Tryd.prog 18 #[.string s] w fun e w' => Gave w s.data.toList e w' := by
  have hs' : (s.size : Int) ≤ 65536 := by omega
  have h1 : 1 < w.heap.size := by obtain ⟨t, fz, h⟩ := hT; exact (Array.getElem?_eq_some_iff.1 h).1
  have HL : Hid (s.data.toList.length = s.size) := (Lib.size_eq s).symm
  have h22 := lengths w
  obtain ⟨i0, hi, hi0, hi1, hi2⟩ := info_parts info32'
  go_enter Tryd.func18, Tryd.ntmps18
  go_wp2
  go_step3
  go_wp2_with (first
    | (go_at_call 33; refine h22.mono ?_; rintro e w1 ⟨rfl, hb1⟩)
    | (refine wpList_store_row rfl 64 _ _ rfl w1.heap.size lenF rfl rfl 64 _ (heap_alloc_new w1 _) (by kernel_rfl) rfl (by kernel_rfl) ?_))
  go_step3
  go_wp2
  go_loopw [2, 6] (fun v nx wr => ∃ (pos next : Nat) (ts : List Tok), pos ≤ next ∧ next ≤ s.size ∧ nx = .int .i64 next ∧ Hid (Rd w w1.heap.size s pos v ts wr) ∧ Hid (Come s.data.toList pos next ts)) (fun _ _ wr => s.size - wr.iterPos (w1.heap.size + 1))
  case atStart =>
    refine ⟨0, 0, [], Nat.le_refl _, Nat.zero_le _, rfl, ?_, Come.start _⟩
    have hb2 : Below w.heap.size w ((w1.alloc (.cells #[.nilFunc, .nilFunc, .nilFunc, .nilFunc] 64)).setRow w1.heap.size lenF) := below_row (hb1.alloc hb1.size _) (by have := hb1.size; simp; omega) hb1.size _
    have hz : ((w1.alloc (.cells #[.nilFunc, .nilFunc, .nilFunc, .nilFunc] 64)).setRow w1.heap.size lenF).heap.size = w1.heap.size + 1 := by simp [World.setRow]
    have hl := setRow_heap _ _ _ lenF _ _ (heap_alloc_new w1 (.cells #[.nilFunc, .nilFunc, .nilFunc, .nilFunc] 64))
    generalize (w1.alloc (.cells #[.nilFunc, .nilFunc, .nilFunc, .nilFunc] 64)).setRow w1.heap.size lenF = W2 at hb2 hz hl ⊢
    have hb3 : Below W2.heap.size W2 (W2.iter s 0) := (Below.refl _ W2).alloc (Nat.le_refl _) _
    have hi := World.iter_heap W2 s 0
    rw [hz] at hi
    exact ⟨bstep hb2 hb3, (hT.below hb2).below hb3, hb1.size, (hb3.block _ (by omega)).trans hl, hi, World.ownsRow_nil _ _ _ _⟩
  case round =>
    obtain ⟨pos, next, ts, hpn, hns, rfl, hR, hC⟩ := hrel
    by_cases hp : pos < s.size
    · have hnext : ∀ ty, (Instr.next (.pointer (some ⟨w1.heap.size + 1, 0, none⟩)) true ty).run Tryd.prog wr = _ := fun ty => Lib.run_next_any_at wr (w1.heap.size + 1) s pos ty hR.out.iter hp
      have hmu : Hid (wr.iterPos (w1.heap.size + 1) = pos) := by unfold Hid; simp [World.iterPos, hR.out.iter]
      by_cases hlt : pos < next
      · have hlt' : (pos : Int) < (next : Int) := by omega
        have hC' := hC.out.skip hlt hns
        have hn1 : 1 ≤ (Utf8.decode s pos).2 := (rune_step digit rDigit false digit_byte rDigit_high s pos hp).2.1
        have hR' := hR.out.next h1 (pos + (Utf8.decode s pos).2)
        generalize (Utf8.decode s pos).1 = rr at hnext
        generalize (Utf8.decode s pos).2 = nn at hC' hR' hnext hn1
        have HC' : Hid (Come s.data.toList (pos + nn) next ts) := hC'.2
        have HR' : Hid (Rd w w1.heap.size s (pos + nn) u2 ts (wr.iterAt (w1.heap.size + 1) s (pos + nn))) := hR'
        have Hle : Hid (pos + nn ≤ next) := hC'.1
        generalize wr.iterAt (w1.heap.size + 1) s (pos + nn) = W1 at hnext HR'
        clear hC' hR' hR hC
        go_wp2
        go_roundw
        case rel => exact ⟨pos + nn, next, ts, Hle.out, hns, rfl, HR', HC'⟩
        case measure =>
          have hmu2 : W1.iterPos (w1.heap.size + 1) = pos + nn := by simp [World.iterPos, HR'.out.iter]
          rw [hmu.out, hmu2]
          omega
      · have hlt' : ¬ (pos : Int) < (next : Int) := by omega
        obtain rfl : pos = next := by omega
        have hn1 : 1 ≤ (Utf8.decode s pos).2 := (rune_step digit rDigit false digit_byte rDigit_high s pos hp).2.1
        have hR' := hR.out.next h1 (pos + (Utf8.decode s pos).2)
        have hC2 := fun k n (h : step (s.data.toList.drop pos) = some (k, n)) => hC.out.go hp h
        have hC3 := fun (h : step (s.data.toList.drop pos) = none) => hC.out.stop hp h
        generalize (Utf8.decode s pos).1 = rr at hnext
        generalize (Utf8.decode s pos).2 = nn at hR' hnext hn1 hC2
        have HR' : Hid (Rd w w1.heap.size s (pos + nn) u2 ts (wr.iterAt (w1.heap.size + 1) s (pos + nn))) := hR'
        have HC2 : Hid (∀ k n, step (s.data.toList.drop pos) = some (k, n) → pos + nn ≤ pos + n ∧ pos + n ≤ s.size ∧ 1 ≤ n ∧ Come s.data.toList (pos + nn) (pos + n) (ts ++ if k = 0 then [] else [⟨k, (s.data.toList.drop pos).take n, pos⟩])) := hC2
        have HC3 : Hid (step (s.data.toList.drop pos) = none → toks 0 s.data.toList = .error pos) := hC3
        generalize wr.iterAt (w1.heap.size + 1) s (pos + nn) = W1 at hnext HR'
        clear hR' hC2 hC3 hR hC
        have hp' : (pos : Int) ≤ (s.size : Int) := by omega
        go_wp2_with (refine wpList_load_row rfl 64 _ rfl w1.heap.size rfl 64 lenF (0, 0) _ HR'.out.lens Tryd.underlying64 rfl (by kernel_rfl) ?_)
        go_loopw [2, 24] (fun v i wr2 => v = u2 ∧ ∃ k : Nat, k ≤ 4 ∧ i = .int .i64 k ∧ Hid (∀ j, j < k → lenK j (s.data.toList.drop pos) = 0) ∧ Hid (Rd w w1.heap.size s (pos + nn) u2 ts wr2)) (fun _ i _ => 4 - (intOf i).toNat)
        case atStart => exact ⟨rfl, 0, by omega, rfl, fun j hj => by omega, HR'⟩
        case round =>
          obtain ⟨rfl, k, hk, rfl, hz0, hR2⟩ := hrel
          clear HR' hnext
          by_cases hk4 : k < 4
          · have hk' : k = 0 ∨ k = 1 ∨ k = 2 ∨ k = 3 := by omega
            rcases hk' with rfl | rfl | rfl | rfl
            · have hx := fun W => len_index_0 W
              have hc : ∀ W, TabS W → Calls Tryd.prog 51 #[.string (s.extract pos s.size)] W fun e w' => e = .returned (.int .i64 (silLen (s.data.toList.drop pos) : Int)) ∧ Below W.heap.size W w' := fun W ht => by
                have := silentLength (s.extract pos s.size) W
                rwa [bytes_drop] at this
              by_cases hz : silLen (s.data.toList.drop pos) = 0
              · rw [hz] at hc
                have Hz : Hid (∀ j, j < 0 + 1 → lenK j (s.data.toList.drop pos) = 0) := fun j hj => by
                  by_cases e : j = 0
                  · rw [e]; exact hz
                  · exact hz0.out j (by omega)
                clear hz hz0
                go_wp2_with (go_at_call 51; refine (hc _ hR2.out.tab).mono ?_; rintro e w3 ⟨rfl, hb3⟩; have HR3 : Hid (Rd w w1.heap.size s (pos + nn) u2 ts w3) := hR2.out.step hb3; clear hb3)
                go_roundw
                case rel => exact ⟨rfl, 0 + 1, by omega, by go_num, Hz, HR3⟩
                case measure => simp [intOf]
              · have Hs : Hid (step (s.data.toList.drop pos) = some (0, silLen (s.data.toList.drop pos))) := step_at (by omega) hz0.out hz
                generalize silLen (s.data.toList.drop pos) = n at hc hz Hs
                have hG := HC2.out _ _ Hs.out
                have HG1 : Hid (pos + nn ≤ pos + n) := hG.1
                have HG2 : Hid (Come s.data.toList (pos + nn) (pos + n) (ts ++ if 0 = 0 then [] else [⟨0, (s.data.toList.drop pos).take n, pos⟩])) := hG.2.2.2
                have hne : ((n : Int) == 0) = false := by simp; omega
                have hpn' : pos + n ≤ s.size := hG.2.1
                have Hnz : Hid (1 ≤ n) := hG.2.2.1
                clear hG hz hz0 HC2 HC3 hpn hlt
                go_wp2_with (go_at_call 51; refine (hc _ hR2.out.tab).mono ?_; rintro e w3 ⟨rfl, hb3⟩; have HR3 : Hid (Rd w w1.heap.size s (pos + nn) u2 ts w3) := hR2.out.step hb3; clear hb3)
                go_roundw
                case rel => exact ⟨pos + nn, pos + n, ts, HG1.out, hpn', by go_num, HR3, by simpa [Hid] using HG2.out⟩
                case measure =>
                  have hmu2 : w3.iterPos (w1.heap.size + 1) = pos + nn := by simp [World.iterPos, HR3.out.iter]
                  rw [hmu.out, hmu2]
                  omega
            · have hx := fun W => len_index_1 W
              have hc : ∀ W, TabS W → Calls Tryd.prog 52 #[.string (s.extract pos s.size)] W fun e w' => e = .returned (.int .i64 (wordLen (s.data.toList.drop pos) : Int)) ∧ Below W.heap.size W w' := fun W ht => by
                have := wordLength (s.extract pos s.size) W
                rwa [bytes_drop] at this
              by_cases hz : wordLen (s.data.toList.drop pos) = 0
              · rw [hz] at hc
                have Hz : Hid (∀ j, j < 1 + 1 → lenK j (s.data.toList.drop pos) = 0) := fun j hj => by
                  by_cases e : j = 1
                  · rw [e]; exact hz
                  · exact hz0.out j (by omega)
                clear hz hz0
                go_wp2_with (go_at_call 52; refine (hc _ hR2.out.tab).mono ?_; rintro e w3 ⟨rfl, hb3⟩; have HR3 : Hid (Rd w w1.heap.size s (pos + nn) u2 ts w3) := hR2.out.step hb3; clear hb3)
                go_roundw
                case rel => exact ⟨rfl, 1 + 1, by omega, by go_num, Hz, HR3⟩
                case measure => simp [intOf]
              · have Hs : Hid (step (s.data.toList.drop pos) = some (1, wordLen (s.data.toList.drop pos))) := step_at (by omega) hz0.out hz
                generalize wordLen (s.data.toList.drop pos) = n at hc hz Hs
                have hG := HC2.out _ _ Hs.out
                have HG1 : Hid (pos + nn ≤ pos + n) := hG.1
                have HG2 : Hid (Come s.data.toList (pos + nn) (pos + n) (ts ++ if 1 = 0 then [] else [⟨1, (s.data.toList.drop pos).take n, pos⟩])) := hG.2.2.2
                have hne : ((n : Int) == 0) = false := by simp; omega
                have hpn' : pos + n ≤ s.size := hG.2.1
                have Hnz : Hid (1 ≤ n) := hG.2.2.1
                clear hG hz hz0 HC2 HC3 hpn hlt
                have hlo : (pos : Int) ≤ (pos : Int) + (n : Int) := by omega
                have hhi : (pos : Int) + (n : Int) ≤ (s.size : Int) := by omega
                obtain ⟨X, hX⟩ : ∃ X, s.extract pos (pos + n) = X := ⟨_, rfl⟩
                have HX : Hid (tokV ⟨1, (s.data.toList.drop pos).take n, pos⟩ = [.int .u8 1, .string X, .int .i64 (pos : Int)]) := by unfold Hid; rw [← hX, bytes_part]; rfl
                have hts : Hid (ts.length ≤ pos + n) := by have := HG2.out.few; simp at this; exact Nat.le_trans (Nat.le_succ _) this
                have htk : ∀ W, Calls Tryd.prog 34 #[.int .i64 1, .string X, .int .i64 (pos : Int)] W fun e w' => e = .returned (.agg #[.int .u8 1, .string X, .int .i64 (pos : Int)]) ∧ Below W.heap.size W w' := fun W => token 1 X pos W (by omega) (by rw [← hX, ByteArray.size_extract]; omega)
                go_wp2_with (first
                  | (go_at_call 52; refine (hc _ hR2.out.tab).mono ?_; rintro e w3 ⟨rfl, hb3⟩; have HR3 : Hid (Rd w w1.heap.size s (pos + nn) u2 ts w3) := hR2.out.step hb3; clear hb3)
                  | (go_at_call 34; refine (htk _).mono ?_; rintro e w4 ⟨rfl, hb4⟩; have HR4 : Hid (Rd w w1.heap.size s (pos + nn) u2 ts w4) := HR3.out.step hb4; have HR5 : Hid (Rd w w1.heap.size s (pos + nn) u2 ts (w4.alloc (.cells #[.int .u8 1, .string X, .int .i64 (pos : Int)] 45))) := HR4.out.step ((Below.refl _ _).alloc (Nat.le_refl _) _); clear hb4)
                  | (at_builtin; refine wpList_append_own _ rfl (.tmp 40) (.tmp 48) 38 rfl (w1.heap.size + 2) 45 i0 (.agg #[.int .u8 0, .string ByteArray.empty, .int .i64 0]) 3 32 Tryd.underlying38 hi hi0 hi1 hi2 rfl (by decide) _ _ _ rfl HR5.out.row ⟨w4.heap.size, 0, none⟩ 1 1 [.int .u8 1, .string X, .int .i64 (pos : Int)] rfl rfl (three_new _ _ _ _) (by simp [Value.oneCell']) (by have := hts.out; unfold maxLen; omega) (by have := hts.out; omega) HR5.out.lt ?_; intro v' w' hown1 hgrow1 _; have HR6 : Hid (Rd w w1.heap.size s (pos + nn) v' (ts ++ [⟨1, (s.data.toList.drop pos).take n, pos⟩]) w') := HR5.out.grow h1 _ hgrow1 (by rw [HX.out]; exact hown1); clear hown1 hgrow1))
                go_roundw
                case rel => exact ⟨pos + nn, pos + n, _, HG1.out, hpn', by go_num, HR6, by simpa [Hid] using HG2.out⟩
                case measure =>
                  have hmu2 : w'.iterPos (w1.heap.size + 1) = pos + nn := by simp [World.iterPos, HR6.out.iter]
                  rw [hmu.out, hmu2]
                  omega
            · have hx := fun W => len_index_2 W
              have hc : ∀ W, TabS W → Calls Tryd.prog 53 #[.string (s.extract pos s.size)] W fun e w' => e = .returned (.int .i64 (numLen (s.data.toList.drop pos) : Int)) ∧ Below W.heap.size W w' := fun W ht => by
                have := numberLength (s.extract pos s.size) W
                rwa [bytes_drop] at this
              by_cases hz : numLen (s.data.toList.drop pos) = 0
              · rw [hz] at hc
                have Hz : Hid (∀ j, j < 2 + 1 → lenK j (s.data.toList.drop pos) = 0) := fun j hj => by
                  by_cases e : j = 2
                  · rw [e]; exact hz
                  · exact hz0.out j (by omega)
                clear hz hz0
                go_wp2_with (go_at_call 53; refine (hc _ hR2.out.tab).mono ?_; rintro e w3 ⟨rfl, hb3⟩; have HR3 : Hid (Rd w w1.heap.size s (pos + nn) u2 ts w3) := hR2.out.step hb3; clear hb3)
                go_roundw
                case rel => exact ⟨rfl, 2 + 1, by omega, by go_num, Hz, HR3⟩
                case measure => simp [intOf]
              · have Hs : Hid (step (s.data.toList.drop pos) = some (2, numLen (s.data.toList.drop pos))) := step_at (by omega) hz0.out hz
                generalize numLen (s.data.toList.drop pos) = n at hc hz Hs
                have hG := HC2.out _ _ Hs.out
                have HG1 : Hid (pos + nn ≤ pos + n) := hG.1
                have HG2 : Hid (Come s.data.toList (pos + nn) (pos + n) (ts ++ if 2 = 0 then [] else [⟨2, (s.data.toList.drop pos).take n, pos⟩])) := hG.2.2.2
                have hne : ((n : Int) == 0) = false := by simp; omega
                have hpn' : pos + n ≤ s.size := hG.2.1
                have Hnz : Hid (1 ≤ n) := hG.2.2.1
                clear hG hz hz0 HC2 HC3 hpn hlt
                have hlo : (pos : Int) ≤ (pos : Int) + (n : Int) := by omega
                have hhi : (pos : Int) + (n : Int) ≤ (s.size : Int) := by omega
                obtain ⟨X, hX⟩ : ∃ X, s.extract pos (pos + n) = X := ⟨_, rfl⟩
                have HX : Hid (tokV ⟨2, (s.data.toList.drop pos).take n, pos⟩ = [.int .u8 2, .string X, .int .i64 (pos : Int)]) := by unfold Hid; rw [← hX, bytes_part]; rfl
                have hts : Hid (ts.length ≤ pos + n) := by have := HG2.out.few; simp at this; exact Nat.le_trans (Nat.le_succ _) this
                have htk : ∀ W, Calls Tryd.prog 34 #[.int .i64 2, .string X, .int .i64 (pos : Int)] W fun e w' => e = .returned (.agg #[.int .u8 2, .string X, .int .i64 (pos : Int)]) ∧ Below W.heap.size W w' := fun W => token 2 X pos W (by omega) (by rw [← hX, ByteArray.size_extract]; omega)
                go_wp2_with (first
                  | (go_at_call 53; refine (hc _ hR2.out.tab).mono ?_; rintro e w3 ⟨rfl, hb3⟩; have HR3 : Hid (Rd w w1.heap.size s (pos + nn) u2 ts w3) := hR2.out.step hb3; clear hb3)
                  | (go_at_call 34; refine (htk _).mono ?_; rintro e w4 ⟨rfl, hb4⟩; have HR4 : Hid (Rd w w1.heap.size s (pos + nn) u2 ts w4) := HR3.out.step hb4; have HR5 : Hid (Rd w w1.heap.size s (pos + nn) u2 ts (w4.alloc (.cells #[.int .u8 2, .string X, .int .i64 (pos : Int)] 45))) := HR4.out.step ((Below.refl _ _).alloc (Nat.le_refl _) _); clear hb4)
                  | (at_builtin; refine wpList_append_own _ rfl (.tmp 40) (.tmp 48) 38 rfl (w1.heap.size + 2) 45 i0 (.agg #[.int .u8 0, .string ByteArray.empty, .int .i64 0]) 3 32 Tryd.underlying38 hi hi0 hi1 hi2 rfl (by decide) _ _ _ rfl HR5.out.row ⟨w4.heap.size, 0, none⟩ 1 1 [.int .u8 2, .string X, .int .i64 (pos : Int)] rfl rfl (three_new _ _ _ _) (by simp [Value.oneCell']) (by have := hts.out; unfold maxLen; omega) (by have := hts.out; omega) HR5.out.lt ?_; intro v' w' hown1 hgrow1 _; have HR6 : Hid (Rd w w1.heap.size s (pos + nn) v' (ts ++ [⟨2, (s.data.toList.drop pos).take n, pos⟩]) w') := HR5.out.grow h1 _ hgrow1 (by rw [HX.out]; exact hown1); clear hown1 hgrow1))
                go_roundw
                case rel => exact ⟨pos + nn, pos + n, _, HG1.out, hpn', by go_num, HR6, by simpa [Hid] using HG2.out⟩
                case measure =>
                  have hmu2 : w'.iterPos (w1.heap.size + 1) = pos + nn := by simp [World.iterPos, HR6.out.iter]
                  rw [hmu.out, hmu2]
                  omega
            · have hx := fun W => len_index_3 W
              have hc : ∀ W, TabS W → Calls Tryd.prog 54 #[.string (s.extract pos s.size)] W fun e w' => e = .returned (.int .i64 (signLen (s.data.toList.drop pos) : Int)) ∧ Below W.heap.size W w' := fun W ht => by
                have := signsLength (s.extract pos s.size) W ht
                rw [bytes_drop] at this
                exact this.mono fun e w' ⟨a, b⟩ => ⟨a, by rw [b]; exact Below.refl _ _⟩
              by_cases hz : signLen (s.data.toList.drop pos) = 0
              · rw [hz] at hc
                have Hz : Hid (∀ j, j < 3 + 1 → lenK j (s.data.toList.drop pos) = 0) := fun j hj => by
                  by_cases e : j = 3
                  · rw [e]; exact hz
                  · exact hz0.out j (by omega)
                clear hz hz0
                go_wp2_with (go_at_call 54; refine (hc _ hR2.out.tab).mono ?_; rintro e w3 ⟨rfl, hb3⟩; have HR3 : Hid (Rd w w1.heap.size s (pos + nn) u2 ts w3) := hR2.out.step hb3; clear hb3)
                go_roundw
                case rel => exact ⟨rfl, 3 + 1, by omega, by go_num, Hz, HR3⟩
                case measure => simp [intOf]
              · have Hs : Hid (step (s.data.toList.drop pos) = some (3, signLen (s.data.toList.drop pos))) := step_at (by omega) hz0.out hz
                generalize signLen (s.data.toList.drop pos) = n at hc hz Hs
                have hG := HC2.out _ _ Hs.out
                have HG1 : Hid (pos + nn ≤ pos + n) := hG.1
                have HG2 : Hid (Come s.data.toList (pos + nn) (pos + n) (ts ++ if 3 = 0 then [] else [⟨3, (s.data.toList.drop pos).take n, pos⟩])) := hG.2.2.2
                have hne : ((n : Int) == 0) = false := by simp; omega
                have hpn' : pos + n ≤ s.size := hG.2.1
                have Hnz : Hid (1 ≤ n) := hG.2.2.1
                clear hG hz hz0 HC2 HC3 hpn hlt
                have hlo : (pos : Int) ≤ (pos : Int) + (n : Int) := by omega
                have hhi : (pos : Int) + (n : Int) ≤ (s.size : Int) := by omega
                obtain ⟨X, hX⟩ : ∃ X, s.extract pos (pos + n) = X := ⟨_, rfl⟩
                have HX : Hid (tokV ⟨3, (s.data.toList.drop pos).take n, pos⟩ = [.int .u8 3, .string X, .int .i64 (pos : Int)]) := by unfold Hid; rw [← hX, bytes_part]; rfl
                have hts : Hid (ts.length ≤ pos + n) := by have := HG2.out.few; simp at this; exact Nat.le_trans (Nat.le_succ _) this
                have htk : ∀ W, Calls Tryd.prog 34 #[.int .i64 3, .string X, .int .i64 (pos : Int)] W fun e w' => e = .returned (.agg #[.int .u8 3, .string X, .int .i64 (pos : Int)]) ∧ Below W.heap.size W w' := fun W => token 3 X pos W (by omega) (by rw [← hX, ByteArray.size_extract]; omega)
                go_wp2_with (first
                  | (go_at_call 54; refine (hc _ hR2.out.tab).mono ?_; rintro e w3 ⟨rfl, hb3⟩; have HR3 : Hid (Rd w w1.heap.size s (pos + nn) u2 ts w3) := hR2.out.step hb3; clear hb3)
                  | (go_at_call 34; refine (htk _).mono ?_; rintro e w4 ⟨rfl, hb4⟩; have HR4 : Hid (Rd w w1.heap.size s (pos + nn) u2 ts w4) := HR3.out.step hb4; have HR5 : Hid (Rd w w1.heap.size s (pos + nn) u2 ts (w4.alloc (.cells #[.int .u8 3, .string X, .int .i64 (pos : Int)] 45))) := HR4.out.step ((Below.refl _ _).alloc (Nat.le_refl _) _); clear hb4)
                  | (at_builtin; refine wpList_append_own _ rfl (.tmp 40) (.tmp 48) 38 rfl (w1.heap.size + 2) 45 i0 (.agg #[.int .u8 0, .string ByteArray.empty, .int .i64 0]) 3 32 Tryd.underlying38 hi hi0 hi1 hi2 rfl (by decide) _ _ _ rfl HR5.out.row ⟨w4.heap.size, 0, none⟩ 1 1 [.int .u8 3, .string X, .int .i64 (pos : Int)] rfl rfl (three_new _ _ _ _) (by simp [Value.oneCell']) (by have := hts.out; unfold maxLen; omega) (by have := hts.out; omega) HR5.out.lt ?_; intro v' w' hown1 hgrow1 _; have HR6 : Hid (Rd w w1.heap.size s (pos + nn) v' (ts ++ [⟨3, (s.data.toList.drop pos).take n, pos⟩]) w') := HR5.out.grow h1 _ hgrow1 (by rw [HX.out]; exact hown1); clear hown1 hgrow1))
                go_roundw
                case rel => exact ⟨pos + nn, pos + n, _, HG1.out, hpn', by go_num, HR6, by simpa [Hid] using HG2.out⟩
                case measure =>
                  have hmu2 : w'.iterPos (w1.heap.size + 1) = pos + nn := by simp [World.iterPos, HR6.out.iter]
                  rw [hmu.out, hmu2]
                  omega
          · have hk4' : ¬ (k : Int) < 4 := by omega
            have HE : Hid (toks 0 s.data.toList = .error pos) := HC3.out (step_zero fun j hj => hz0.out j (by omega))
            go_wp2
            refine bodyPost_ret (results_tmp3 rfl _ _ _) rfl ?_
            exact ⟨hR2.out.below, .inl ⟨pos, HE.out, rfl⟩⟩
    · have hnext : ∀ ty, (Instr.next (.pointer (some ⟨w1.heap.size + 1, 0, none⟩)) true ty).run Tryd.prog wr = _ := fun ty => Lib.run_next_end_at wr (w1.heap.size + 1) s pos ty hR.out.iter hp
      have HC : Hid (toks 0 s.data.toList = .ok ts) := by
        obtain rfl : next = s.size := by omega
        exact hC.out.done
      go_wp2
      show Exit.noGoto _ Exit.ret _ _
      rw [Exit.noGoto_ret]
      refine bodyPost_ret (results_tmp3 rfl _ _ _) rfl ?_
      exact ⟨hR.out.below, .inr ⟨ts, _, HC.out, rfl, ownsRow_mono hR.out.row (by have := hR.out.base; omega)⟩⟩
end Go.Proofs.YtkieljleopbhoaaDoor.Lex
