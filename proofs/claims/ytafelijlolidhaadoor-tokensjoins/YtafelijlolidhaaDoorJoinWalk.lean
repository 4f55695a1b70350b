/-
  The walk of the law on two texts with a line's end between, where both have tokens.
-/
import Derived.Test.YtafelijlolidhaaDoorJoinBad
namespace Go.Proofs.YtafelijlolidhaaDoor.Lex
open Go.ChangeShapes Go.WideShapes Go.ChangeAt Go.RowKit Go.Joins
theorem own_slice {w : World} {B n : Nat} {v : Value} {xs : List Value} (h : w.ownsRow B 32 3 v n xs) : ∃ ao cap, v = .slice ao n cap ∧ (ao = none → n = 0 ∧ cap = 0) ∧ (∀ ad, ao = some ad → ∀ j u, xs[j]? = some u → w.cell? (ad.add j) = some u) := by
  have hl := h.1
  rcases h.2 with ⟨rfl, rfl⟩ | ⟨g, cap, cur, rfl, hg0, hg, rest⟩
  · exact ⟨none, 0, rfl, fun _ => ⟨rfl, rfl⟩, fun ad h => by cases h⟩
  · refine ⟨_, cap, rfl, (fun h => by cases h), fun ad e j u hj => ?_⟩
    injection e with e
    subst e
    have hadd : (⟨g, 0, none⟩ : Addr).add j = ⟨g, j, none⟩ := by unfold Addr.add; split <;> simp_all
    rw [hadd, h.cellAt j (by have := (List.getElem?_eq_some_iff.1 hj).1; omega)]
    exact hj
theorem toksV_one (ts : List Tok) : ∀ u ∈ toksV ts, u.oneCell' = true := by
  intro u hu
  simp only [toksV, List.mem_flatMap] at hu
  obtain ⟨t, _, hu⟩ := hu
  simp only [tokV, List.mem_cons, List.not_mem_nil, or_false] at hu
  rcases hu with rfl | rfl | rfl <;> rfl
theorem three_next (w : World) (C : Obj) (x y z : Value) : ∀ j u, [x, y, z][j]? = some u → ((w.alloc C).alloc (.cells #[x, y, z] 32)).cell? ((⟨w.heap.size + 1, 0, none⟩ : Addr).add j) = some u := by
  have h := three_new (w.alloc C) x y z
  have e : (w.alloc C).heap.size = w.heap.size + 1 := by simp
  rw [e] at h
  exact h
theorem toks_at : ∀ (m : Nat) (l : List UInt8) (a : Nat) (ts : List Tok), l.length = m → toks a l = .ok ts → ∀ t ∈ ts, t.at_ ≤ a + l.length := by
  intro m
  induction m using Nat.strongRecOn with
  | _ m ih =>
    intro l a ts hm h
    by_cases h0 : l = []
    · subst h0; rw [toks_nil] at h; injection h with h; subst h; intro t ht; cases ht
    · cases hst : step l with
      | none => rw [toks_none h0 hst] at h; cases h
      | some kn =>
        obtain ⟨k, n⟩ := kn
        obtain ⟨h1, h2, _⟩ := step_le hst
        rw [toks_some h0 hst] at h
        cases hr : toks (a + n) (l.drop n) with
        | error e => rw [hr] at h; cases h
        | ok us =>
          rw [hr] at h
          injection h with h
          have := ih (l.drop n).length (by rw [List.length_drop]; omega) (l.drop n) (a + n) us rfl hr
          rw [List.length_drop] at this
          intro t ht
          rw [← h] at ht
          rcases List.mem_append.1 ht with ht | ht
          · split at ht
            · cases ht
            · rw [List.mem_singleton.1 ht]; show a ≤ _; omega
          · have := this t ht; omega
set_option maxRecDepth 100000 in
set_option maxHeartbeats 2000000 in
theorem join_oo (s t : ByteArray) (w : World) (hW : Laid w ∧ TabS w) (hs : s.size ≤ 20000) (ht : t.size ≤ 20000) (ts us : List Tok) (h1 : toks 0 s.data.toList = .ok ts) (h2 : toks 0 t.data.toList = .ok us) :
    Calls Tryd.prog 6 #[.string s, .string t] w fun e w' => e = .returned (.bool true) ∧ Below w.heap.size w w' := by
  have c := fun W hL hT => alive W hL hT
  have c1 := fun W hT => read_ok s _ h1 W hT (by omega)
  have c2 := fun W hT => read_ok t _ h2 W hT (by omega)
  have c3 := fun W hT => read_ok (s ++ (⟨#[10]⟩ : ByteArray) ++ t) (ts ++ us.map (far (s.size + 1))) (by rw [cat10, toks_join, h1, h2, ← Lib.size_eq]) W hT (by rw [size10]; omega)
  have hA : Hid (At w w) := ⟨Below.refl _ _, hW.1, hW.2⟩
  have h1' : ¬ (20000 : Int) < (s.size : Int) := by omega
  have h2' : ¬ (20000 : Int) < (t.size : Int) := by omega
  have hlt : ts.length ≤ 20000 := by have := toks_few _ s.data.toList 0 ts rfl h1; rw [← Lib.size_eq] at this; omega
  have hlu : us.length ≤ 20000 := by have := toks_few _ t.data.toList 0 us rfl h2; rw [← Lib.size_eq] at this; omega
  have HAT : Hid (∀ k (h : k < us.length), us[k].at_ ≤ 20000) := fun k h => by have := toks_at _ t.data.toList 0 us rfl h2 _ (List.getElem_mem h); rw [← Lib.size_eq] at this; omega
  obtain ⟨i0, hi, hi0, hi1, hi2⟩ := info_parts info32'
  clear hW h1 h2
  go_enter Tryd.func6, Tryd.ntmps6
  go_wp2_with (first
    | (go_at_call 13; refine (c _ hA.out.laid hA.out.tab).mono ?_; rintro e w1 ⟨rfl, hb1⟩; have A1 := hid (hA.out.step hb1); clear hb1 c)
    | (go_at_call 14; refine (c1 _ A1.out.tab).mono ?_; rintro e w2 ⟨va, rfl, ho2, hb2⟩; have A2 := hid (A1.out.step hb2); have O2 := hid ho2; clear hb2 c1 ho2)
    | (go_at_call 14; refine (c2 _ A2.out.tab).mono ?_; rintro e w3 ⟨vb, rfl, ho3, hb3⟩; have A3 := hid (A2.out.step hb3); have O3 := hid (ownsRow_below O2.out hb3); have U3 := hid ho3; clear hb3 c2 ho3)
    | (go_at_call 14; refine (c3 _ A3.out.tab).mono ?_; rintro e w4 ⟨vc, rfl, ho4, hb4⟩; have A4 := hid (A3.out.step hb4); have O4 := hid (ownsRow_below O3.out hb4); have U4 := hid (TokAt.of_own (ownsRow_below U3.out hb4)); have C4 := hid (TokAt.of_own ho4); obtain ⟨ao, cao, rfl, hno, hce⟩ := own_slice O4.out; have Hno := hid hno; have Hce := hid hce; clear hb4 c3 ho4 hno hce)
    | (at_builtin; refine wpList_append_src rfl (.tmp 83) (.tmp 84) 28 rfl w4.heap.size 32 i0 (.agg #[.int .u8 0, .string ByteArray.empty, .int .i64 0]) 3 32 Tryd.underlying28 hi hi0 hi1 hi2 rfl (by decide) _ 0 [] rfl (World.ownsRow_nil _ _ _ _) ao ts.length cao (toksV ts) rfl Hno.out (toksV_len ts) Hce.out (toksV_one ts) (by unfold maxLen; omega) (by omega) (Nat.le_refl _) ?_; intro v5 w5 hown5 hgrow5; have J5 : Hid (Jn w4 v5 ts w5) := ⟨(Below.refl _ _).grown hgrow5 (Nat.le_refl _) (fun k hk => by cases hk), by simpa using hown5⟩; clear hown5 hgrow5))
  go_loopw [14, 15] (fun v i wr => ∃ k : Nat, k ≤ us.length ∧ i = .int .i64 (k : Int) ∧ Hid (Jn w4 v (ts ++ (us.take k).map (far (s.size + 1))) wr)) (fun _ i _ => us.length - (intOf i).toNat)
  case atStart => exact ⟨0, Nat.zero_le _, rfl, by simpa [Hid] using J5.out⟩
  case round =>
    obtain ⟨k, hk, rfl, hJ⟩ := hrel
    have hu := U4.out.below hJ.out.below
    obtain ⟨ub, cub, rfl, hcb⟩ := hu
    by_cases hlt2 : k < us.length
    · have hlt' : (k : Int) < (us.length : Int) := by omega
      have hk0 : (0 : Int) ≤ (k : Int) := by omega
      obtain ⟨g, rfl, hg⟩ := hcb.resolve_left (by omega)
      obtain ⟨x0, x1, x2⟩ := hg k hlt2
      have hAk := HAT.out k hlt2
      have HT : Hid (tokV (far (s.size + 1) us[k]) = [.int .u8 (us[k].kind : Int), .string ⟨us[k].text.toArray⟩, .int .i64 ((s.size : Int) + 1 + (us[k].at_ : Int))]) := by
        unfold Hid tokV far
        simp
      have HK : Hid (ts ++ (us.take (k + 1)).map (far (s.size + 1)) = (ts ++ (us.take k).map (far (s.size + 1))) ++ [far (s.size + 1) us[k]]) := by
        unfold Hid
        rw [List.take_succ_eq_append_getElem hlt2, List.map_append, List.append_assoc]
        rfl
      have HN : Hid ((ts ++ (us.take k).map (far (s.size + 1))).length ≤ 40000) := by unfold Hid; simp; omega
      generalize far (s.size + 1) us[k] = F at HT HK
      generalize us[k].kind = Kd at x0 HT
      generalize (⟨us[k].text.toArray⟩ : ByteArray) = Tx at x1 HT
      generalize us[k].at_ = A at x2 HT hAk
      have J5' := hid (p := Jn w4 u14 (ts ++ (us.take k).map (far (s.size + 1))) ((wr.alloc (.cells #[.int .u8 (Kd : Int), .string Tx, .int .i64 ((s.size : Int) + 1 + (A : Int))] 32)).alloc (.cells #[.int .u8 (Kd : Int), .string Tx, .int .i64 ((s.size : Int) + 1 + (A : Int))] 32))) ((hJ.out.step ((Below.refl _ _).alloc (Nat.le_refl _) _)).step ((Below.refl _ _).alloc (Nat.le_refl _) _))
      have N5 := hid (three_next wr (.cells #[.int .u8 (Kd : Int), .string Tx, .int .i64 ((s.size : Int) + 1 + (A : Int))] 32) (.int .u8 (Kd : Int)) (.string Tx) (.int .i64 ((s.size : Int) + 1 + (A : Int))))
      clear hcb hg
      go_wp2_with (at_builtin; refine wpList_append_own _ rfl (.tmp 103) (.tmp 105) 28 rfl w4.heap.size 32 i0 (.agg #[.int .u8 0, .string ByteArray.empty, .int .i64 0]) 3 32 Tryd.underlying28 hi hi0 hi1 hi2 rfl (by decide) _ _ _ rfl J5'.out.row ⟨wr.heap.size + 1, 0, none⟩ 1 1 [.int .u8 (Kd : Int), .string Tx, .int .i64 ((s.size : Int) + 1 + (A : Int))] rfl rfl N5.out (by simp [Value.oneCell']) (by have := HN.out; unfold maxLen; omega) (by have := HN.out; omega) J5'.out.below.size ?_; intro v6 w6 hown6 hgrow6 _; have J6 := hid (J5'.out.grow F hgrow6 (by rw [HT.out]; exact hown6)); clear hown6 hgrow6)
      go_roundw
      case rel => exact ⟨k + 1, by omega, by go_num, by unfold Hid; rw [HK.out]; exact J6.out⟩
      case measure => simp [intOf]; omega
    · have hlt' : ¬ (k : Int) < (us.length : Int) := by omega
      have HJ : Hid (Jn w4 u14 (ts ++ us.map (far (s.size + 1))) wr) := by
        have := hJ.out
        rw [List.take_of_length_le (by omega)] at this
        exact this
      have c5 := fun u => same' vc u (ts ++ us.map (far (s.size + 1))) wr (C4.out.below HJ.out.below)
      clear hcb
      go_wp2_with (go_at_call 15; refine (c5 _ (TokAt.of_own HJ.out.row) (by simp; omega)).mono ?_; rintro e w6 ⟨rfl, hb6⟩)
      go_ret
      exact ⟨rfl, bstep (bstep A4.out.below HJ.out.below) hb6⟩
/-- The walk: the Go text of the law returns true and turns nothing that was there. -/
theorem walk6 (s t : ByteArray) (w : World) (hW : Laid w ∧ TabS w) :
    Calls Tryd.prog 6 #[.string s, .string t] w fun e w' => e = .returned (.bool true) ∧ Below w.heap.size w w' := by
  by_cases hs : s.size ≤ 20000
  · by_cases ht : t.size ≤ 20000
    · cases h1 : toks 0 s.data.toList with
      | error a =>
        cases h2 : toks 0 t.data.toList with
        | error b => exact join_bb s t w hW hs ht a b h1 h2
        | ok us => exact join_bo s t w hW hs ht a us h1 h2
      | ok ts =>
        cases h2 : toks 0 t.data.toList with
        | error b => exact join_ob s t w hW hs ht b ts h1 h2
        | ok us => exact join_oo s t w hW hs ht ts us h1 h2
    · exact join_big s t w hW (.inr (by omega))
  · exact join_big s t w hW (.inl (by omega))
end Go.Proofs.YtafelijlolidhaaDoor.Lex
