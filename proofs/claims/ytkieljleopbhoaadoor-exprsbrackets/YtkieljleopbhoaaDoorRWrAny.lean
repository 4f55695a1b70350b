/-
  The contracts of the document's own written and Text, whatever may be.
-/
import Derived.Test.YtkieljleopbhoaaDoorRWritten
namespace Go.Proofs.YtkieljleopbhoaaDoor.Lex
open Go.ChangeShapes Go.WideShapes Go.ChangeAt Go.RowKit Go.Joins
theorem put_ge (a b : Nat) (s : List UInt8) : s.length ≤ (put a b s).length := by unfold put; split <;> simp; omega
theorem dec_pos (u : Nat) : 1 ≤ (Lib.decDigits u).length := by rw [Lib.decDigits]; split <;> simp
/-- What is written is not empty. -/
theorem wr_pos : ∀ (d M : Nat) (x : Ex) (k : Nat), sz d M x = some k → 1 ≤ (wr x).length
  | 0, M, x, k, h => by simp [sz] at h
  | d + 1, M, x, k, h => by
    obtain ⟨hM, hf, hl⟩ := sz_parts h
    rcases fields_cases hf with ⟨h1, h2, h3⟩ | ⟨h1, h2, h3⟩ | ⟨h1, h2, h3⟩ | ⟨h1, h3⟩ | ⟨h1, h3⟩ | ⟨⟨r, hr⟩, h3⟩
    · rw [wr_leaf (len0 h3), if_pos h1]
      unfold Lib.itoa
      rw [if_neg (by omega)]
      exact dec_pos _
    · rw [wr_leaf (len0 h3), if_neg (by omega), if_pos h1]
      cases x.n == 1 <;> decide
    · rw [wr_leaf (len0 h3), if_neg (by omega), if_neg (by omega), ← Lib.size_eq]
      unfold isName at h2
      simp only [Bool.and_eq_true, decide_eq_true_eq] at h2
      exact h2.1
    · obtain ⟨a, e⟩ := len1 h3
      rw [wr_one e]
      split
      · unfold negW; split <;> simp
      · split <;> simp
    · obtain ⟨a, b, c, e⟩ := len3 h3
      rw [wr_three e]
      simp
    · obtain ⟨a, b, e⟩ := len2 h3
      rw [wr_two e]
      simp only [List.length_append, List.length_cons, List.length_nil]
      omega
theorem neg_yes {Y : ByteArray} (h0 : 0 < Y.size) (h : (((Y[0]'h0).toNat : Int) == 45) = true) : (⟨(negW Y.data.toList).toArray⟩ : ByteArray) = (⟨#[45, 32]⟩ : ByteArray) ++ Y := by
  have hg := getD_get Y 0 h0
  have h45 : Y[0]'h0 = 45 := by apply UInt8.toNat_inj.1; simp at h; show _ = 45; omega
  rw [h45] at hg
  have hp : Lib.hasPrefix Y.data.toList [45] = true := by
    cases hl : Y.data.toList with
    | nil => rw [Lib.size_eq, hl] at h0; simp at h0
    | cons c t => rw [hl] at hg; simp at hg; subst hg; rfl
  unfold negW
  rw [if_pos hp]
  apply ByteArray.ext
  rw [ByteArray.data_append]
  simp
theorem neg_no {Y : ByteArray} (h0 : 0 < Y.size) (h : (((Y[0]'h0).toNat : Int) == 45) = false) : (⟨(negW Y.data.toList).toArray⟩ : ByteArray) = (⟨#[45]⟩ : ByteArray) ++ Y := by
  have hg := getD_get Y 0 h0
  have h45 : Y[0]'h0 ≠ 45 := by intro e; rw [e] at h; exact absurd h (by decide)
  have hp : ¬ Lib.hasPrefix Y.data.toList [45] = true := by
    cases hl : Y.data.toList with
    | nil => rw [Lib.size_eq, hl] at h0; simp at h0
    | cons c t =>
      rw [hl] at hg
      simp at hg
      intro hq
      simp [Lib.hasPrefix, List.isPrefixOf] at hq
      exact h45 (hg.symm.trans hq.symm)
  unfold negW
  rw [if_neg hp]
  apply ByteArray.ext
  rw [ByteArray.data_append]
  simp
theorem j_ref {op : Nat} {r : J} (h : jOf op = some r) (h18 : op ≠ 18) : (r.rank = 3 → r.first = 4) ∧ (r.rank ≠ 3 → r.first = r.rank) ∧ r.second = r.rank + 1 ∧ r.rank ≤ 5 := by
  have : ∀ r ∈ JT, r.op ≠ 18 → (r.rank = 3 → r.first = 4) ∧ (r.rank ≠ 3 → r.first = r.rank) ∧ r.second = r.rank + 1 ∧ r.rank ≤ 5 := by decide
  have h2 : r.op = op := by have := List.find?_some h; simpa using this
  exact this r (List.mem_of_find?_eq_some h) (by omega)
theorem j_then : jOf 18 = some ⟨18, 3, ⟨#[45, 62]⟩, 0, 1, 0⟩ := by rfl
/-- The document's own written. -/
theorem rwr_any : ∀ (d : Nat), RWrC d
  | 0 => by intro x w s M k _ h; simp [sz] at h
  | d + 1 => by
    intro x w s M k hM h hS
    have ih := rwr_any d
    have pl := rpl_of d ih
    have cr := fun W => rank_any x.op W
    obtain ⟨hM1, hf, hl⟩ := sz_parts h
    obtain ⟨ao, cap, _, hs0, hop, hn, hnm, _⟩ := hS.out
    rcases fields_cases hf with ⟨h1, h2, h3⟩ | ⟨h1, h2, h3⟩ | ⟨h1, h2, h3⟩ | ⟨h1, h3⟩ | ⟨h1, h3⟩ | ⟨⟨r, hr⟩, h3⟩
    · rw [wr_leaf (len0 h3), if_pos h1, hs0]
      have hi : Lib.itoa x.n = Lib.decDigits x.n.toNat := by unfold Lib.itoa; rw [if_neg (by omega)]
      rw [hi]
      exact rw_int x w ao cap _ cr (eqN (b := 1) h1) x.n.toNat (by omega) (by omega)
    · rw [wr_leaf (len0 h3), if_neg (by omega), if_pos h1, hs0]
      cases hb : x.n == 1 with
      | true => exact rw_yes x w ao cap _ cr (neN (b := 1) (by omega)) (eqN (b := 2) h1) hb
      | false => exact rw_no x w ao cap _ cr (neN (b := 1) (by omega)) (eqN (b := 2) h1) hb
    · rw [wr_leaf (len0 h3), if_neg (by omega), if_neg (by omega), hs0]
      exact rw_name x w ao cap _ cr (neN (b := 1) (by omega)) (neN (b := 2) (by omega)) (eqN (b := 3) h1)
    · obtain ⟨a, e⟩ := len1 h3
      rw [e] at hl
      obtain ⟨ka, ha, hl⟩ := szL_cons hl
      obtain ⟨bb, o, cap, rfl, hk⟩ := hS.kids (by omega)
      obtain ⟨k0, c0, hs1, hk1⟩ := hk 0 (by omega)
      have e0 : x.args[0]'(by omega) = a := by simp [e]
      rw [e0] at hs1 hk1
      have hk1' : KidAt w bb o a k0 c0 := by simpa using hk1
      have hY := bput (by omega) ha hs1 6
      have c := fun W (hb : Below w.heap.size w W) => pl a W _ _ ka 6 (by omega) (by omega) ha (hs1.keep hb)
      rw [wr_one e, h3]
      by_cases h4 : x.op = 4
      · rw [if_pos h4]
        have hp : 0 < (⟨(put 6 (rkOf a.op) (wr a)).toArray⟩ : ByteArray).size := by
          have := wr_pos d _ a ka ha
          have := put_ge 6 (rkOf a.op) (wr a)
          rw [bsize]; omega
        rcases Bool.eq_false_or_eq_true ((((⟨(put 6 (rkOf a.op) (wr a)).toArray⟩ : ByteArray)[0]'hp).toNat : Int) == 45) with hb | hb
        · have hE := neg_yes hp hb
          rw [show (⟨(put 6 (rkOf a.op) (wr a)).toArray⟩ : ByteArray).data.toList = put 6 (rkOf a.op) (wr a) by simp] at hE
          rw [hE]
          exact rw_neg2 x a w bb o cap k0 c0 _ cr (neN (b := 1) (by omega)) (neN (b := 2) (by omega)) (neN (b := 3) (by omega)) (neN (b := 17) (by omega)) (neN (b := 5) (by omega)) (neN (b := 19) (by omega)) (eqN (b := 4) h4) _ hY hp _ rfl hb hk1' c
        · have hE := neg_no hp hb
          rw [show (⟨(put 6 (rkOf a.op) (wr a)).toArray⟩ : ByteArray).data.toList = put 6 (rkOf a.op) (wr a) by simp] at hE
          rw [hE]
          exact rw_neg1 x a w bb o cap k0 c0 _ cr (neN (b := 1) (by omega)) (neN (b := 2) (by omega)) (neN (b := 3) (by omega)) (neN (b := 17) (by omega)) (neN (b := 5) (by omega)) (neN (b := 19) (by omega)) (eqN (b := 4) h4) _ hY hp _ rfl hb hk1' c
      · rw [if_neg h4]
        by_cases h5 : x.op = 5
        · rw [if_pos h5, ← bapp]
          exact rw_not x a w bb o cap k0 c0 _ cr (neN (b := 1) (by omega)) (neN (b := 2) (by omega)) (neN (b := 3) (by omega)) (neN (b := 17) (by omega)) (eqN (b := 5) h5) _ hY hk1' c
        · rw [if_neg h5, ← bapp]
          exact rw_pre x a w bb o cap k0 c0 _ cr (neN (b := 1) (by omega)) (neN (b := 2) (by omega)) (neN (b := 3) (by omega)) (neN (b := 17) (by omega)) (neN (b := 5) (by omega)) (eqN (b := 19) (by omega)) _ hY hk1' c
    · obtain ⟨a, b, c, e⟩ := len3 h3
      rw [e] at hl
      obtain ⟨ka, ha, hl⟩ := szL_cons hl
      obtain ⟨kb, hb, hl⟩ := szL_cons hl
      obtain ⟨kc, hc, hl⟩ := szL_cons hl
      obtain ⟨bb, o, cap, rfl, hk⟩ := hS.kids (by omega)
      obtain ⟨k0, c0, hs1, hk1⟩ := hk 0 (by omega)
      obtain ⟨k1, c1, hs2, hk2⟩ := hk 1 (by omega)
      obtain ⟨k2, c2, hs3, hk3⟩ := hk 2 (by omega)
      have e0 : x.args[0]'(by omega) = a := by simp [e]
      have e1 : x.args[1]'(by omega) = b := by simp [e]
      have e2 : x.args[2]'(by omega) = c := by simp [e]
      rw [e0] at hs1 hk1
      rw [e1] at hs2 hk2
      rw [e2] at hs3 hk3
      have q1 := fun W (hb : Below w.heap.size w W) => pl a W _ _ ka 0 (by omega) (by omega) ha (hs1.keep hb)
      have q2 := fun W (hb' : Below w.heap.size w W) => pl b W _ _ kb 0 (by omega) (by omega) hb (hs2.keep hb')
      have q3 := fun W (hb : Below w.heap.size w W) => pl c W _ _ kc 0 (by omega) (by omega) hc (hs3.keep hb)
      rw [wr_three e, h3, ← bapp, ← bapp, ← bapp, ← bapp, ← bapp]
      exact rw_if x a b c w bb o cap k0 k1 k2 c0 c1 c2 _ cr (neN (b := 1) (by omega)) (neN (b := 2) (by omega)) (neN (b := 3) (by omega)) (eqN (b := 17) h1) _ _ _
        (bput (by omega) ha hs1 0) (bput (by omega) hb hs2 0) (bput (by omega) hc hs3 0) ⟨by simpa using hk1, by simpa using hk2, by simpa using hk3⟩ q1 q2 q3
    · obtain ⟨a, b, e⟩ := len2 h3
      rw [e] at hl
      obtain ⟨ka, ha, hl⟩ := szL_cons hl
      obtain ⟨kb, hb, hl⟩ := szL_cons hl
      obtain ⟨bb, o, cap, rfl, hk⟩ := hS.kids (by omega)
      obtain ⟨k0, c0, hs1, hk1⟩ := hk 0 (by omega)
      obtain ⟨k1, c1, hs2, hk2⟩ := hk 1 (by omega)
      have e0 : x.args[0]'(by omega) = a := by simp [e]
      have e1 : x.args[1]'(by omega) = b := by simp [e]
      rw [e0] at hs1 hk1
      rw [e1] at hs2 hk2
      obtain ⟨_, hj1, hj2, hj3⟩ := j_len hr
      have hrng := jOf_range hr
      have q1 := fun W (hb : Below w.heap.size w W) => pl a W _ _ ka r.first (by omega) hj1 ha (hs1.keep hb)
      have q2 := fun W (hb' : Below w.heap.size w W) => pl b W _ _ kb r.second (by omega) hj2 hb (hs2.keep hb')
      have y1 := bput (by omega) ha hs1 r.first
      have y2 := bput (by omega) hb hs2 r.second
      have ht : (⟨r.text.data.toList.toArray⟩ : ByteArray) = r.text := by simp
      rw [wr_two e, h3, hr]
      simp only [Option.getD_some]
      by_cases h18 : x.op = 18
      · rw [h18, j_then] at hr
        injection hr with hr
        subst hr
        have hG : (⟨(put 1 (rkOf a.op) (wr a) ++ [32] ++ (⟨#[45, 62]⟩ : ByteArray).data.toList ++ [32] ++ put 0 (rkOf b.op) (wr b)).toArray⟩ : ByteArray) = (⟨(put 1 (rkOf a.op) (wr a)).toArray⟩ : ByteArray) ++ (⟨#[32, 45, 62, 32]⟩ : ByteArray) ++ (⟨(put 0 (rkOf b.op) (wr b)).toArray⟩ : ByteArray) := by
          apply ByteArray.ext
          rw [ByteArray.data_append, ByteArray.data_append]
          simp
        rw [hG]
        exact rw_then x a b w bb o cap k0 k1 c0 c1 _ cr (neN (b := 1) (by omega)) (neN (b := 2) (by omega)) (neN (b := 3) (by omega)) (neN (b := 17) (by omega)) (neN (b := 5) (by omega)) (neN (b := 19) (by omega)) (neN (b := 4) (by omega)) (eqN (b := 18) h18) _ _ y1 y2 ⟨by simpa using hk1, by simpa using hk2⟩ q1 q2
      · obtain ⟨r3, rn3, rs, r5⟩ := j_ref hr h18
        have hrk : rkOf x.op = r.rank := by unfold rkOf; rw [hr]
        rw [hrk] at cr
        have q0 := fun W (hb : Below w.heap.size w W) => sign_of x.op r hr W
        have hw : IntKind.i64.wrap ((r.rank : Int) + 1) = (r.rank : Int) + 1 := wrap_id (by omega) (by omega)
        have hs2' : ((r.second : Nat) : Int) = (r.rank : Int) + 1 := by omega
        rw [hs2'] at q2
        rw [← bapp, ← bapp, ← bapp, ← bapp, ht]
        by_cases h33 : r.rank = 3
        · have hf' : ((r.first : Nat) : Int) = 4 := by have := r3 h33; omega
          rw [hf'] at q1
          exact rw_cmp x a b w bb o cap k0 k1 c0 c1 _ cr (by simp [h33]) (by omega) (by omega) hw (neN (b := 1) (by omega)) (neN (b := 2) (by omega)) (neN (b := 3) (by omega)) (neN (b := 17) (by omega)) (neN (b := 5) (by omega)) (neN (b := 19) (by omega)) (neN (b := 4) (by omega)) (neN (b := 18) h18) r.text hj3 _ _ y1 y2 ⟨by simpa using hk1, by simpa using hk2⟩ q0 q1 q2
        · have hf' : ((r.first : Nat) : Int) = (r.rank : Int) := by have := rn3 h33; omega
          rw [hf'] at q1
          exact rw_join x a b w bb o cap k0 k1 c0 c1 _ cr (by simp; omega) (by omega) (by omega) hw (neN (b := 1) (by omega)) (neN (b := 2) (by omega)) (neN (b := 3) (by omega)) (neN (b := 17) (by omega)) (neN (b := 5) (by omega)) (neN (b := 19) (by omega)) (neN (b := 4) (by omega)) (neN (b := 18) h18) r.text hj3 _ _ y1 y2 ⟨by simpa using hk1, by simpa using hk2⟩ q0 q1 q2
set_option maxRecDepth 100000 in
/-- The document's own Text. -/
theorem rtext (x : Ex) (w : World) (s : Value) (hS : St w x s) : Calls Tryd.prog 10 #[exV x s] w fun e w' => e = .returned (.tuple #[.string ⟨(txt x).toArray⟩, .int .i64 (txtE x)]) ∧ Below w.heap.size w w' := by
  obtain ⟨ao, cap, sl, rfl, _⟩ := hS.out
  have b1 := (Below.refl w.heap.size w).alloc (Nat.le_refl _) (.cells #[.int .u8 (x.op : Int), .int .i64 x.n, .string x.name, .slice ao x.args.length cap] 25)
  have c := rcheck x _ _ (hS.keep b1)
  have B1 := hid b1
  have bx := fun j v => box_at w #[.int .u8 (x.op : Int), .int .i64 x.n, .string x.name, .slice ao x.args.length cap] 25 j v
  unfold txt txtE
  cases hk : chk x with
  | false =>
    rw [hk] at c
    simp only [Bool.false_eq_true, if_false]
    clear hS b1 bx hk
    go_enter Tryd.func10, Tryd.ntmps10
    go_wp2_with (go_at_call 12; refine c.mono ?_; rintro e w2 ⟨rfl, hb2⟩)
    go_ret2
    exact ⟨rfl, bstep B1.out hb2⟩
  | true =>
    rw [hk] at c
    simp only [if_true]
    obtain ⟨k, hz⟩ : ∃ k, sz 32 200 x = some k := by unfold chk at hk; exact Option.isSome_iff_exists.1 hk
    have cw := fun W (hb : Below w.heap.size w W) => rwr_any 32 x W _ 200 k (by omega) hz (hS.keep hb)
    generalize (⟨(wr x).toArray⟩ : ByteArray) = X at *
    clear hS b1 hk hz
    go_enter Tryd.func10, Tryd.ntmps10
    go_wp2_with (first
      | (go_at_call 12; refine c.mono ?_; rintro e w2 ⟨rfl, hb2⟩; have y0 := cell_kept (bx 0 _ rfl) hb2; have y1 := cell_kept (bx 1 _ rfl) hb2; have y2 := cell_kept (bx 2 _ rfl) hb2; have y3 := cell_kept (bx 3 _ rfl) hb2; have B2 := hid (bstep B1.out hb2); clear hb2 bx c)
      | (go_at_call 26; refine (cw _ B2.out).mono ?_; rintro e w3 ⟨rfl, hb3⟩; have B3 := hid (bstep B2.out hb3); clear hb3 cw))
    go_ret2
    exact ⟨rfl, B3.out⟩
end Go.Proofs.YtkieljleopbhoaaDoor.Lex
