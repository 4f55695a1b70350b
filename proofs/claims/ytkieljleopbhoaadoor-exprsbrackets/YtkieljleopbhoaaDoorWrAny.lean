/-
  The contracts of written and Text, whatever may be.
-/
import Derived.Test.YtkieljleopbhoaaDoorWritten
namespace Go.Proofs.YtkieljleopbhoaaDoor.Lex
open Go.ChangeShapes Go.WideShapes Go.ChangeAt Go.RowKit Go.Joins
theorem bput {d M k : Nat} {a : Ex} {w : World} {s : Value} (hM : M ≤ 200) (h : sz d M a = some k) (hS : St w a s) (r : Nat) : (⟨(put r (rkOf a.op) (wr a)).toArray⟩ : ByteArray).size ≤ 13100 := by
  have h1 := wr_len d M a k w s h hS
  have h2 := (sz_le _ _ _ _ h).2
  have h3 := put_len r (rkOf a.op) (wr a)
  rw [bsize]; omega
theorem opsNe {op : Nat} (k : Nat) (h : ¬ op = k) : ((op : Int) == (k : Int)) = false := neN h
theorem jOf_range {op : Nat} {r : J} (h : jOf op = some r) : (6 ≤ op ∧ op ≤ 16) ∨ op = 18 := by
  have : ∀ r ∈ JT, (6 ≤ r.op ∧ r.op ≤ 16) ∨ r.op = 18 := by decide
  have h1 := this r (List.mem_of_find?_eq_some h)
  have h2 : r.op = op := by have := List.find?_some h; simpa using this
  rw [h2] at h1
  exact h1
/-- written. -/
theorem wr_any : ∀ (d : Nat), WrC d
  | 0 => by intro x w s M k _ h; simp [sz] at h
  | d + 1 => by
    intro x w s M k hM h hS hE
    have ih := wr_any d
    have pl := pl_of d ih
    obtain ⟨hM1, hf, hl⟩ := sz_parts h
    obtain ⟨ao, cap, _, hs0, hop, hn, hnm, _⟩ := hS.out
    rcases fields_cases hf with ⟨h1, h2, h3⟩ | ⟨h1, h2, h3⟩ | ⟨h1, h2, h3⟩ | ⟨h1, h3⟩ | ⟨h1, h3⟩ | ⟨⟨r, hr⟩, h3⟩
    · rw [wr_leaf (len0 h3), if_pos h1, hs0]
      exact wr_int x w ao cap (eqN (b := 1) h1) hn.1 hn.2 hE.pow
    · rw [wr_leaf (len0 h3), if_neg (by omega), if_pos h1, hs0]
      exact wr_bool x w ao cap (neN (b := 1) (by omega)) (eqN (b := 2) h1)
    · rw [wr_leaf (len0 h3), if_neg (by omega), if_neg (by omega), hs0]
      have hl := name_len h2
      exact wr_name x w ao cap (neN (b := 1) (by omega)) (neN (b := 2) (by omega)) (eqN (b := 3) h1) (by omega)
    · obtain ⟨a, e⟩ := len1 h3
      rw [e] at hl
      obtain ⟨ka, ha, hl⟩ := szL_cons hl
      obtain ⟨bb, o, cap, rfl, hk⟩ := hS.kids (by omega)
      obtain ⟨k0, c0, hs1, hk1⟩ := hk 0 (by omega)
      have e0 : x.args[0]'(by omega) = a := by simp [e]
      rw [e0] at hs1 hk1
      have hk1' : KidAt w bb o a k0 c0 := by simpa using hk1
      have hY := bput (by omega) ha hs1 6
      have c := fun W (hb : Below w.heap.size w W) => pl a W _ _ ka 6 (by omega) (by omega) ha (hs1.keep hb) (hE.below hb)
      rw [wr_one e, h3]
      by_cases h4 : x.op = 4
      · rw [if_pos h4]
        exact wr_neg x a w bb o cap k0 c0 (neN (b := 1) (by omega)) (neN (b := 2) (by omega)) (neN (b := 3) (by omega)) (eqN (b := 4) h4) _ hY hk1' c
      · rw [if_neg h4]
        by_cases h5 : x.op = 5
        · rw [if_pos h5, ← bapp]
          exact wr_not x a w bb o cap k0 c0 (neN (b := 1) (by omega)) (neN (b := 2) (by omega)) (neN (b := 3) (by omega)) (neN (b := 4) (by omega)) (eqN (b := 5) h5) _ hY hk1' c
        · rw [if_neg h5, ← bapp]
          exact wr_pre x a w bb o cap k0 c0 (neN (b := 1) (by omega)) (neN (b := 2) (by omega)) (neN (b := 3) (by omega)) (neN (b := 4) (by omega)) (neN (b := 5) (by omega)) (eqN (b := 19) (by omega)) _ hY hk1' c
    · obtain ⟨a, b, c, e⟩ := len3 h3
      rw [e] at hl
      obtain ⟨ka, ha, hl⟩ := szL_cons hl
      obtain ⟨kb, hb, hl⟩ := szL_cons hl
      obtain ⟨kc, hc, hl⟩ := szL_cons hl
      obtain ⟨bb, o, cap, rfl, hk⟩ := hS.kids (by omega)
      obtain ⟨k0, c0, hs1, hk1⟩ := hk 0 (by omega)
      obtain ⟨k1, c1, hs2, hk2⟩ := hk 1 (by omega)
      obtain ⟨k2, c2, hs3, hk3⟩ := hk 2 (by omega)
      have e0 : x.args[0]'(by omega) = a := by simp [e]
      have e1 : x.args[1]'(by omega) = b := by simp [e]
      have e2 : x.args[2]'(by omega) = c := by simp [e]
      rw [e0] at hs1 hk1
      rw [e1] at hs2 hk2
      rw [e2] at hs3 hk3
      have q1 := fun W (hb : Below w.heap.size w W) => pl a W _ _ ka 0 (by omega) (by omega) ha (hs1.keep hb) (hE.below hb)
      have q2 := fun W (hb' : Below w.heap.size w W) => pl b W _ _ kb 0 (by omega) (by omega) hb (hs2.keep hb') (hE.below hb')
      have q3 := fun W (hb : Below w.heap.size w W) => pl c W _ _ kc 0 (by omega) (by omega) hc (hs3.keep hb) (hE.below hb)
      rw [wr_three e, h3, ← bapp, ← bapp, ← bapp, ← bapp, ← bapp]
      exact wr_if x a b c w bb o cap k0 k1 k2 c0 c1 c2 (neN (b := 1) (by omega)) (neN (b := 2) (by omega)) (neN (b := 3) (by omega)) (neN (b := 4) (by omega)) (neN (b := 5) (by omega)) (neN (b := 19) (by omega)) (eqN (b := 17) h1) _ _ _
        (bput (by omega) ha hs1 0) (bput (by omega) hb hs2 0) (bput (by omega) hc hs3 0) ⟨by simpa using hk1, by simpa using hk2, by simpa using hk3⟩ q1 q2 q3
    · obtain ⟨a, b, e⟩ := len2 h3
      rw [e] at hl
      obtain ⟨ka, ha, hl⟩ := szL_cons hl
      obtain ⟨kb, hb, hl⟩ := szL_cons hl
      obtain ⟨bb, o, cap, rfl, hk⟩ := hS.kids (by omega)
      obtain ⟨k0, c0, hs1, hk1⟩ := hk 0 (by omega)
      obtain ⟨k1, c1, hs2, hk2⟩ := hk 1 (by omega)
      have e0 : x.args[0]'(by omega) = a := by simp [e]
      have e1 : x.args[1]'(by omega) = b := by simp [e]
      rw [e0] at hs1 hk1
      rw [e1] at hs2 hk2
      obtain ⟨_, hj1, hj2, hj3⟩ := j_len hr
      have hrng := jOf_range hr
      have q0 : ∀ W, Below w.heap.size w W → Calls Tryd.prog 43 #[.int .u8 (x.op : Int)] W fun e w' => e = .returned (.tuple #[.agg #[.int .u8 (r.op : Int), .int .u8 (r.kind : Int), .string r.text, .int .i64 (r.rank : Int), .int .i64 (r.first : Int), .int .i64 (r.second : Int)], .bool true]) ∧ Below W.heap.size W w' := fun W hb => by
        have := joinOf x.op W (hE.joins.below hb)
        unfold jOut jrow at this
        rw [hr] at this
        exact this
      have q1 := fun W (hb : Below w.heap.size w W) => pl a W _ _ ka r.first (by omega) hj1 ha (hs1.keep hb) (hE.below hb)
      have q2 := fun W (hb' : Below w.heap.size w W) => pl b W _ _ kb r.second (by omega) hj2 hb (hs2.keep hb') (hE.below hb')
      have ht : (⟨r.text.data.toList.toArray⟩ : ByteArray) = r.text := by simp
      rw [wr_two e, h3, hr]
      simp only [Option.getD_some]
      rw [← bapp, ← bapp, ← bapp, ← bapp, ht]
      exact wr_join x a b w bb o cap k0 k1 c0 c1 (neN (b := 1) (by omega)) (neN (b := 2) (by omega)) (neN (b := 3) (by omega)) (neN (b := 4) (by omega)) (neN (b := 5) (by omega)) (neN (b := 19) (by omega)) (neN (b := 17) (by omega)) r hj3 _ _
        (bput (by omega) ha hs1 _) (bput (by omega) hb hs2 _) ⟨by simpa using hk1, by simpa using hk2⟩ q0 q1 q2
/-- What Text answers. -/
def txt (x : Ex) : List UInt8 := if chk x then wr x else []
def txtE (x : Ex) : Int := if chk x then 0 else 1
set_option maxRecDepth 100000 in
/-- Text. -/
theorem text (x : Ex) (w : World) (s : Value) (hS : St w x s) (hE : Env w) : Calls Tryd.prog 9 #[exV x s] w fun e w' => e = .returned (.tuple #[.string ⟨(txt x).toArray⟩, .int .i64 (txtE x)]) ∧ Below w.heap.size w w' := by
  obtain ⟨ao, cap, sl, rfl, _⟩ := hS.out
  have b1 := (Below.refl w.heap.size w).alloc (Nat.le_refl _) (.cells #[.int .u8 (x.op : Int), .int .i64 x.n, .string x.name, .slice ao x.args.length cap] 25)
  have c := check x _ _ (hS.keep b1) (hE.below b1).res (hE.below b1).joins
  have B1 := hid b1
  have bx := fun j v => box_at w #[.int .u8 (x.op : Int), .int .i64 x.n, .string x.name, .slice ao x.args.length cap] 25 j v
  unfold txt txtE
  cases hk : chk x with
  | false =>
    rw [hk] at c
    simp only [Bool.false_eq_true, if_false]
    clear hS hE b1 bx hk
    go_enter Tryd.func9, Tryd.ntmps9
    go_wp2_with (go_at_call 11; refine c.mono ?_; rintro e w2 ⟨rfl, hb2⟩)
    go_ret2
    exact ⟨rfl, bstep B1.out hb2⟩
  | true =>
    rw [hk] at c
    simp only [if_true]
    obtain ⟨k, hz⟩ : ∃ k, sz 32 200 x = some k := by unfold chk at hk; exact Option.isSome_iff_exists.1 hk
    have cw := fun W (hb : Below w.heap.size w W) => wr_any 32 x W _ 200 k (by omega) hz (hS.keep hb) (hE.below hb)
    generalize (⟨(wr x).toArray⟩ : ByteArray) = X at *
    clear hS hE b1 hk hz
    go_enter Tryd.func9, Tryd.ntmps9
    go_wp2_with (first
      | (go_at_call 11; refine c.mono ?_; rintro e w2 ⟨rfl, hb2⟩; have y0 := cell_kept (bx 0 _ rfl) hb2; have y1 := cell_kept (bx 1 _ rfl) hb2; have y2 := cell_kept (bx 2 _ rfl) hb2; have y3 := cell_kept (bx 3 _ rfl) hb2; have B2 := hid (bstep B1.out hb2); clear hb2 bx c)
      | (go_at_call 25; refine (cw _ B2.out).mono ?_; rintro e w3 ⟨rfl, hb3⟩; have B3 := hid (bstep B2.out hb3); clear hb3 cw))
    go_ret2
    exact ⟨rfl, B3.out⟩
end Go.Proofs.YtkieljleopbhoaaDoor.Lex
