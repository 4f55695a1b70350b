/-
  The contracts of written and Text, whatever may be.
  Whatever may be is read where its tokens stand.
  Plain mathematics: two texts with a line's end between have the tokens of both.
  The tokens of what is written are those that it is written by.
  What is written is read again, all of it.
  What holds while Read goes through a text.
  How far Read has come in a text.
  Read: the tokens of a text.
  A text, all of it, as what is worked out: the contract of read.
  Whether two are the same: the contracts of SameExprs and SameExpr, of one with itself.
  A text says what is written so: the contract of is, where it does; of name, of.
-/
import Derived.Test.YtkieljleopbhoaaDoorU5
import Derived.Test.YtkieljleopbhoaaDoorU4
import Derived.Test.YtkieljleopbhoaaDoorU1
import Derived.WalkSmall
import Derived.Maps.AppendAt
import Derived.Laws.OwnMore
import Derived.WalkMore
import Derived.Test.YtkieljleopbhoaaDoorU2
namespace Go.Proofs.YtkieljleopbhoaaDoor.Lex
open Go.ChangeShapes Go.WideShapes Go.ChangeAt Go.RowKit Go.Joins
theorem bput {d M k : Nat} {a : Ex} {w : World} {s : Value} (hM : M ≤ 200) (h : sz d M a = some k) (hS : St w a s) (r : Nat) : (⟨(put r (rkOf a.op) (wr a)).toArray⟩ : ByteArray).size ≤ 13100 := by
  have h1 := wr_len d M a k w s h hS
  have h2 := (sz_le _ _ _ _ h).2
  have h3 := put_len r (rkOf a.op) (wr a)
  rw [bsize]; omega
theorem opsNe {op : Nat} (k : Nat) (h : ¬ op = k) : ((op : Int) == (k : Int)) = false := neN h
theorem jOf_range {op : Nat} {r : J} (h : jOf op = some r) : (6 ≤ op ∧ op ≤ 16) ∨ op = 18 := by
  have : ∀ r ∈ JT, (6 ≤ r.op ∧ r.op ≤ 16) ∨ r.op = 18 := by decide
  have h1 := this r (List.mem_of_find?_eq_some h)
  have h2 : r.op = op := by have := List.find?_some h; simpa using this
  rw [h2] at h1
  exact h1
/-- written. -/
theorem wr_any : ∀ (d : Nat), WrC d
  | 0 => by intro x w s M k _ h; simp [sz] at h
  | d + 1 => by
    intro x w s M k hM h hS hE
    have ih := wr_any d
    have pl := pl_of d ih
    obtain ⟨hM1, hf, hl⟩ := sz_parts h
    obtain ⟨ao, cap, _, hs0, hop, hn, hnm, _⟩ := hS.out
    rcases fields_cases hf with ⟨h1, h2, h3⟩ | ⟨h1, h2, h3⟩ | ⟨h1, h2, h3⟩ | ⟨h1, h3⟩ | ⟨h1, h3⟩ | ⟨⟨r, hr⟩, h3⟩
    · rw [wr_leaf (len0 h3), if_pos h1, hs0]
      exact wr_int x w ao cap (eqN (b := 1) h1) hn.1 hn.2 hE.pow
    · rw [wr_leaf (len0 h3), if_neg (by omega), if_pos h1, hs0]
      exact wr_bool x w ao cap (neN (b := 1) (by omega)) (eqN (b := 2) h1)
    · rw [wr_leaf (len0 h3), if_neg (by omega), if_neg (by omega), hs0]
      have hl := name_len h2
      exact wr_name x w ao cap (neN (b := 1) (by omega)) (neN (b := 2) (by omega)) (eqN (b := 3) h1) (by omega)
    · obtain ⟨a, e⟩ := len1 h3
      rw [e] at hl
      obtain ⟨ka, ha, hl⟩ := szL_cons hl
      obtain ⟨bb, o, cap, rfl, hk⟩ := hS.kids (by omega)
      obtain ⟨k0, c0, hs1, hk1⟩ := hk 0 (by omega)
      have e0 : x.args[0]'(by omega) = a := by simp [e]
      rw [e0] at hs1 hk1
      have hk1' : KidAt w bb o a k0 c0 := by simpa using hk1
      have hY := bput (by omega) ha hs1 6
      have c := fun W (hb : Below w.heap.size w W) => pl a W _ _ ka 6 (by omega) (by omega) ha (hs1.keep hb) (hE.below hb)
      rw [wr_one e, h3]
      by_cases h4 : x.op = 4
      · rw [if_pos h4]
        exact wr_neg x a w bb o cap k0 c0 (neN (b := 1) (by omega)) (neN (b := 2) (by omega)) (neN (b := 3) (by omega)) (eqN (b := 4) h4) _ hY hk1' c
      · rw [if_neg h4]
        by_cases h5 : x.op = 5
        · rw [if_pos h5, ← bapp]
          exact wr_not x a w bb o cap k0 c0 (neN (b := 1) (by omega)) (neN (b := 2) (by omega)) (neN (b := 3) (by omega)) (neN (b := 4) (by omega)) (eqN (b := 5) h5) _ hY hk1' c
        · rw [if_neg h5, ← bapp]
          exact wr_pre x a w bb o cap k0 c0 (neN (b := 1) (by omega)) (neN (b := 2) (by omega)) (neN (b := 3) (by omega)) (neN (b := 4) (by omega)) (neN (b := 5) (by omega)) (eqN (b := 19) (by omega)) _ hY hk1' c
    · obtain ⟨a, b, c, e⟩ := len3 h3
      rw [e] at hl
      obtain ⟨ka, ha, hl⟩ := szL_cons hl
      obtain ⟨kb, hb, hl⟩ := szL_cons hl
      obtain ⟨kc, hc, hl⟩ := szL_cons hl
      obtain ⟨bb, o, cap, rfl, hk⟩ := hS.kids (by omega)
      obtain ⟨k0, c0, hs1, hk1⟩ := hk 0 (by omega)
      obtain ⟨k1, c1, hs2, hk2⟩ := hk 1 (by omega)
      obtain ⟨k2, c2, hs3, hk3⟩ := hk 2 (by omega)
      have e0 : x.args[0]'(by omega) = a := by simp [e]
      have e1 : x.args[1]'(by omega) = b := by simp [e]
      have e2 : x.args[2]'(by omega) = c := by simp [e]
      rw [e0] at hs1 hk1
      rw [e1] at hs2 hk2
      rw [e2] at hs3 hk3
      have q1 := fun W (hb : Below w.heap.size w W) => pl a W _ _ ka 0 (by omega) (by omega) ha (hs1.keep hb) (hE.below hb)
      have q2 := fun W (hb' : Below w.heap.size w W) => pl b W _ _ kb 0 (by omega) (by omega) hb (hs2.keep hb') (hE.below hb')
      have q3 := fun W (hb : Below w.heap.size w W) => pl c W _ _ kc 0 (by omega) (by omega) hc (hs3.keep hb) (hE.below hb)
      rw [wr_three e, h3, ← bapp, ← bapp, ← bapp, ← bapp, ← bapp]
      exact wr_if x a b c w bb o cap k0 k1 k2 c0 c1 c2 (neN (b := 1) (by omega)) (neN (b := 2) (by omega)) (neN (b := 3) (by omega)) (neN (b := 4) (by omega)) (neN (b := 5) (by omega)) (neN (b := 19) (by omega)) (eqN (b := 17) h1) _ _ _
        (bput (by omega) ha hs1 0) (bput (by omega) hb hs2 0) (bput (by omega) hc hs3 0) ⟨by simpa using hk1, by simpa using hk2, by simpa using hk3⟩ q1 q2 q3
    · obtain ⟨a, b, e⟩ := len2 h3
      rw [e] at hl
      obtain ⟨ka, ha, hl⟩ := szL_cons hl
      obtain ⟨kb, hb, hl⟩ := szL_cons hl
      obtain ⟨bb, o, cap, rfl, hk⟩ := hS.kids (by omega)
      obtain ⟨k0, c0, hs1, hk1⟩ := hk 0 (by omega)
      obtain ⟨k1, c1, hs2, hk2⟩ := hk 1 (by omega)
      have e0 : x.args[0]'(by omega) = a := by simp [e]
      have e1 : x.args[1]'(by omega) = b := by simp [e]
      rw [e0] at hs1 hk1
      rw [e1] at hs2 hk2
      obtain ⟨_, hj1, hj2, hj3⟩ := j_len hr
      have hrng := jOf_range hr
      have q0 : ∀ W, Below w.heap.size w W → Calls Tryd.prog 43 #[.int .u8 (x.op : Int)] W fun e w' => e = .returned (.tuple #[.agg #[.int .u8 (r.op : Int), .int .u8 (r.kind : Int), .string r.text, .int .i64 (r.rank : Int), .int .i64 (r.first : Int), .int .i64 (r.second : Int)], .bool true]) ∧ Below W.heap.size W w' := fun W hb => by
        have := joinOf x.op W (hE.joins.below hb)
        unfold jOut jrow at this
        rw [hr] at this
        exact this
      have q1 := fun W (hb : Below w.heap.size w W) => pl a W _ _ ka r.first (by omega) hj1 ha (hs1.keep hb) (hE.below hb)
      have q2 := fun W (hb' : Below w.heap.size w W) => pl b W _ _ kb r.second (by omega) hj2 hb (hs2.keep hb') (hE.below hb')
      have ht : (⟨r.text.data.toList.toArray⟩ : ByteArray) = r.text := by simp
      rw [wr_two e, h3, hr]
      simp only [Option.getD_some]
      rw [← bapp, ← bapp, ← bapp, ← bapp, ht]
      exact wr_join x a b w bb o cap k0 k1 c0 c1 (neN (b := 1) (by omega)) (neN (b := 2) (by omega)) (neN (b := 3) (by omega)) (neN (b := 4) (by omega)) (neN (b := 5) (by omega)) (neN (b := 19) (by omega)) (neN (b := 17) (by omega)) r hj3 _ _
        (bput (by omega) ha hs1 _) (bput (by omega) hb hs2 _) ⟨by simpa using hk1, by simpa using hk2⟩ q0 q1 q2
/-- What Text answers. -/
def txt (x : Ex) : List UInt8 := if chk x then wr x else []
def txtE (x : Ex) : Int := if chk x then 0 else 1
set_option maxRecDepth 100000 in
/-- Text. -/
theorem text (x : Ex) (w : World) (s : Value) (hS : St w x s) (hE : Env w) : Calls Tryd.prog 9 #[exV x s] w fun e w' => e = .returned (.tuple #[.string ⟨(txt x).toArray⟩, .int .i64 (txtE x)]) ∧ Below w.heap.size w w' := by
  obtain ⟨ao, cap, sl, rfl, _⟩ := hS.out
  have b1 := (Below.refl w.heap.size w).alloc (Nat.le_refl _) (.cells #[.int .u8 (x.op : Int), .int .i64 x.n, .string x.name, .slice ao x.args.length cap] 25)
  have c := check x _ _ (hS.keep b1) (hE.below b1).res (hE.below b1).joins
  have B1 := hid b1
  have bx := fun j v => box_at w #[.int .u8 (x.op : Int), .int .i64 x.n, .string x.name, .slice ao x.args.length cap] 25 j v
  unfold txt txtE
  cases hk : chk x with
  | false =>
    rw [hk] at c
    simp only [Bool.false_eq_true, if_false]
    clear hS hE b1 bx hk
    go_enter Tryd.func9, Tryd.ntmps9
    go_wp2_with (go_at_call 11; refine c.mono ?_; rintro e w2 ⟨rfl, hb2⟩)
    go_ret2
    exact ⟨rfl, bstep B1.out hb2⟩
  | true =>
    rw [hk] at c
    simp only [if_true]
    obtain ⟨k, hz⟩ : ∃ k, sz 32 200 x = some k := by unfold chk at hk; exact Option.isSome_iff_exists.1 hk
    have cw := fun W (hb : Below w.heap.size w W) => wr_any 32 x W _ 200 k (by omega) hz (hS.keep hb) (hE.below hb)
    generalize (⟨(wr x).toArray⟩ : ByteArray) = X at *
    clear hS hE b1 hk hz
    go_enter Tryd.func9, Tryd.ntmps9
    go_wp2_with (first
      | (go_at_call 11; refine c.mono ?_; rintro e w2 ⟨rfl, hb2⟩; have y0 := cell_kept (bx 0 _ rfl) hb2; have y1 := cell_kept (bx 1 _ rfl) hb2; have y2 := cell_kept (bx 2 _ rfl) hb2; have y3 := cell_kept (bx 3 _ rfl) hb2; have B2 := hid (bstep B1.out hb2); clear hb2 bx c)
      | (go_at_call 25; refine (cw _ B2.out).mono ?_; rintro e w3 ⟨rfl, hb3⟩; have B3 := hid (bstep B2.out hb3); clear hb3 cw))
    go_ret2
    exact ⟨rfl, B3.out⟩
end Go.Proofs.YtkieljleopbhoaaDoor.Lex
namespace Go.Proofs.YtkieljleopbhoaaDoor.Lex
open Go.RowKit
theorem dec_dig : ∀ (u : Nat), Lib.decDigits u = dig u := by
  refine dig_ind (fun k h => ?_) (fun k h ih => ?_)
  · rw [Lib.decDigits, dif_pos h, dig_small h]; rfl
  · rw [Lib.decDigits, dif_neg h, dig_big h, ih]; rfl
theorem itoa_dig {n : Int} (h : 0 ≤ n) : Lib.itoa n = dig n.toNat := by
  unfold Lib.itoa
  rw [if_neg (by omega), dec_dig]
theorem fields_more {op : Nat} {n : Int} {nm : ByteArray} {len : Nat} (h : fieldsOk op n nm len = true) : (op ≠ 3 → nm.size = 0) ∧ (op ≠ 1 → op ≠ 2 → n = 0) := by
  unfold fieldsOk at h
  split at h
  · simp only [Bool.and_eq_true, decide_eq_true_eq] at h; exact ⟨fun _ => h.2.1, fun e => by omega⟩
  · split at h
    · simp only [Bool.and_eq_true, decide_eq_true_eq] at h; exact ⟨fun _ => h.2.1, fun _ e => by omega⟩
    · split at h
      · simp only [Bool.and_eq_true, decide_eq_true_eq] at h; exact ⟨fun e => by omega, fun _ _ => h.1⟩
      · simp only [Bool.and_eq_true, decide_eq_true_eq] at h; exact ⟨fun _ => h.2.2.1, fun _ _ => h.2.1⟩
theorem size0 {s : ByteArray} (h : s.size = 0) : s = ByteArray.empty := by
  obtain ⟨⟨l⟩⟩ := s
  have : l = [] := List.eq_nil_of_length_eq_zero h
  subst this
  rfl
theorem name_res {nm : ByteArray} (h : isName nm = true) (k : Nat) (hk : k < 17) : isMk ⟨1, nm⟩ 1 (resS k) = false := by
  cases e : isMk ⟨1, nm⟩ 1 (resS k) with
  | false => rfl
  | true =>
    have h1 := (isMk_yes e).2
    have h2 := isRes_true (s := nm) k hk (by simp only [beq_iff_eq]; exact h1.symm)
    unfold isName at h
    simp [h2] at h
theorem atom_name {ts : List Mark} {p : Nat} {nm : ByteArray} (hm : markAt ts p = ⟨1, nm⟩) (hn : isName nm = true) : atomR ts (P ts) p = .ok (⟨3, 0, nm, []⟩, p + 1) := by
  have a0 : isMk ⟨1, nm⟩ 1 (sgn [116, 114, 117, 101]) = false := name_res hn 13 (by omega)
  have a1 : isMk ⟨1, nm⟩ 1 (sgn [102, 97, 108, 115, 101]) = false := name_res hn 14 (by omega)
  have a2 : isMk ⟨1, nm⟩ 1 (sgn [110, 111, 116]) = false := name_res hn 12 (by omega)
  have a3 : isMk ⟨1, nm⟩ 1 (sgn [112, 114, 101]) = false := name_res hn 9 (by omega)
  have b0 : isMk ⟨1, nm⟩ 3 (sgn [40]) = false := mk_no _ _ _ (by show (1 : Nat) ≠ 3; omega)
  have b1 : isMk ⟨1, nm⟩ 3 (sgn [45]) = false := mk_no _ _ _ (by show (1 : Nat) ≠ 3; omega)
  unfold atomR
  simp only
  rw [hm, a0, a1, a2, a3, b0, b1]
  simp [hn]
theorem atom_num {ts : List Mark} {p : Nat} {s : ByteArray} (hm : markAt ts p = ⟨2, s⟩) (hn : numE s = 0) : atomR ts (P ts) p = .ok (⟨1, numN s, ByteArray.empty, []⟩, p + 1) := by
  have a : ∀ k t, k ≠ 2 → isMk ⟨2, s⟩ k t = false := fun k t hk => mk_no _ _ _ (fun e => hk e.symm)
  unfold atomR
  simp only
  rw [hm, a _ _ (by omega), a _ _ (by omega), a _ _ (by omega), a _ _ (by omega), a _ _ (by omega), a _ _ (by omega)]
  simp [hn]
theorem atom_bool {ts : List Mark} {p : Nat} {b : Bool} (hm : markAt ts p = ⟨1, ⟨(yesNo b).toArray⟩⟩) : atomR ts (P ts) p = .ok (⟨2, if b then 1 else 0, ByteArray.empty, []⟩, p + 1) := by
  unfold atomR
  simp only
  rw [hm]
  cases b
  · rw [if_neg (by rw [isMk_eq]; decide), if_pos (by rw [isMk_eq]; decide)]; rfl
  · rw [if_pos (by rw [isMk_eq]; decide)]; rfl
theorem atom_one {ts : List Mark} {p q op : Nat} {x : Ex} (ho : op = 4 ∨ op = 5 ∨ op = 19) (hm : markAt ts p = oneMk op) (h1 : P ts 6 (p + 1) = .ok (x, q)) : atomR ts (P ts) p = .ok (⟨op, 0, ByteArray.empty, [x]⟩, q) := by
  unfold atomR
  simp only
  rw [hm]
  rcases ho with rfl | rfl | rfl
  · rw [if_neg (by rw [isMk_eq]; decide), if_neg (by rw [isMk_eq]; decide), if_neg (by rw [isMk_eq]; decide), if_pos (by rw [isMk_eq]; decide), h1, Res.go_ok]
  · rw [if_neg (by rw [isMk_eq]; decide), if_neg (by rw [isMk_eq]; decide), if_neg (by rw [isMk_eq]; decide), if_neg (by rw [isMk_eq]; decide), if_pos (by rw [isMk_eq]; decide), h1, Res.go_ok]
  · rw [if_neg (by rw [isMk_eq]; decide), if_neg (by rw [isMk_eq]; decide), if_neg (by rw [isMk_eq]; decide), if_neg (by rw [isMk_eq]; decide), if_neg (by rw [isMk_eq]; decide), if_pos (by rw [isMk_eq]; decide), h1, Res.go_ok]
theorem oneMk_no (op : Nat) : isMk (oneMk op) 1 (sgn [105, 102]) = false := by
  unfold oneMk
  rw [isMk_eq]
  split
  · decide
  · split <;> decide
theorem no_if {m : Mark} (h : isMk m 1 (sgn [105, 102]) = false) (a : Nat) : ¬ (a = 0 ∧ isMk m 1 (sgn [105, 102]) = true) := fun hc => by rw [h] at hc; exact absurd hc.2 (by decide)
theorem T_leaf {x y : Ex} {m : Mark} (hy : y = x) (hop : jOf x.op = none) (h17 : x.op ≠ 17) (htk : tk x = [m]) (hm : isMk m 1 (sgn [105, 102]) = false) (h : ∀ ts p, markAt ts p = m → atomR ts (P ts) p = .ok (y, p + 1)) : T x := by
  subst hy
  intro ts p a _ hA _
  rw [htk] at hA ⊢
  obtain ⟨h1, _, _⟩ := hA.cons
  rw [P_atom (no_if (by rw [h1]; exact hm) a), h ts p h1, Res.go_ok, if_neg h17]
  unfold rkL
  rw [hop]
  rfl
theorem T_one {x a : Ex} (ho : x.op = 4 ∨ x.op = 5 ∨ x.op = 19) (ha : x.args = [a]) (hx : x = ⟨x.op, 0, ByteArray.empty, [a]⟩) (h : T a) : T x := by
  intro ts p r _ hA hf
  rw [tk_one ha] at hA hf ⊢
  obtain ⟨h1, _, h3⟩ := hA.cons
  have hq : p + (oneMk x.op :: tkp 6 (rkOf a.op) (tk a)).length = p + 1 + (tkp 6 (rkOf a.op) (tk a)).length := by simp; omega
  rw [hq] at hf ⊢
  have h17 : x.op ≠ 17 := by omega
  have hj : jOf x.op = none := by rcases ho with e | e | e <;> rw [e] <;> rfl
  have hstop : ∀ y r, Lp ts 6 y r (p + 1 + (tkp 6 (rkOf a.op) (tk a)).length) = .ok (y, p + 1 + (tkp 6 (rkOf a.op) (tk a)).length) := fun y r => by
    cases e : jAt (markAt ts (p + 1 + (tkp 6 (rkOf a.op) (tk a)).length)) with
    | none => exact Lp_none e
    | some j => have := JT_laws j (jAt_mem e); exact Lp_stop e (.inl (by omega))
  have hpart : P ts 6 (p + 1) = .ok (a, p + 1 + (tkp 6 (rkOf a.op) (tk a)).length) := by
    rcases h.place (by omega) (Nat.le_refl 6) h3 (fun hl j hj => by have := JT_laws j (jAt_mem hj); omega) with ⟨r, _, e⟩ | ⟨e, _⟩
    · rw [e, hstop]
    · omega
  rw [P_atom (no_if (by rw [h1]; exact oneMk_no _) r), atom_one ho h1 hpart, Res.go_ok, if_neg h17, ← hx]
  unfold rkL
  rw [hj]
theorem passR_ok {ts : List Mark} {kind : Nat} {text : ByteArray} {p : Nat} {f : Nat → Res} (h : isMk (markAt ts p) kind text = true) : passR ts kind text p f = f (p + 1) := by unfold passR; rw [if_pos h]
theorem T_three {x a b c : Ex} (ho : x.op = 17) (ha : x.args = [a, b, c]) (hx : x = ⟨17, 0, ByteArray.empty, [a, b, c]⟩) (h1 : T a) (h2 : T b) (h3 : T c) : T x := by
  intro ts p r hr hA hf
  rw [ho, rk17] at hr hf
  obtain rfl : r = 0 := by omega
  rw [tk_three ha] at hA hf ⊢
  obtain ⟨e0, _, A1⟩ := hA.cons
  obtain ⟨Aa, A2⟩ := A1.app
  obtain ⟨e1, _, A3⟩ := A2.cons
  obtain ⟨Ab, A4⟩ := A3.app
  obtain ⟨e2, _, A5⟩ := A4.cons
  have hq : p + (⟨1, sgn [105, 102]⟩ :: (tk a ++ ⟨1, sgn [116, 104, 101, 110]⟩ :: (tk b ++ ⟨1, sgn [101, 108, 115, 101]⟩ :: tk c)) : List Mark).length = p + 1 + (tk a).length + 1 + (tk b).length + 1 + (tk c).length := by simp; omega
  rw [hq] at hf ⊢
  have pa := h1.all Aa (by rw [e1, jAt_eq]; decide)
  have pb := h2.all Ab (by rw [e2, jAt_eq]; decide)
  have pc := h3.all A5 (by
    cases e : jAt (markAt ts (p + 1 + (tk a).length + 1 + (tk b).length + 1 + (tk c).length)) with
    | none => rfl
    | some j => have := hf j e; have := JT_laws j (jAt_mem e); omega)
  rw [P_if (by rw [e0, isMk_eq]; decide), if_pos ho]
  unfold choiceR
  rw [pa, Res.go_ok, passR_ok (by rw [e1, isMk_eq]; decide), pb, Res.go_ok, passR_ok (by rw [e2, isMk_eq]; decide), pc, Res.go_ok, ← hx]
theorem T_two {x a b : Ex} {j : J} (hj : jOf x.op = some j) (ha : x.args = [a, b]) (hx : x = ⟨j.op, 0, ByteArray.empty, [a, b]⟩) (h1 : T a) (h2 : T b) : T x := by
  intro ts p r hr hA hf
  obtain ⟨l1, l2, l3, l4, l5, l6, l7, l8, l9⟩ := JT_laws j (jOf_mem hj).1
  have hrk : rkOf x.op = j.rank := by unfold rkOf; rw [hj]
  have hrl : rkL x.op = j.rank := by unfold rkL; rw [hj]
  have h17 : x.op ≠ 17 := by rw [← (jOf_mem hj).2]; exact l8
  rw [hrk] at hr hf
  rw [tk_two ha, hj, Option.getD_some] at hA hf ⊢
  obtain ⟨Aa, A1⟩ := hA.app
  obtain ⟨e1, _, Ab⟩ := A1.cons
  have hq : p + (tkp j.first (rkOf a.op) (tk a) ++ jMk j :: tkp j.second (rkOf b.op) (tk b)).length = p + (tkp j.first (rkOf a.op) (tk a)).length + 1 + (tkp j.second (rkOf b.op) (tk b)).length := by simp; omega
  rw [hq] at hf ⊢
  rw [if_neg h17, hrl]
  have hpb : P ts j.second (p + (tkp j.first (rkOf a.op) (tk a)).length + 1) = .ok (b, p + (tkp j.first (rkOf a.op) (tk a)).length + 1 + (tkp j.second (rkOf b.op) (tk b)).length) := by
    rcases h2.place (by omega) (Nat.le_refl _) Ab (fun hl j' hj' => by have := hf j' hj'; have := JT_laws j' (jAt_mem hj'); omega) with ⟨r', _, e⟩ | ⟨_, e⟩
    · rw [e]
      cases e' : jAt (markAt ts (p + (tkp j.first (rkOf a.op) (tk a)).length + 1 + (tkp j.second (rkOf b.op) (tk b)).length)) with
      | none => exact Lp_none e'
      | some j' => have := hf j' e'; have := JT_laws j' (jAt_mem e'); exact Lp_stop e' (.inl (by omega))
    · exact e
  rcases h1.place (by omega) (show r ≤ j.first by omega) Aa (fun hl j' hj' => by rw [e1, l7] at hj'; cases hj'; exact hl) with ⟨r', hr', e⟩ | ⟨e, _⟩
  · rw [e, Lp_go (by rw [e1]; exact l7) hr hr', hpb, Res.go_ok, ← hx]
  · omega
theorem T_any : ∀ (d M : Nat) (x : Ex) (k : Nat) (w : World) (s : Value), sz d M x = some k → St w x s → T x
  | 0, M, x, k, w, s, h, _ => by simp [sz] at h
  | d + 1, M, x, k, w, s, h, hS => by
    obtain ⟨hM, hf, hl⟩ := sz_parts h
    obtain ⟨_, _, _, _, _, hn, _⟩ := hS.out
    obtain ⟨f1, f2⟩ := fields_more hf
    rcases fields_cases hf with ⟨h1, h2, h3⟩ | ⟨h1, h2, h3⟩ | ⟨h1, h2, h3⟩ | ⟨h1, h3⟩ | ⟨h1, h3⟩ | ⟨⟨r, hr⟩, h3⟩
    · have e := len0 h3
      have hd := num_dig ⟨(Lib.itoa x.n).toArray⟩ x.n.toNat (by omega) (by simp only; exact itoa_dig h2)
      refine T_leaf (y := ⟨1, numN ⟨(Lib.itoa x.n).toArray⟩, ByteArray.empty, []⟩) ?_ (by rw [h1]; rfl) (by omega) (by rw [tk_leaf e, if_pos h1]) (mk_no _ _ _ (by show (2 : Nat) ≠ 1; omega)) fun ts p hm => atom_num hm hd.2
      obtain ⟨o, n, nm, l⟩ := x
      simp only at h1 e f1 h2 hd ⊢
      subst h1 e
      rw [hd.1, size0 (f1 (by omega)), Int.toNat_of_nonneg h2]
    · have e := len0 h3
      refine T_leaf (y := ⟨2, if (x.n == 1) then 1 else 0, ByteArray.empty, []⟩) ?_ (by rw [h1]; rfl) (by omega) (by rw [tk_leaf e, if_neg (by omega), if_pos h1]) (by rw [isMk_eq]; cases (x.n == 1) <;> decide) fun ts p hm => atom_bool hm
      obtain ⟨o, n, nm, l⟩ := x
      simp only at h1 e f1 h2 ⊢
      subst h1 e
      rw [size0 (f1 (by omega))]
      rcases h2 with rfl | rfl <;> rfl
    · have e := len0 h3
      refine T_leaf (y := ⟨3, 0, x.name, []⟩) ?_ (by rw [h1]; rfl) (by omega) (by rw [tk_leaf e, if_neg (by omega), if_neg (by omega)]) (name_res h2 6 (by omega)) fun ts p hm => atom_name hm h2
      obtain ⟨o, n, nm, l⟩ := x
      simp only at h1 e f2 ⊢
      subst h1 e
      rw [f2 (by omega) (by omega)]
    · obtain ⟨a, e⟩ := len1 h3
      rw [e] at hl
      obtain ⟨ka, hka, _⟩ := szL_cons hl
      obtain ⟨t, ht⟩ := hS.arg0 e
      refine T_one h1 e ?_ (T_any d _ a ka w t hka ht)
      obtain ⟨o, n, nm, l⟩ := x
      simp only at h1 e f1 f2 ⊢
      subst e
      rw [f2 (by omega) (by omega), size0 (f1 (by omega))]
    · obtain ⟨a, b, c, e⟩ := len3 h3
      rw [e] at hl
      obtain ⟨ka, hka, hl⟩ := szL_cons hl
      obtain ⟨kb, hkb, hl⟩ := szL_cons hl
      obtain ⟨kc, hkc, _⟩ := szL_cons hl
      obtain ⟨ta, hta⟩ := hS.arg0 e
      obtain ⟨tb, htb⟩ := hS.arg1 e
      obtain ⟨tc, htc⟩ := hS.arg2 e
      refine T_three h1 e ?_ (T_any d _ a ka w ta hka hta) (T_any d _ b kb w tb hkb htb) (T_any d _ c kc w tc hkc htc)
      obtain ⟨o, n, nm, l⟩ := x
      simp only at h1 e f1 f2 ⊢
      subst e h1
      rw [f2 (by omega) (by omega), size0 (f1 (by omega))]
    · obtain ⟨a, b, e⟩ := len2 h3
      rw [e] at hl
      obtain ⟨ka, hka, hl⟩ := szL_cons hl
      obtain ⟨kb, hkb, _⟩ := szL_cons hl
      obtain ⟨ta, hta⟩ := hS.arg0 e
      obtain ⟨tb, htb⟩ := hS.arg1 e
      have hro := jOf_range hr
      refine T_two hr e ?_ (T_any d _ a ka w ta hka hta) (T_any d _ b kb w tb hkb htb)
      rw [(jOf_mem hr).2]
      obtain ⟨o, n, nm, l⟩ := x
      simp only at e f1 f2 hro ⊢
      subst e
      rw [f2 (by omega) (by omega), size0 (f1 (by omega))]
end Go.Proofs.YtkieljleopbhoaaDoor.Lex
namespace Go.Proofs.YtkieljleopbhoaaDoor.Lex
open Go.RowKit
theorem span_line (p : UInt8 → Bool) (h : p 10 = false) : ∀ (l r : List UInt8), span p (l ++ 10 :: r) = span p l
  | [], r => by rw [List.nil_append, span_cons, h]; rfl
  | c :: l, r => by rw [List.cons_append, span_cons, span_cons, span_line p h l r]
theorem prefix_line : ∀ (p l r : List UInt8), 10 ∉ p → Lib.hasPrefix (l ++ 10 :: r) p = Lib.hasPrefix l p
  | [], l, r, _ => by simp [Lib.hasPrefix]
  | x :: p, [], r, h => by
    have hx : x ≠ 10 := fun e => h (by rw [e]; exact List.mem_cons_self ..)
    simp [Lib.hasPrefix, List.isPrefixOf, hx]
  | x :: p, c :: l, r, h => by
    have := prefix_line p l r (fun hm => h (List.mem_cons_of_mem _ hm))
    simp only [Lib.hasPrefix, List.cons_append, List.isPrefixOf] at this ⊢
    rw [this]
theorem sgL_line : ∀ p ∈ sgL, (10 : UInt8) ∉ p.data.toList := by decide
theorem signLen_line (l r : List UInt8) : signLen (l ++ 10 :: r) = signLen l := by
  unfold signLen
  have : ∀ (ps : List ByteArray), (∀ p ∈ ps, (10 : UInt8) ∉ p.data.toList) → ps.find? (fun p => Lib.hasPrefix (l ++ 10 :: r) p.data.toList) = ps.find? fun p => Lib.hasPrefix l p.data.toList := by
    intro ps
    induction ps with
    | nil => intro _; rfl
    | cons p ps ih =>
      intro h
      simp only [List.find?]
      rw [prefix_line _ l r (h p (List.mem_cons_self ..)), ih fun q hq => h q (List.mem_cons_of_mem _ hq)]
  rw [this sgL sgL_line]
theorem getD_line (l r : List UInt8) (h : l ≠ []) : (l ++ 10 :: r).getD 0 0 = l.getD 0 0 := getD_app l _ 0 (List.length_pos_iff.2 h)
/-- A line's end behind a text that begins with no blank changes nothing of what it begins with. -/
theorem step_line (l r : List UInt8) (h : l ≠ []) (hb : blank (l.getD 0 0) = false) : step (l ++ 10 :: r) = step l := by
  have hs : silLen (l ++ 10 :: r) = silLen l := by
    unfold silLen
    rw [prefix_line [45, 45] l r (by decide), span_line ofLine (by decide), span_zero blank l hb, span_zero blank (l ++ 10 :: r) (by rw [getD_line l r h]; exact hb)]
  have hw : wordLen (l ++ 10 :: r) = wordLen l := by unfold wordLen; rw [span_line letter (by decide), span_line ofWord (by decide)]
  have hn : numLen (l ++ 10 :: r) = numLen l := by unfold numLen; rw [span_line digit (by decide), getD_line l r h]
  unfold step
  rw [hs, hw, hn, signLen_line]
theorem ahead_nil' {r : Except Nat (List Tok)} : ahead [] r = r := by cases r <;> rfl
/-- A blank ahead says nothing. -/
theorem toks_blank (a : Nat) (c : UInt8) (r : List UInt8) (h : blank c = true) : toks a (c :: r) = toks (a + 1) r := by
  have hp : ∀ (d : UInt8) (t : List UInt8), blank d = true → Lib.hasPrefix (d :: t) [45, 45] = false := fun d t hd => by
    have : d ≠ 45 := fun e => by rw [e] at hd; exact absurd hd (by decide)
    simp [Lib.hasPrefix, List.isPrefixOf]
    intro e
    exact (this e.symm).elim
  have hs : ∀ (d : UInt8) (t : List UInt8), blank d = true → step (d :: t) = some (0, span blank t + 1) := fun d t hd => by
    have : silLen (d :: t) = span blank t + 1 := by unfold silLen; rw [hp d t hd]; rw [if_neg (by simp), span_cons, if_pos hd]
    unfold step
    rw [this, if_pos (by omega)]
  rw [toks_some (by simp) (hs c r h), if_pos rfl, ahead_nil', List.drop_succ_cons]
  cases r with
  | nil => rfl
  | cons d t =>
    by_cases hd : blank d = true
    · rw [toks_some (a := a + 1) (by simp) (hs d t hd), if_pos rfl, ahead_nil', span_cons, if_pos hd, show a + (span blank t + 1 + 1) = a + 1 + (span blank t + 1) by omega]
    · rw [span_cons, if_neg hd]; rfl
theorem toks_line (r : List UInt8) : ∀ (m : Nat) (l : List UInt8) (a : Nat), l.length = m → toks a (l ++ 10 :: r) = match toks a l with
    | .error e => .error e
    | .ok ts => ahead ts (toks (a + l.length + 1) r) := by
  intro m
  induction m using Nat.strongRecOn with
  | _ m ih =>
    intro l a hm
    by_cases h0 : l = []
    · subst h0
      rw [toks_nil, List.nil_append, toks_blank a 10 r (by decide)]
      cases toks (a + [].length + 1) r <;> rfl
    · by_cases hb : blank (l.getD 0 0) = true
      · obtain ⟨c, t, rfl⟩ := List.exists_cons_of_ne_nil h0
        have hc : blank c = true := hb
        rw [List.cons_append, toks_blank a c _ hc, toks_blank a c t hc, ih t.length (by simp at hm; omega) t (a + 1) rfl, List.length_cons, show a + 1 + t.length + 1 = a + (t.length + 1) + 1 by omega]
      · have hs := step_line l r h0 (by simpa using hb)
        cases hst : step l with
        | none => rw [toks_none h0 hst, toks_none (by simp) (hs.trans hst)]
        | some kn =>
          obtain ⟨k, n⟩ := kn
          obtain ⟨h1, h2, _⟩ := step_le hst
          rw [toks_some h0 hst, toks_some (by simp) (hs.trans hst), List.take_append_of_le_length h2, List.drop_append_of_le_length h2, ih (l.drop n).length (by rw [List.length_drop]; omega) (l.drop n) (a + n) rfl]
          cases toks (a + n) (l.drop n) with
          | error e => rfl
          | ok ts =>
            show ahead _ (ahead ts _) = ahead _ _
            rw [ahead_app, List.length_drop, show a + n + (l.length - n) + 1 = a + l.length + 1 by omega]
/-- Tokens at places further on. -/
def far (d : Nat) (t : Tok) : Tok := ⟨t.kind, t.text, d + t.at_⟩
theorem toks_far (d : Nat) : ∀ (m : Nat) (l : List UInt8) (a : Nat), l.length = m → toks (d + a) l = match toks a l with
    | .error e => .error (d + e)
    | .ok ts => .ok (ts.map (far d)) := by
  intro m
  induction m using Nat.strongRecOn with
  | _ m ih =>
    intro l a hm
    by_cases h0 : l = []
    · subst h0; rw [toks_nil, toks_nil]; rfl
    · cases hst : step l with
      | none => rw [toks_none h0 hst, toks_none h0 hst]
      | some kn =>
        obtain ⟨k, n⟩ := kn
        obtain ⟨h1, h2, _⟩ := step_le hst
        rw [toks_some h0 hst, toks_some h0 hst, Nat.add_assoc, ih (l.drop n).length (by rw [List.length_drop]; omega) (l.drop n) (a + n) rfl]
        cases toks (a + n) (l.drop n) with
        | error e => rfl
        | ok ts => by_cases hk : k = 0 <;> simp [ahead, hk, far]
/-- Two texts with a line's end between. -/
theorem toks_join (l r : List UInt8) : toks 0 (l ++ 10 :: r) = match toks 0 l with
    | .error e => .error e
    | .ok ts => match toks 0 r with
      | .error e => .error (l.length + 1 + e)
      | .ok us => .ok (ts ++ us.map (far (l.length + 1))) := by
  rw [toks_line r l.length l 0 rfl]
  cases toks 0 l with
  | error e => rfl
  | ok ts =>
    simp only
    have := toks_far (l.length + 1) r.length r 0 rfl
    rw [show 0 + l.length + 1 = l.length + 1 + 0 by omega, this]
    cases toks 0 r with
    | error e => rfl
    | ok us => rfl
end Go.Proofs.YtkieljleopbhoaaDoor.Lex
namespace Go.Proofs.YtkieljleopbhoaaDoor.Lex
open Go.RowKit
/-- What may stand behind a word: nothing, a blank, or a bracket that ends. -/
def Good (r : List UInt8) : Prop := r = [] ∨ ∃ t, r = 32 :: t ∨ r = 41 :: t
theorem span_good (p : UInt8 → Bool) (h1 : p 32 = false) (h2 : p 41 = false) {r : List UInt8} (hr : Good r) : ∀ (l : List UInt8), span p (l ++ r) = span p l
  | [] => by rcases hr with rfl | ⟨t, rfl | rfl⟩ <;> simp [span_cons, span_nil, h1, h2]
  | c :: l => by rw [List.cons_append, span_cons, span_cons, span_good p h1 h2 hr l]
def tokM (t : Tok) : Mark := ⟨t.kind, ⟨t.text.toArray⟩⟩
/-- A text that has these tokens, whatever good stands behind it. -/
def LexC (l : List UInt8) (ms : List Mark) : Prop := ∀ a r, Good r → ∃ ts : List Tok, ts.map tokM = ms ∧ toks a (l ++ r) = ahead ts (toks (a + l.length) r)
/-- A text that begins with a token. -/
theorem step_toks {k : Nat} (t : List UInt8) (r : List UInt8) (ht : t ≠ []) (hk : k ≠ 0) (h : step (t ++ r) = some (k, t.length)) (a : Nat) : toks a (t ++ r) = ahead [⟨k, t, a⟩] (toks (a + t.length) r) := by
  rw [toks_some (by simp [ht]) h, if_neg hk, List.take_left, List.drop_left]
theorem LexC.tok {k : Nat} {t : List UInt8} (ht : t ≠ []) (hk : k ≠ 0) (h : ∀ r, Good r → step (t ++ r) = some (k, t.length)) : LexC t [⟨k, ⟨t.toArray⟩⟩] := fun a r hr => ⟨[⟨k, t, a⟩], rfl, step_toks t r ht hk (h r hr) a⟩
theorem LexC.blank {l m : List UInt8} {ms ns : List Mark} (h1 : LexC l ms) (h2 : LexC m ns) : LexC (l ++ [32] ++ m) (ms ++ ns) := fun a r hr => by
  obtain ⟨ts, e1, e2⟩ := h1 a (32 :: (m ++ r)) (.inr ⟨_, .inl rfl⟩)
  obtain ⟨us, e3, e4⟩ := h2 (a + l.length + 1) r hr
  refine ⟨ts ++ us, by simp [e1, e3], ?_⟩
  rw [show l ++ [32] ++ m ++ r = l ++ 32 :: (m ++ r) by simp, e2, toks_blank _ _ _ (by decide), e4, ahead_app]
  simp only [List.length_append, List.length_cons, List.length_nil]
  rw [show a + (l.length + (0 + 1) + m.length) = a + l.length + 1 + m.length by omega]
theorem sil_zero {c : UInt8} {l : List UInt8} (hb : blank c = false) (h : c ≠ 45) : silLen (c :: l) = 0 := by
  unfold silLen
  rw [if_neg (by simp [Lib.hasPrefix, List.isPrefixOf]; intro e; exact absurd e.symm h)]
  rw [span_cons, hb]
  rfl
theorem step_sign {c : UInt8} {l : List UInt8} {n : Nat} (hs : silLen (c :: l) = 0) (hl : letter c = false) (hd : digit c = false) (h : signLen (c :: l) = n) (hn : n ≠ 0) : step (c :: l) = some (3, n) := by
  have h2 : wordLen (c :: l) = 0 := by unfold wordLen; rw [span_cons, hl]; simp
  have h3 : numLen (c :: l) = 0 := by unfold numLen; rw [span_cons, hd]; simp
  unfold step
  simp [hs, h2, h3, h, hn]
theorem step_open (r : List UInt8) : step (40 :: r) = some (3, 1) := step_sign (sil_zero (by decide) (by decide)) (by decide) (by decide) (by simp [signLen, sgL, Lib.hasPrefix, List.isPrefixOf]; rfl) (by decide)
theorem step_shut (r : List UInt8) : step (41 :: r) = some (3, 1) := step_sign (sil_zero (by decide) (by decide)) (by decide) (by decide) (by simp [signLen, sgL, Lib.hasPrefix, List.isPrefixOf]; rfl) (by decide)
theorem step_minus {c : UInt8} (r : List UInt8) (h1 : c ≠ 45) (h2 : c ≠ 62) : step (45 :: c :: r) = some (3, 1) := by
  refine step_sign ?_ (by decide) (by decide) ?_ (by decide)
  · unfold silLen
    rw [if_neg (by simp [Lib.hasPrefix, List.isPrefixOf]; exact fun e => h1 e.symm), span_cons, if_neg (by decide)]
  · have e : ((62 : UInt8) == c) = false := by simp; exact fun e => h2 e.symm
    simp [signLen, sgL, Lib.hasPrefix, List.isPrefixOf, e]
    rfl
theorem LexC.brackets {l : List UInt8} {ms : List Mark} (h : LexC l ms) : LexC (40 :: (l ++ [41])) (⟨3, sgn [40]⟩ :: (ms ++ [⟨3, sgn [41]⟩])) := fun a r hr => by
  obtain ⟨ts, e1, e2⟩ := h (a + 1) (41 :: r) (.inr ⟨_, .inr rfl⟩)
  refine ⟨⟨3, [40], a⟩ :: (ts ++ [⟨3, [41], a + 1 + l.length⟩]), by simp [e1, tokM, sgn], ?_⟩
  have o := step_toks [40] (l ++ 41 :: r) (by simp) (by decide) (step_open _) a
  have s := step_toks [41] r (by simp) (by decide) (step_shut _) (a + 1 + l.length)
  simp only [List.cons_append, List.nil_append, List.length_cons, List.length_nil] at o s
  rw [show (40 :: (l ++ [41])) ++ r = 40 :: (l ++ 41 :: r) by simp, o, e2, s, ahead_app, ahead_app]
  simp only [List.cons_append, List.nil_append, List.length_cons, List.length_append, List.length_nil]
  rw [show a + (l.length + (0 + 1) + 1) = a + 1 + l.length + (0 + 1) by omega]
theorem LexC.put {l : List UInt8} {ms : List Mark} (h : LexC l ms) (least rank : Nat) : LexC (put least rank l) (tkp least rank ms) := by
  unfold Lex.put tkp
  split
  · exact h.brackets
  · exact h
/-- A word. -/
theorem step_word {l r : List UInt8} (hr : Good r) (h : wordLen l = l.length) (h0 : l ≠ []) : step (l ++ r) = some (1, l.length) := by
  have e : wordLen (l ++ r) = l.length := by
    unfold wordLen at h ⊢
    rw [span_good letter (by decide) (by decide) hr, span_good ofWord (by decide) (by decide) hr]
    exact h
  obtain ⟨c, t, rfl⟩ := List.exists_cons_of_ne_nil h0
  have hc : letter c = true := by
    unfold wordLen at h
    rw [span_cons] at h
    cases e : letter c with
    | true => rfl
    | false => rw [e] at h; simp at h
  have hs : silLen (c :: t ++ r) = 0 := by
    refine sil_zero ?_ ?_
    · cases e : blank c with
      | false => rfl
      | true => unfold letter at hc; unfold blank at e; simp at hc e; omega
    · intro e; rw [e] at hc; exact absurd hc (by decide)
  unfold step
  rw [hs, e]
  simp
theorem step_num {k : Nat} {r : List UInt8} (hr : Good r) : step (dig k ++ r) = some (2, (dig k).length) := by
  have hp := dig_pos k
  have hd : digit ((dig k).getD 0 0) = true := span_at digit (dig k) 0 (by rw [span_all digit _ (dig_digits k)]; exact hp)
  have e : numLen (dig k ++ r) = (dig k).length := by
    have := numLen_dig k
    unfold numLen at this ⊢
    rw [span_good digit (by decide) (by decide) hr, getD_app _ _ _ hp]
    exact this
  rw [step_digit (by rw [getD_app _ _ _ hp]; exact hd), e, if_pos (by omega)]
theorem LexC.word {l : List UInt8} (h : wordLen l = l.length) (h0 : l ≠ []) : LexC l [⟨1, ⟨l.toArray⟩⟩] := LexC.tok h0 (by decide) fun r hr => step_word hr h h0
/-- A sign of two parts, between blanks. -/
theorem LexC.join {j : J} (hj : j ∈ JT) {l m : List UInt8} {ms ns : List Mark} (h1 : LexC l ms) (h2 : LexC m ns) : LexC (l ++ [32] ++ j.text.data.toList ++ [32] ++ m) (ms ++ jMk j :: ns) := fun a r hr => by
  obtain ⟨ts, e1, e2⟩ := h1 a (32 :: (j.text.data.toList ++ 32 :: (m ++ r))) (.inr ⟨_, .inl rfl⟩)
  obtain ⟨us, e3, e4⟩ := h2 (a + l.length + 1 + j.text.data.toList.length + 1) r hr
  have hstep : ∀ q, step (j.text.data.toList ++ 32 :: q) = some (j.kind, j.text.data.toList.length) := fun q => by
    simp only [JT, List.mem_cons, List.not_mem_nil, or_false] at hj
    rcases hj with rfl | rfl | rfl | rfl | rfl | rfl | rfl | rfl | rfl | rfl | rfl | rfl
    all_goals first
      | exact step_word (r := 32 :: q) (.inr ⟨_, .inl rfl⟩) (by decide) (by decide)
      | exact step_minus (c := 32) q (by decide) (by decide)
      | exact step_sign (sil_zero (by decide) (by decide)) (by decide) (by decide) (by simp [signLen, sgL, Lib.hasPrefix, List.isPrefixOf]; rfl) (by decide)
      | (refine step_sign ?_ (by decide) (by decide) (by simp [signLen, sgL, Lib.hasPrefix, List.isPrefixOf]; rfl) (by decide); unfold silLen; rw [if_neg (by simp [Lib.hasPrefix, List.isPrefixOf])]; rw [span_cons, if_neg (by decide)])
  have hk : j.kind ≠ 0 ∧ j.text.data.toList ≠ [] ∧ jMk j = ⟨j.kind, ⟨j.text.data.toList.toArray⟩⟩ := by
    simp only [JT, List.mem_cons, List.not_mem_nil, or_false] at hj
    rcases hj with rfl | rfl | rfl | rfl | rfl | rfl | rfl | rfl | rfl | rfl | rfl | rfl <;> exact ⟨by decide, by decide, rfl⟩
  have s := step_toks (k := j.kind) j.text.data.toList (32 :: (m ++ r)) hk.2.1 hk.1 (hstep _) (a + l.length + 1)
  refine ⟨ts ++ (⟨j.kind, j.text.data.toList, a + l.length + 1⟩ :: us), by simp [e1, e3, hk.2.2, tokM], ?_⟩
  rw [show l ++ [32] ++ j.text.data.toList ++ [32] ++ m ++ r = l ++ 32 :: (j.text.data.toList ++ 32 :: (m ++ r)) by simp, e2, toks_blank _ _ _ (by decide), s, toks_blank _ _ _ (by decide), e4, ahead_app, ahead_app]
  simp only [List.length_append, List.length_cons, List.length_nil]
  rw [show a + (l.length + (0 + 1) + j.text.data.toList.length + (0 + 1) + m.length) = a + l.length + 1 + j.text.data.toList.length + 1 + m.length by omega]
  simp
/-- Behind a minus. -/
theorem LexC.minus {l : List UInt8} {ms : List Mark} (h : LexC l ms) (hh : ∃ c t, l = c :: t ∧ c ≠ 62) : LexC (negW l) (⟨3, sgn [45]⟩ :: ms) := fun a r hr => by
  obtain ⟨c, t, rfl, hc⟩ := hh
  by_cases h45 : c = 45
  · subst h45
    obtain ⟨us, e3, e4⟩ := h (a + 1 + 1) r hr
    have e : negW (45 :: t) = 45 :: 32 :: 45 :: t := by unfold negW; rw [if_pos (by simp [Lib.hasPrefix, List.isPrefixOf])]
    have s := step_toks [45] (32 :: (45 :: t ++ r)) (by simp) (k := 3) (by decide) (step_minus _ (by decide) (by decide)) a
    refine ⟨⟨3, [45], a⟩ :: us, by simp [e3, tokM], ?_⟩
    rw [e]
    simp only [List.cons_append, List.nil_append, List.length_cons, List.length_nil] at s e4 ⊢
    rw [s, toks_blank _ _ _ (by decide), e4, ahead_app]
    rw [show a + (t.length + 1 + 1 + 1) = a + 1 + 1 + (t.length + 1) by omega]
    rfl
  · obtain ⟨us, e3, e4⟩ := h (a + 1) r hr
    have e : negW (c :: t) = 45 :: c :: t := by unfold negW; rw [if_neg (by simp [Lib.hasPrefix, List.isPrefixOf]; exact fun e => h45 e.symm)]
    have s := step_toks [45] (c :: t ++ r) (by simp) (k := 3) (by decide) (step_minus _ h45 hc) a
    refine ⟨⟨3, [45], a⟩ :: us, by simp [e3, tokM], ?_⟩
    rw [e]
    simp only [List.cons_append, List.nil_append, List.length_cons, List.length_nil] at s e4 ⊢
    rw [s, e4, ahead_app]
    rw [show a + (t.length + 1 + 1) = a + 1 + (t.length + 1) by omega]
    rfl
end Go.Proofs.YtkieljleopbhoaaDoor.Lex
namespace Go.Proofs.YtkieljleopbhoaaDoor.Lex
open Go.RowKit
def Headed (l : List UInt8) : Prop := ∃ c t, l = c :: t ∧ c ≠ 62
theorem Headed.put {l : List UInt8} (h : Headed l) (a b : Nat) : Headed (put a b l) := by
  unfold Lex.put
  split
  · exact ⟨40, _, rfl, by decide⟩
  · exact h
theorem Headed.app {l m : List UInt8} (h : Headed l) : Headed (l ++ m) := by
  obtain ⟨c, t, rfl, hc⟩ := h
  exact ⟨c, t ++ m, rfl, hc⟩
theorem put0 (b : Nat) (l : List UInt8) : put 0 b l = l := by unfold put; rw [if_neg (by omega)]
theorem headed_word {l : List UInt8} (h : wordLen l = l.length) (h0 : l ≠ []) : Headed l := by
  obtain ⟨c, t, rfl⟩ := List.exists_cons_of_ne_nil h0
  refine ⟨c, t, rfl, fun e => ?_⟩
  subst e
  unfold wordLen at h
  rw [span_cons] at h
  simp [show letter 62 = false by decide] at h
theorem name_word {s : ByteArray} (h : isName s = true) : wordLen s.data.toList = s.data.toList.length ∧ s.data.toList ≠ [] := by
  unfold isName at h
  simp only [Bool.and_eq_true, decide_eq_true_eq] at h
  have e := Lib.size_eq s
  exact ⟨by omega, fun e0 => by rw [e0, List.length_nil] at e; omega⟩
theorem lex_any : ∀ (d M : Nat) (x : Ex) (k : Nat), sz d M x = some k → LexC (wr x) (tk x) ∧ Headed (wr x)
  | 0, M, x, k, h => by simp [sz] at h
  | d + 1, M, x, k, h => by
    obtain ⟨hM, hf, hl⟩ := sz_parts h
    rcases fields_cases hf with ⟨h1, h2, h3⟩ | ⟨h1, h2, h3⟩ | ⟨h1, h2, h3⟩ | ⟨h1, h3⟩ | ⟨h1, h3⟩ | ⟨⟨r, hr⟩, h3⟩
    · have e := len0 h3
      rw [wr_leaf e, tk_leaf e, if_pos h1, if_pos h1, itoa_dig h2]
      have hp := dig_pos x.n.toNat
      refine ⟨LexC.tok (fun e => by rw [e] at hp; simp at hp) (by decide) fun r hr => step_num hr, ?_⟩
      cases e : dig x.n.toNat with
      | nil => rw [e] at hp; simp at hp
      | cons c t =>
        refine ⟨c, t, rfl, fun e2 => ?_⟩
        have := dig_digits x.n.toNat c (by rw [e]; exact List.mem_cons_self ..)
        rw [e2] at this
        exact absurd this (by decide)
    · have e := len0 h3
      rw [wr_leaf e, tk_leaf e, if_neg (by omega), if_pos h1, if_neg (by omega), if_pos h1]
      cases (x.n == 1)
      · exact ⟨LexC.word (by decide) (by decide), headed_word (by decide) (by decide)⟩
      · exact ⟨LexC.word (by decide) (by decide), headed_word (by decide) (by decide)⟩
    · have e := len0 h3
      rw [wr_leaf e, tk_leaf e, if_neg (by omega), if_neg (by omega), if_neg (by omega), if_neg (by omega)]
      obtain ⟨n1, n2⟩ := name_word h2
      exact ⟨LexC.word n1 n2, headed_word n1 n2⟩
    · obtain ⟨a, e⟩ := len1 h3
      rw [e] at hl
      obtain ⟨ka, hka, _⟩ := szL_cons hl
      obtain ⟨i1, i2⟩ := lex_any d _ a ka hka
      rw [wr_one e, tk_one e]
      rcases h1 with h1 | h1 | h1
      · rw [if_pos h1, h1]
        refine ⟨(i1.put 6 (rkOf a.op)).minus (i2.put _ _), ?_⟩
        unfold negW
        split
        · exact ⟨45, _, rfl, by decide⟩
        · exact ⟨45, _, rfl, by decide⟩
      · rw [if_neg (by omega), if_pos h1, h1]
        have := (LexC.word (l := [110, 111, 116]) (by decide) (by decide)).blank (i1.put 6 (rkOf a.op))
        exact ⟨by simpa [oneMk] using this, ⟨110, _, rfl, by decide⟩⟩
      · rw [if_neg (by omega), if_neg (by omega), h1]
        have := (LexC.word (l := [112, 114, 101]) (by decide) (by decide)).blank (i1.put 6 (rkOf a.op))
        exact ⟨by simpa [oneMk] using this, ⟨112, _, rfl, by decide⟩⟩
    · obtain ⟨a, b, c, e⟩ := len3 h3
      rw [e] at hl
      obtain ⟨ka, hka, hl⟩ := szL_cons hl
      obtain ⟨kb, hkb, hl⟩ := szL_cons hl
      obtain ⟨kc, hkc, _⟩ := szL_cons hl
      obtain ⟨a1, _⟩ := lex_any d _ a ka hka
      obtain ⟨b1, _⟩ := lex_any d _ b kb hkb
      obtain ⟨c1, _⟩ := lex_any d _ c kc hkc
      rw [wr_three e, tk_three e, put0, put0, put0]
      have w1 := LexC.word (l := [105, 102]) (by decide) (by decide)
      have w2 := LexC.word (l := [116, 104, 101, 110]) (by decide) (by decide)
      have w3 := LexC.word (l := [101, 108, 115, 101]) (by decide) (by decide)
      have := ((((w1.blank a1).blank w2).blank b1).blank w3).blank c1
      exact ⟨by simpa using this, ⟨105, _, rfl, by decide⟩⟩
    · obtain ⟨a, b, e⟩ := len2 h3
      rw [e] at hl
      obtain ⟨ka, hka, hl⟩ := szL_cons hl
      obtain ⟨kb, hkb, _⟩ := szL_cons hl
      obtain ⟨a1, a2⟩ := lex_any d _ a ka hka
      obtain ⟨b1, _⟩ := lex_any d _ b kb hkb
      rw [wr_two e, tk_two e, hr, Option.getD_some]
      exact ⟨LexC.join (jOf_mem hr).1 (a1.put _ _) (b1.put _ _), (((((a2.put _ _).app).app).app).app)⟩
/-- What is written is read again, all of it. -/
theorem back {x : Ex} {w : World} {s : Value} (h : chk x = true) (hS : St w x s) : ∃ ts : List Tok, toks 0 (wr x) = .ok ts ∧ P (ts.map tokM) 0 0 = .ok (x, ts.length) := by
  unfold chk at h
  obtain ⟨k, hk⟩ := Option.isSome_iff_exists.1 h
  obtain ⟨ts, e1, e2⟩ := (lex_any 32 200 x k hk).1 0 [] (.inl rfl)
  rw [List.append_nil, toks_nil] at e2
  refine ⟨ts, by rw [e2]; simp [ahead], ?_⟩
  have hT := T_any 32 200 x k w s hk hS
  have := hT.all (ts := tk x) (p := 0) ⟨[], [], by simp, rfl⟩ (by
    rw [show markAt (tk x) (0 + (tk x).length) = ⟨0, ByteArray.empty⟩ by unfold markAt; rw [List.getD_eq_getElem?_getD, List.getElem?_eq_none (by omega)]; rfl, jAt_eq]
    decide)
  have hl : (tk x).length = ts.length := by rw [← e1, List.length_map]
  rw [e1, this, Nat.zero_add, hl]
end Go.Proofs.YtkieljleopbhoaaDoor.Lex
namespace Go.Proofs.YtkieljleopbhoaaDoor.Lex
open Go.RowKit
/-- A token's cells. -/
def tokV (t : Tok) : List Value := [.int .u8 (t.kind : Int), .string ⟨t.text.toArray⟩, .int .i64 (t.at_ : Int)]
def toksV (ts : List Tok) : List Value := ts.flatMap tokV
theorem toksV_app (ts us : List Tok) : toksV (ts ++ us) = toksV ts ++ toksV us := by simp [toksV]
theorem toksV_len (ts : List Tok) : (toksV ts).length = ts.length * 3 := by
  induction ts with
  | nil => rfl
  | cons t ts ih => simp only [toksV, List.flatMap_cons, List.length_append, List.length_cons] at ih ⊢; rw [ih]; simp [tokV]; omega
theorem ownsRow_below {w w' : World} {base e size n : Nat} {v : Value} {xs : List Value} (h : w.ownsRow base e size v n xs) (hb : Below w.heap.size w w') : w'.ownsRow base e size v n xs := by
  refine ⟨h.1, ?_⟩
  rcases h.2 with hn | ⟨g, cap, cur, rfl, hg0, hg, rest⟩
  · exact .inl hn
  · exact .inr ⟨g, cap, cur, rfl, hg0, (hb.block g (Array.getElem?_eq_some_iff.1 hg).1).trans hg, rest⟩
/-- What holds while Read goes through a text. -/
structure Rd (w : World) (b : Nat) (s : ByteArray) (pos : Nat) (v : Value) (ts : List Tok) (W : World) : Prop where
  below : Below w.heap.size w W
  tab : TabS W
  base : w.heap.size ≤ b
  lens : W.heap[b]? = some (.cells lenF 64 (0, 0))
  iter : W.heap[b + 1]? = some (.stringIter s pos)
  row : W.ownsRow (b + 2) 45 3 v ts.length (toksV ts)
theorem Rd.lt {w W : World} {b pos : Nat} {s : ByteArray} {v : Value} {ts : List Tok} (h : Rd w b s pos v ts W) : b + 2 ≤ W.heap.size := (Array.getElem?_eq_some_iff.1 h.iter).1
theorem Rd.step {w W W' : World} {b pos : Nat} {s : ByteArray} {v : Value} {ts : List Tok} (h : Rd w b s pos v ts W) (hb : Below W.heap.size W W') : Rd w b s pos v ts W' where
  below := bstep h.below hb
  tab := h.tab.below hb
  base := h.base
  lens := (hb.block _ (Array.getElem?_eq_some_iff.1 h.lens).1).trans h.lens
  iter := (hb.block _ (Array.getElem?_eq_some_iff.1 h.iter).1).trans h.iter
  row := ownsRow_below h.row hb
theorem Rd.next {w W : World} {b pos : Nat} {s : ByteArray} {v : Value} {ts : List Tok} (h : Rd w b s pos v ts W) (h1 : 1 < w.heap.size) (pos' : Nat) : Rd w b s pos' v ts (W.iterAt (b + 1) s pos') where
  below := Lib.below_iterAt h.below (by have := h.base; omega) s pos'
  tab := by
    obtain ⟨t, fz, hh⟩ := h.tab
    have := h.base
    exact ⟨t, fz, by rw [Lib.iterAt_other _ _ _ _ _ (by omega)]; exact hh⟩
  base := h.base
  lens := by rw [Lib.iterAt_other _ _ _ _ _ (by omega)]; exact h.lens
  iter := Lib.iterAt_heap W (b + 1) s pos pos' h.iter
  row := ownsRow_iterAt h.row (by omega) s pos'
theorem Rd.grow {w W W' : World} {b pos : Nat} {s : ByteArray} {v v' : Value} {ts : List Tok} (h : Rd w b s pos v ts W) (h1 : 1 < w.heap.size) (t : Tok) (hg : W.grownBy W' v.ownBlock) (hr : W'.ownsRow (b + 2) 45 3 v' (ts.length + 1) (toksV ts ++ tokV t)) : Rd w b s pos v' (ts ++ [t]) W' := by
  have hlt := h.row.lt
  have hne : ∀ k, k < b + 2 → some k ≠ v.ownBlock := fun k hk e => by have := (hlt k e.symm).1; omega
  have hl := h.lt
  have hb := h.base
  refine ⟨h.below.grown hg (by omega) (fun k hk => by have := (hlt k hk).1; omega), ?_, h.base, ?_, ?_, ?_⟩
  · obtain ⟨t, fz, hh⟩ := h.tab
    exact ⟨t, fz, by rw [hg.block 1 (by omega) (hne 1 (by omega))]; exact hh⟩
  · rw [hg.block b (by omega) (hne b (by omega))]; exact h.lens
  · rw [hg.block (b + 1) (by omega) (hne (b + 1) (by omega))]; exact h.iter
  · rw [List.length_append, toksV_app]
    have e : toksV [t] = tokV t := by simp [toksV]
    rw [e]
    exact hr
end Go.Proofs.YtkieljleopbhoaaDoor.Lex
namespace Go.Proofs.YtkieljleopbhoaaDoor.Lex
open Go.RowKit
/-- What Read hands back of a text that is not too long. -/
def Gave (w : World) (L : List UInt8) (e : Ending) (w' : World) : Prop :=
  Below w.heap.size w w' ∧ ((∃ a : Nat, toks 0 L = .error a ∧ e = .returned (.tuple #[.slice none 0 0, .int .i64 (a : Int), .int .i64 5])) ∨
    ∃ ts v, toks 0 L = .ok ts ∧ e = .returned (.tuple #[v, .int .i64 0, .int .i64 0]) ∧ w'.ownsRow w.heap.size 45 3 v ts.length (toksV ts))
theorem bytes_drop (s : ByteArray) (i : Nat) : (s.extract i s.size).data.toList = s.data.toList.drop i := by
  have := Lib.size_eq s
  simp [ByteArray.data_extract]
  exact List.take_of_length_le (by simp [← this])
theorem bytes_part (s : ByteArray) (i n : Nat) : (s.extract i (i + n)) = ⟨((s.data.toList.drop i).take n).toArray⟩ := by
  apply ByteArray.ext
  apply Array.toList_inj.1
  simp [ByteArray.data_extract]
def lenK : Nat → List UInt8 → Nat
  | 0, l => silLen l
  | 1, l => wordLen l
  | 2, l => numLen l
  | _, l => signLen l
theorem step_at {l : List UInt8} {k : Nat} (hk : k < 4) (h : ∀ j, j < k → lenK j l = 0) (hn : lenK k l ≠ 0) : step l = some (k, lenK k l) := by
  have h0 := h 0
  have h1 := h 1
  have h2 := h 2
  simp only [lenK] at h0 h1 h2
  unfold step
  obtain rfl | rfl | rfl | rfl : k = 0 ∨ k = 1 ∨ k = 2 ∨ k = 3 := by omega
  · simp only [lenK] at hn ⊢; simp [hn]
  · simp only [lenK] at hn ⊢; simp [hn, h0]
  · simp only [lenK] at hn ⊢; simp [hn, h0, h1]
  · simp only [lenK] at hn ⊢; simp [hn, h0, h1, h2]
theorem step_zero {l : List UInt8} (h : ∀ j, j < 4 → lenK j l = 0) : step l = none := by
  have h0 := h 0
  have h1 := h 1
  have h2 := h 2
  have h3 := h 3
  simp only [lenK] at h0 h1 h2 h3
  unfold step
  simp [h0, h1, h2, h3]
theorem ahead_nil (r : Except Nat (List Tok)) : ahead [] r = r := by cases r <;> rfl
/-- How far Read has come. -/
structure Come (L : List UInt8) (pos next : Nat) (ts : List Tok) : Prop where
  so : toks 0 L = ahead ts (toks next (L.drop next))
  edge : pos = next ∨ next = L.length ∨ (L.getD next 0).toNat < 128 ∨ (L.getD (next - 1) 0).toNat < 128
  few : ts.length ≤ next
theorem Come.start (L : List UInt8) : Come L 0 0 [] := ⟨by rw [ahead_nil, List.drop_zero], .inl rfl, Nat.le_refl _⟩
/-- A rune within what is gone by ends within it. -/
theorem Come.skip {s : ByteArray} {pos next : Nat} {ts : List Tok} (h : Come s.data.toList pos next ts) (hlt : pos < next) (hle : next ≤ s.size) :
    pos + (Utf8.decode s pos).2 ≤ next ∧ Come s.data.toList (pos + (Utf8.decode s pos).2) next ts := by
  have hp : pos < s.size := by omega
  have hg := getD_get s pos hp
  have key : pos + (Utf8.decode s pos).2 ≤ next := by
    by_cases hc : (s[pos]'hp).toNat < 128
    · rw [decode_ascii s pos hp hc]; show pos + 1 ≤ next; omega
    · have hc' : 128 ≤ (s.data.toList.getD pos 0).toNat := by rw [hg]; omega
      have hr := fun i hi hl => decode_range s pos i hp hc' hi hl
      by_cases hk : pos + (Utf8.decode s pos).2 ≤ next
      · exact hk
      · exfalso
        have h1 := hr next (by omega) (by omega)
        have h2 := hr (next - 1) (by omega) (by omega)
        rcases h.edge with e | e | e | e
        · omega
        · rw [← Lib.size_eq] at e; omega
        · omega
        · omega
  exact ⟨key, h.so, .inr (h.edge.resolve_left (by omega)), h.few⟩
/-- A step. -/
theorem Come.go {s : ByteArray} {pos : Nat} {ts : List Tok} (h : Come s.data.toList pos pos ts) (hp : pos < s.size) {k n : Nat} (hs : step (s.data.toList.drop pos) = some (k, n)) :
    pos + (Utf8.decode s pos).2 ≤ pos + n ∧ pos + n ≤ s.size ∧ 1 ≤ n ∧ Come s.data.toList (pos + (Utf8.decode s pos).2) (pos + n) (ts ++ if k = 0 then [] else [⟨k, (s.data.toList.drop pos).take n, pos⟩]) := by
  have hL : s.data.toList.length = s.size := (Lib.size_eq s).symm
  obtain ⟨h1, h2, h3⟩ := step_le hs
  rw [List.length_drop, hL] at h2
  have hg := getD_get s pos hp
  have hlow : (s[pos]'hp).toNat < 128 := by
    by_cases hc : (s[pos]'hp).toNat < 128
    · exact hc
    · have := step_high (l := s.data.toList.drop pos) (by rw [drop_getD, Nat.add_zero, hg]; omega)
      rw [this] at hs
      cases hs
  have hd : (Utf8.decode s pos).2 = 1 := by rw [decode_ascii s pos hp hlow]
  refine ⟨by omega, by omega, h1, ?_, ?_, ?_⟩
  · rw [h.so, toks_some (fun e => by have := congrArg List.length e; simp [hL] at this; omega) hs, ahead_app, List.drop_drop]
  · have he := step_end hs
    rw [drop_getD, drop_getD, List.length_drop, hL] at he
    right
    rcases he with e | e | e
    · left; omega
    · exact .inr (.inl e)
    · refine .inr (.inr ?_)
      rw [show pos + n - 1 = pos + (n - 1) by omega]
      exact e
  · have := h.few
    rw [List.length_append]
    split
    · simp; omega
    · simp; omega
theorem Come.stop {s : ByteArray} {pos : Nat} {ts : List Tok} (h : Come s.data.toList pos pos ts) (hp : pos < s.size) (hs : step (s.data.toList.drop pos) = none) : toks 0 s.data.toList = .error pos := by
  have hL : s.data.toList.length = s.size := (Lib.size_eq s).symm
  rw [h.so, toks_none (fun e => by have := congrArg List.length e; simp [hL] at this; omega) hs]
  rfl
theorem Come.done {s : ByteArray} {pos : Nat} {ts : List Tok} (h : Come s.data.toList pos s.size ts) : toks 0 s.data.toList = .ok ts := by
  have hL : s.data.toList.length = s.size := (Lib.size_eq s).symm
  rw [h.so, List.drop_eq_nil_of_le (by omega), toks_nil]
  simp [ahead]
theorem len_index_0 (w : World) : (Instr.index 64 (.agg lenF) (.int .i64 0)).run Tryd.prog w = .ok (.func (.func 51) #[] #[]) w := by kernel_rfl
theorem len_index_1 (w : World) : (Instr.index 64 (.agg lenF) (.int .i64 1)).run Tryd.prog w = .ok (.func (.func 52) #[] #[]) w := by kernel_rfl
theorem len_index_2 (w : World) : (Instr.index 64 (.agg lenF) (.int .i64 2)).run Tryd.prog w = .ok (.func (.func 53) #[] #[]) w := by kernel_rfl
theorem len_index_3 (w : World) : (Instr.index 64 (.agg lenF) (.int .i64 3)).run Tryd.prog w = .ok (.func (.func 54) #[] #[]) w := by kernel_rfl
theorem info32' : (Tryd.prog.info? 45).map (fun i => (i.zero, i.size, i.bytes)) = some (some (.agg #[.int .u8 0, .string ByteArray.empty, .int .i64 0]), 3, 32) := by kernel_rfl
end Go.Proofs.YtkieljleopbhoaaDoor.Lex
namespace Go.Proofs.YtkieljleopbhoaaDoor.Lex
open Go.RowKit
theorem ownsRow_mono {w : World} {B B' e size n : Nat} {v : Value} {xs : List Value} (h : w.ownsRow B e size v n xs) (hle : B' ≤ B) : w.ownsRow B' e size v n xs := by
  refine ⟨h.1, ?_⟩
  rcases h.2 with hn | ⟨g, cap, cur, e1, hg0, rest⟩
  · exact .inl hn
  · exact .inr ⟨g, cap, cur, e1, by omega, rest⟩
theorem three_new (w : World) (x y z : Value) : ∀ j u, [x, y, z][j]? = some u → (w.alloc (.cells #[x, y, z] 45)).cell? ((⟨w.heap.size, 0, none⟩ : Addr).add j) = some u := by
  intro j u hj
  have hadd : (⟨w.heap.size, 0, none⟩ : Addr).add j = ⟨w.heap.size, j, none⟩ := by unfold Addr.add; split <;> simp_all
  rw [hadd, World.cell?_alloc_at _ _ _ _ rfl]
  rcases j with _ | _ | _ | j
  · simpa using hj
  · simpa using hj
  · simpa using hj
  · simp at hj
set_option maxRecDepth 100000 in
set_option maxHeartbeats 4000000 in
theorem read (s : ByteArray) (w : World) (hT : TabS w) (hs : s.size ≤ 65536) : Calls Tryd.prog 18 #[.string s] w fun e w' => Gave w s.data.toList e w' := by
  have hs' : (s.size : Int) ≤ 65536 := by omega
  have h1 : 1 < w.heap.size := by obtain ⟨t, fz, h⟩ := hT; exact (Array.getElem?_eq_some_iff.1 h).1
  have HL : Hid (s.data.toList.length = s.size) := (Lib.size_eq s).symm
  have h22 := lengths w
  obtain ⟨i0, hi, hi0, hi1, hi2⟩ := info_parts info32'
  go_enter Tryd.func18, Tryd.ntmps18
  go_wp2
  go_step3
  go_wp2_with (first
    | (go_at_call 33; refine h22.mono ?_; rintro e w1 ⟨rfl, hb1⟩)
    | (refine wpList_store_row rfl 64 _ _ rfl w1.heap.size lenF rfl rfl 64 _ (heap_alloc_new w1 _) (by kernel_rfl) rfl (by kernel_rfl) ?_))
  go_step3
  go_wp2
  go_loopw [2, 6] (fun v nx wr => ∃ (pos next : Nat) (ts : List Tok), pos ≤ next ∧ next ≤ s.size ∧ nx = .int .i64 next ∧ Hid (Rd w w1.heap.size s pos v ts wr) ∧ Hid (Come s.data.toList pos next ts)) (fun _ _ wr => s.size - wr.iterPos (w1.heap.size + 1))
  case atStart =>
    refine ⟨0, 0, [], Nat.le_refl _, Nat.zero_le _, rfl, ?_, Come.start _⟩
    have hb2 : Below w.heap.size w ((w1.alloc (.cells #[.nilFunc, .nilFunc, .nilFunc, .nilFunc] 64)).setRow w1.heap.size lenF) := below_row (hb1.alloc hb1.size _) (by have := hb1.size; simp; omega) hb1.size _
    have hz : ((w1.alloc (.cells #[.nilFunc, .nilFunc, .nilFunc, .nilFunc] 64)).setRow w1.heap.size lenF).heap.size = w1.heap.size + 1 := by simp [World.setRow]
    have hl := setRow_heap _ _ _ lenF _ _ (heap_alloc_new w1 (.cells #[.nilFunc, .nilFunc, .nilFunc, .nilFunc] 64))
    generalize (w1.alloc (.cells #[.nilFunc, .nilFunc, .nilFunc, .nilFunc] 64)).setRow w1.heap.size lenF = W2 at hb2 hz hl ⊢
    have hb3 : Below W2.heap.size W2 (W2.iter s 0) := (Below.refl _ W2).alloc (Nat.le_refl _) _
    have hi := World.iter_heap W2 s 0
    rw [hz] at hi
    exact ⟨bstep hb2 hb3, (hT.below hb2).below hb3, hb1.size, (hb3.block _ (by omega)).trans hl, hi, World.ownsRow_nil _ _ _ _⟩
  case round =>
    obtain ⟨pos, next, ts, hpn, hns, rfl, hR, hC⟩ := hrel
    by_cases hp : pos < s.size
    · have hnext : ∀ ty, (Instr.next (.pointer (some ⟨w1.heap.size + 1, 0, none⟩)) true ty).run Tryd.prog wr = _ := fun ty => Lib.run_next_any_at wr (w1.heap.size + 1) s pos ty hR.out.iter hp
      have hmu : Hid (wr.iterPos (w1.heap.size + 1) = pos) := by unfold Hid; simp [World.iterPos, hR.out.iter]
      by_cases hlt : pos < next
      · have hlt' : (pos : Int) < (next : Int) := by omega
        have hC' := hC.out.skip hlt hns
        have hn1 : 1 ≤ (Utf8.decode s pos).2 := (rune_step digit rDigit false digit_byte rDigit_high s pos hp).2.1
        have hR' := hR.out.next h1 (pos + (Utf8.decode s pos).2)
        generalize (Utf8.decode s pos).1 = rr at hnext
        generalize (Utf8.decode s pos).2 = nn at hC' hR' hnext hn1
        have HC' : Hid (Come s.data.toList (pos + nn) next ts) := hC'.2
        have HR' : Hid (Rd w w1.heap.size s (pos + nn) u2 ts (wr.iterAt (w1.heap.size + 1) s (pos + nn))) := hR'
        have Hle : Hid (pos + nn ≤ next) := hC'.1
        generalize wr.iterAt (w1.heap.size + 1) s (pos + nn) = W1 at hnext HR'
        clear hC' hR' hR hC
        go_wp2
        go_roundw
        case rel => exact ⟨pos + nn, next, ts, Hle.out, hns, rfl, HR', HC'⟩
        case measure =>
          have hmu2 : W1.iterPos (w1.heap.size + 1) = pos + nn := by simp [World.iterPos, HR'.out.iter]
          rw [hmu.out, hmu2]
          omega
      · have hlt' : ¬ (pos : Int) < (next : Int) := by omega
        obtain rfl : pos = next := by omega
        have hn1 : 1 ≤ (Utf8.decode s pos).2 := (rune_step digit rDigit false digit_byte rDigit_high s pos hp).2.1
        have hR' := hR.out.next h1 (pos + (Utf8.decode s pos).2)
        have hC2 := fun k n (h : step (s.data.toList.drop pos) = some (k, n)) => hC.out.go hp h
        have hC3 := fun (h : step (s.data.toList.drop pos) = none) => hC.out.stop hp h
        generalize (Utf8.decode s pos).1 = rr at hnext
        generalize (Utf8.decode s pos).2 = nn at hR' hnext hn1 hC2
        have HR' : Hid (Rd w w1.heap.size s (pos + nn) u2 ts (wr.iterAt (w1.heap.size + 1) s (pos + nn))) := hR'
        have HC2 : Hid (∀ k n, step (s.data.toList.drop pos) = some (k, n) → pos + nn ≤ pos + n ∧ pos + n ≤ s.size ∧ 1 ≤ n ∧ Come s.data.toList (pos + nn) (pos + n) (ts ++ if k = 0 then [] else [⟨k, (s.data.toList.drop pos).take n, pos⟩])) := hC2
        have HC3 : Hid (step (s.data.toList.drop pos) = none → toks 0 s.data.toList = .error pos) := hC3
        generalize wr.iterAt (w1.heap.size + 1) s (pos + nn) = W1 at hnext HR'
        clear hR' hC2 hC3 hR hC
        have hp' : (pos : Int) ≤ (s.size : Int) := by omega
        go_wp2_with (refine wpList_load_row rfl 64 _ rfl w1.heap.size rfl 64 lenF (0, 0) _ HR'.out.lens Tryd.underlying64 rfl (by kernel_rfl) ?_)
        go_loopw [2, 24] (fun v i wr2 => v = u2 ∧ ∃ k : Nat, k ≤ 4 ∧ i = .int .i64 k ∧ Hid (∀ j, j < k → lenK j (s.data.toList.drop pos) = 0) ∧ Hid (Rd w w1.heap.size s (pos + nn) u2 ts wr2)) (fun _ i _ => 4 - (intOf i).toNat)
        case atStart => exact ⟨rfl, 0, by omega, rfl, fun j hj => by omega, HR'⟩
        case round =>
          obtain ⟨rfl, k, hk, rfl, hz0, hR2⟩ := hrel
          clear HR' hnext
          by_cases hk4 : k < 4
          · have hk' : k = 0 ∨ k = 1 ∨ k = 2 ∨ k = 3 := by omega
            rcases hk' with rfl | rfl | rfl | rfl
            · have hx := fun W => len_index_0 W
              have hc : ∀ W, TabS W → Calls Tryd.prog 51 #[.string (s.extract pos s.size)] W fun e w' => e = .returned (.int .i64 (silLen (s.data.toList.drop pos) : Int)) ∧ Below W.heap.size W w' := fun W ht => by
                have := silentLength (s.extract pos s.size) W
                rwa [bytes_drop] at this
              by_cases hz : silLen (s.data.toList.drop pos) = 0
              · rw [hz] at hc
                have Hz : Hid (∀ j, j < 0 + 1 → lenK j (s.data.toList.drop pos) = 0) := fun j hj => by
                  by_cases e : j = 0
                  · rw [e]; exact hz
                  · exact hz0.out j (by omega)
                clear hz hz0
                go_wp2_with (go_at_call 51; refine (hc _ hR2.out.tab).mono ?_; rintro e w3 ⟨rfl, hb3⟩; have HR3 : Hid (Rd w w1.heap.size s (pos + nn) u2 ts w3) := hR2.out.step hb3; clear hb3)
                go_roundw
                case rel => exact ⟨rfl, 0 + 1, by omega, by go_num, Hz, HR3⟩
                case measure => simp [intOf]
              · have Hs : Hid (step (s.data.toList.drop pos) = some (0, silLen (s.data.toList.drop pos))) := step_at (by omega) hz0.out hz
                generalize silLen (s.data.toList.drop pos) = n at hc hz Hs
                have hG := HC2.out _ _ Hs.out
                have HG1 : Hid (pos + nn ≤ pos + n) := hG.1
                have HG2 : Hid (Come s.data.toList (pos + nn) (pos + n) (ts ++ if 0 = 0 then [] else [⟨0, (s.data.toList.drop pos).take n, pos⟩])) := hG.2.2.2
                have hne : ((n : Int) == 0) = false := by simp; omega
                have hpn' : pos + n ≤ s.size := hG.2.1
                have Hnz : Hid (1 ≤ n) := hG.2.2.1
                clear hG hz hz0 HC2 HC3 hpn hlt
                go_wp2_with (go_at_call 51; refine (hc _ hR2.out.tab).mono ?_; rintro e w3 ⟨rfl, hb3⟩; have HR3 : Hid (Rd w w1.heap.size s (pos + nn) u2 ts w3) := hR2.out.step hb3; clear hb3)
                go_roundw
                case rel => exact ⟨pos + nn, pos + n, ts, HG1.out, hpn', by go_num, HR3, by simpa [Hid] using HG2.out⟩
                case measure =>
                  have hmu2 : w3.iterPos (w1.heap.size + 1) = pos + nn := by simp [World.iterPos, HR3.out.iter]
                  rw [hmu.out, hmu2]
                  omega
            · have hx := fun W => len_index_1 W
              have hc : ∀ W, TabS W → Calls Tryd.prog 52 #[.string (s.extract pos s.size)] W fun e w' => e = .returned (.int .i64 (wordLen (s.data.toList.drop pos) : Int)) ∧ Below W.heap.size W w' := fun W ht => by
                have := wordLength (s.extract pos s.size) W
                rwa [bytes_drop] at this
              by_cases hz : wordLen (s.data.toList.drop pos) = 0
              · rw [hz] at hc
                have Hz : Hid (∀ j, j < 1 + 1 → lenK j (s.data.toList.drop pos) = 0) := fun j hj => by
                  by_cases e : j = 1
                  · rw [e]; exact hz
                  · exact hz0.out j (by omega)
                clear hz hz0
                go_wp2_with (go_at_call 52; refine (hc _ hR2.out.tab).mono ?_; rintro e w3 ⟨rfl, hb3⟩; have HR3 : Hid (Rd w w1.heap.size s (pos + nn) u2 ts w3) := hR2.out.step hb3; clear hb3)
                go_roundw
                case rel => exact ⟨rfl, 1 + 1, by omega, by go_num, Hz, HR3⟩
                case measure => simp [intOf]
              · have Hs : Hid (step (s.data.toList.drop pos) = some (1, wordLen (s.data.toList.drop pos))) := step_at (by omega) hz0.out hz
                generalize wordLen (s.data.toList.drop pos) = n at hc hz Hs
                have hG := HC2.out _ _ Hs.out
                have HG1 : Hid (pos + nn ≤ pos + n) := hG.1
                have HG2 : Hid (Come s.data.toList (pos + nn) (pos + n) (ts ++ if 1 = 0 then [] else [⟨1, (s.data.toList.drop pos).take n, pos⟩])) := hG.2.2.2
                have hne : ((n : Int) == 0) = false := by simp; omega
                have hpn' : pos + n ≤ s.size := hG.2.1
                have Hnz : Hid (1 ≤ n) := hG.2.2.1
                clear hG hz hz0 HC2 HC3 hpn hlt
                have hlo : (pos : Int) ≤ (pos : Int) + (n : Int) := by omega
                have hhi : (pos : Int) + (n : Int) ≤ (s.size : Int) := by omega
                obtain ⟨X, hX⟩ : ∃ X, s.extract pos (pos + n) = X := ⟨_, rfl⟩
                have HX : Hid (tokV ⟨1, (s.data.toList.drop pos).take n, pos⟩ = [.int .u8 1, .string X, .int .i64 (pos : Int)]) := by unfold Hid; rw [← hX, bytes_part]; rfl
                have hts : Hid (ts.length ≤ pos + n) := by have := HG2.out.few; simp at this; exact Nat.le_trans (Nat.le_succ _) this
                have htk : ∀ W, Calls Tryd.prog 34 #[.int .i64 1, .string X, .int .i64 (pos : Int)] W fun e w' => e = .returned (.agg #[.int .u8 1, .string X, .int .i64 (pos : Int)]) ∧ Below W.heap.size W w' := fun W => token 1 X pos W (by omega) (by rw [← hX, ByteArray.size_extract]; omega)
                go_wp2_with (first
                  | (go_at_call 52; refine (hc _ hR2.out.tab).mono ?_; rintro e w3 ⟨rfl, hb3⟩; have HR3 : Hid (Rd w w1.heap.size s (pos + nn) u2 ts w3) := hR2.out.step hb3; clear hb3)
                  | (go_at_call 34; refine (htk _).mono ?_; rintro e w4 ⟨rfl, hb4⟩; have HR4 : Hid (Rd w w1.heap.size s (pos + nn) u2 ts w4) := HR3.out.step hb4; have HR5 : Hid (Rd w w1.heap.size s (pos + nn) u2 ts (w4.alloc (.cells #[.int .u8 1, .string X, .int .i64 (pos : Int)] 45))) := HR4.out.step ((Below.refl _ _).alloc (Nat.le_refl _) _); clear hb4)
                  | (at_builtin; refine wpList_append_own _ rfl (.tmp 40) (.tmp 48) 38 rfl (w1.heap.size + 2) 45 i0 (.agg #[.int .u8 0, .string ByteArray.empty, .int .i64 0]) 3 32 Tryd.underlying38 hi hi0 hi1 hi2 rfl (by decide) _ _ _ rfl HR5.out.row ⟨w4.heap.size, 0, none⟩ 1 1 [.int .u8 1, .string X, .int .i64 (pos : Int)] rfl rfl (three_new _ _ _ _) (by simp [Value.oneCell']) (by have := hts.out; unfold maxLen; omega) (by have := hts.out; omega) HR5.out.lt ?_; intro v' w' hown1 hgrow1 _; have HR6 : Hid (Rd w w1.heap.size s (pos + nn) v' (ts ++ [⟨1, (s.data.toList.drop pos).take n, pos⟩]) w') := HR5.out.grow h1 _ hgrow1 (by rw [HX.out]; exact hown1); clear hown1 hgrow1))
                go_roundw
                case rel => exact ⟨pos + nn, pos + n, _, HG1.out, hpn', by go_num, HR6, by simpa [Hid] using HG2.out⟩
                case measure =>
                  have hmu2 : w'.iterPos (w1.heap.size + 1) = pos + nn := by simp [World.iterPos, HR6.out.iter]
                  rw [hmu.out, hmu2]
                  omega
            · have hx := fun W => len_index_2 W
              have hc : ∀ W, TabS W → Calls Tryd.prog 53 #[.string (s.extract pos s.size)] W fun e w' => e = .returned (.int .i64 (numLen (s.data.toList.drop pos) : Int)) ∧ Below W.heap.size W w' := fun W ht => by
                have := numberLength (s.extract pos s.size) W
                rwa [bytes_drop] at this
              by_cases hz : numLen (s.data.toList.drop pos) = 0
              · rw [hz] at hc
                have Hz : Hid (∀ j, j < 2 + 1 → lenK j (s.data.toList.drop pos) = 0) := fun j hj => by
                  by_cases e : j = 2
                  · rw [e]; exact hz
                  · exact hz0.out j (by omega)
                clear hz hz0
                go_wp2_with (go_at_call 53; refine (hc _ hR2.out.tab).mono ?_; rintro e w3 ⟨rfl, hb3⟩; have HR3 : Hid (Rd w w1.heap.size s (pos + nn) u2 ts w3) := hR2.out.step hb3; clear hb3)
                go_roundw
                case rel => exact ⟨rfl, 2 + 1, by omega, by go_num, Hz, HR3⟩
                case measure => simp [intOf]
              · have Hs : Hid (step (s.data.toList.drop pos) = some (2, numLen (s.data.toList.drop pos))) := step_at (by omega) hz0.out hz
                generalize numLen (s.data.toList.drop pos) = n at hc hz Hs
                have hG := HC2.out _ _ Hs.out
                have HG1 : Hid (pos + nn ≤ pos + n) := hG.1
                have HG2 : Hid (Come s.data.toList (pos + nn) (pos + n) (ts ++ if 2 = 0 then [] else [⟨2, (s.data.toList.drop pos).take n, pos⟩])) := hG.2.2.2
                have hne : ((n : Int) == 0) = false := by simp; omega
                have hpn' : pos + n ≤ s.size := hG.2.1
                have Hnz : Hid (1 ≤ n) := hG.2.2.1
                clear hG hz hz0 HC2 HC3 hpn hlt
                have hlo : (pos : Int) ≤ (pos : Int) + (n : Int) := by omega
                have hhi : (pos : Int) + (n : Int) ≤ (s.size : Int) := by omega
                obtain ⟨X, hX⟩ : ∃ X, s.extract pos (pos + n) = X := ⟨_, rfl⟩
                have HX : Hid (tokV ⟨2, (s.data.toList.drop pos).take n, pos⟩ = [.int .u8 2, .string X, .int .i64 (pos : Int)]) := by unfold Hid; rw [← hX, bytes_part]; rfl
                have hts : Hid (ts.length ≤ pos + n) := by have := HG2.out.few; simp at this; exact Nat.le_trans (Nat.le_succ _) this
                have htk : ∀ W, Calls Tryd.prog 34 #[.int .i64 2, .string X, .int .i64 (pos : Int)] W fun e w' => e = .returned (.agg #[.int .u8 2, .string X, .int .i64 (pos : Int)]) ∧ Below W.heap.size W w' := fun W => token 2 X pos W (by omega) (by rw [← hX, ByteArray.size_extract]; omega)
                go_wp2_with (first
                  | (go_at_call 53; refine (hc _ hR2.out.tab).mono ?_; rintro e w3 ⟨rfl, hb3⟩; have HR3 : Hid (Rd w w1.heap.size s (pos + nn) u2 ts w3) := hR2.out.step hb3; clear hb3)
                  | (go_at_call 34; refine (htk _).mono ?_; rintro e w4 ⟨rfl, hb4⟩; have HR4 : Hid (Rd w w1.heap.size s (pos + nn) u2 ts w4) := HR3.out.step hb4; have HR5 : Hid (Rd w w1.heap.size s (pos + nn) u2 ts (w4.alloc (.cells #[.int .u8 2, .string X, .int .i64 (pos : Int)] 45))) := HR4.out.step ((Below.refl _ _).alloc (Nat.le_refl _) _); clear hb4)
                  | (at_builtin; refine wpList_append_own _ rfl (.tmp 40) (.tmp 48) 38 rfl (w1.heap.size + 2) 45 i0 (.agg #[.int .u8 0, .string ByteArray.empty, .int .i64 0]) 3 32 Tryd.underlying38 hi hi0 hi1 hi2 rfl (by decide) _ _ _ rfl HR5.out.row ⟨w4.heap.size, 0, none⟩ 1 1 [.int .u8 2, .string X, .int .i64 (pos : Int)] rfl rfl (three_new _ _ _ _) (by simp [Value.oneCell']) (by have := hts.out; unfold maxLen; omega) (by have := hts.out; omega) HR5.out.lt ?_; intro v' w' hown1 hgrow1 _; have HR6 : Hid (Rd w w1.heap.size s (pos + nn) v' (ts ++ [⟨2, (s.data.toList.drop pos).take n, pos⟩]) w') := HR5.out.grow h1 _ hgrow1 (by rw [HX.out]; exact hown1); clear hown1 hgrow1))
                go_roundw
                case rel => exact ⟨pos + nn, pos + n, _, HG1.out, hpn', by go_num, HR6, by simpa [Hid] using HG2.out⟩
                case measure =>
                  have hmu2 : w'.iterPos (w1.heap.size + 1) = pos + nn := by simp [World.iterPos, HR6.out.iter]
                  rw [hmu.out, hmu2]
                  omega
            · have hx := fun W => len_index_3 W
              have hc : ∀ W, TabS W → Calls Tryd.prog 54 #[.string (s.extract pos s.size)] W fun e w' => e = .returned (.int .i64 (signLen (s.data.toList.drop pos) : Int)) ∧ Below W.heap.size W w' := fun W ht => by
                have := signsLength (s.extract pos s.size) W ht
                rw [bytes_drop] at this
                exact this.mono fun e w' ⟨a, b⟩ => ⟨a, by rw [b]; exact Below.refl _ _⟩
              by_cases hz : signLen (s.data.toList.drop pos) = 0
              · rw [hz] at hc
                have Hz : Hid (∀ j, j < 3 + 1 → lenK j (s.data.toList.drop pos) = 0) := fun j hj => by
                  by_cases e : j = 3
                  · rw [e]; exact hz
                  · exact hz0.out j (by omega)
                clear hz hz0
                go_wp2_with (go_at_call 54; refine (hc _ hR2.out.tab).mono ?_; rintro e w3 ⟨rfl, hb3⟩; have HR3 : Hid (Rd w w1.heap.size s (pos + nn) u2 ts w3) := hR2.out.step hb3; clear hb3)
                go_roundw
                case rel => exact ⟨rfl, 3 + 1, by omega, by go_num, Hz, HR3⟩
                case measure => simp [intOf]
              · have Hs : Hid (step (s.data.toList.drop pos) = some (3, signLen (s.data.toList.drop pos))) := step_at (by omega) hz0.out hz
                generalize signLen (s.data.toList.drop pos) = n at hc hz Hs
                have hG := HC2.out _ _ Hs.out
                have HG1 : Hid (pos + nn ≤ pos + n) := hG.1
                have HG2 : Hid (Come s.data.toList (pos + nn) (pos + n) (ts ++ if 3 = 0 then [] else [⟨3, (s.data.toList.drop pos).take n, pos⟩])) := hG.2.2.2
                have hne : ((n : Int) == 0) = false := by simp; omega
                have hpn' : pos + n ≤ s.size := hG.2.1
                have Hnz : Hid (1 ≤ n) := hG.2.2.1
                clear hG hz hz0 HC2 HC3 hpn hlt
                have hlo : (pos : Int) ≤ (pos : Int) + (n : Int) := by omega
                have hhi : (pos : Int) + (n : Int) ≤ (s.size : Int) := by omega
                obtain ⟨X, hX⟩ : ∃ X, s.extract pos (pos + n) = X := ⟨_, rfl⟩
                have HX : Hid (tokV ⟨3, (s.data.toList.drop pos).take n, pos⟩ = [.int .u8 3, .string X, .int .i64 (pos : Int)]) := by unfold Hid; rw [← hX, bytes_part]; rfl
                have hts : Hid (ts.length ≤ pos + n) := by have := HG2.out.few; simp at this; exact Nat.le_trans (Nat.le_succ _) this
                have htk : ∀ W, Calls Tryd.prog 34 #[.int .i64 3, .string X, .int .i64 (pos : Int)] W fun e w' => e = .returned (.agg #[.int .u8 3, .string X, .int .i64 (pos : Int)]) ∧ Below W.heap.size W w' := fun W => token 3 X pos W (by omega) (by rw [← hX, ByteArray.size_extract]; omega)
                go_wp2_with (first
                  | (go_at_call 54; refine (hc _ hR2.out.tab).mono ?_; rintro e w3 ⟨rfl, hb3⟩; have HR3 : Hid (Rd w w1.heap.size s (pos + nn) u2 ts w3) := hR2.out.step hb3; clear hb3)
                  | (go_at_call 34; refine (htk _).mono ?_; rintro e w4 ⟨rfl, hb4⟩; have HR4 : Hid (Rd w w1.heap.size s (pos + nn) u2 ts w4) := HR3.out.step hb4; have HR5 : Hid (Rd w w1.heap.size s (pos + nn) u2 ts (w4.alloc (.cells #[.int .u8 3, .string X, .int .i64 (pos : Int)] 45))) := HR4.out.step ((Below.refl _ _).alloc (Nat.le_refl _) _); clear hb4)
                  | (at_builtin; refine wpList_append_own _ rfl (.tmp 40) (.tmp 48) 38 rfl (w1.heap.size + 2) 45 i0 (.agg #[.int .u8 0, .string ByteArray.empty, .int .i64 0]) 3 32 Tryd.underlying38 hi hi0 hi1 hi2 rfl (by decide) _ _ _ rfl HR5.out.row ⟨w4.heap.size, 0, none⟩ 1 1 [.int .u8 3, .string X, .int .i64 (pos : Int)] rfl rfl (three_new _ _ _ _) (by simp [Value.oneCell']) (by have := hts.out; unfold maxLen; omega) (by have := hts.out; omega) HR5.out.lt ?_; intro v' w' hown1 hgrow1 _; have HR6 : Hid (Rd w w1.heap.size s (pos + nn) v' (ts ++ [⟨3, (s.data.toList.drop pos).take n, pos⟩]) w') := HR5.out.grow h1 _ hgrow1 (by rw [HX.out]; exact hown1); clear hown1 hgrow1))
                go_roundw
                case rel => exact ⟨pos + nn, pos + n, _, HG1.out, hpn', by go_num, HR6, by simpa [Hid] using HG2.out⟩
                case measure =>
                  have hmu2 : w'.iterPos (w1.heap.size + 1) = pos + nn := by simp [World.iterPos, HR6.out.iter]
                  rw [hmu.out, hmu2]
                  omega
          · have hk4' : ¬ (k : Int) < 4 := by omega
            have HE : Hid (toks 0 s.data.toList = .error pos) := HC3.out (step_zero fun j hj => hz0.out j (by omega))
            go_wp2
            refine bodyPost_ret (results_tmp3 rfl _ _ _) rfl ?_
            exact ⟨hR2.out.below, .inl ⟨pos, HE.out, rfl⟩⟩
    · have hnext : ∀ ty, (Instr.next (.pointer (some ⟨w1.heap.size + 1, 0, none⟩)) true ty).run Tryd.prog wr = _ := fun ty => Lib.run_next_end_at wr (w1.heap.size + 1) s pos ty hR.out.iter hp
      have HC : Hid (toks 0 s.data.toList = .ok ts) := by
        obtain rfl : next = s.size := by omega
        exact hC.out.done
      go_wp2
      show Exit.noGoto _ Exit.ret _ _
      rw [Exit.noGoto_ret]
      refine bodyPost_ret (results_tmp3 rfl _ _ _) rfl ?_
      exact ⟨hR.out.below, .inr ⟨ts, _, HC.out, rfl, ownsRow_mono hR.out.row (by have := hR.out.base; omega)⟩⟩
end Go.Proofs.YtkieljleopbhoaaDoor.Lex
namespace Go.Proofs.YtkieljleopbhoaaDoor.Lex
open Go.ChangeShapes Go.WideShapes Go.ChangeAt Go.RowKit Go.Joins
theorem toksV_at (ts : List Tok) (i : Nat) (hi : i < ts.length) :
    (toksV ts)[3 * i]? = some (.int .u8 (ts[i].kind : Int)) ∧ (toksV ts)[3 * i + 1]? = some (.string ⟨ts[i].text.toArray⟩) ∧ (toksV ts)[3 * i + 2]? = some (.int .i64 (ts[i].at_ : Int)) := by
  induction ts generalizing i with
  | nil => simp at hi
  | cons t ts ih =>
    have e : toksV (t :: ts) = tokV t ++ toksV ts := by simp [toksV]
    rw [e]
    cases i with
    | zero => exact ⟨rfl, rfl, rfl⟩
    | succ i =>
      have := ih i (by simpa using hi)
      have hl : (tokV t).length = 3 := rfl
      refine ⟨?_, ?_, ?_⟩
      · rw [List.getElem?_append_right (by omega), hl, show 3 * (i + 1) - 3 = 3 * i by omega]; simpa using this.1
      · rw [List.getElem?_append_right (by omega), hl, show 3 * (i + 1) + 1 - 3 = 3 * i + 1 by omega]; simpa using this.2.1
      · rw [List.getElem?_append_right (by omega), hl, show 3 * (i + 1) + 2 - 3 = 3 * i + 2 by omega]; simpa using this.2.2
theorem marks_own {w : World} {B : Nat} {v : Value} {ts : List Tok} (h : w.ownsRow B 45 3 v ts.length (toksV ts)) : MarksAt w v (ts.map tokM) ∧ ∀ a n c, v = .slice (some a) n c → a.block < w.heap.size := by
  rcases h.2 with ⟨rfl, h0⟩ | ⟨g, cap, cur, rfl, hg0, hg, rest⟩
  · exact ⟨⟨none, 0, by rw [List.length_map, h0], .inl (by rw [List.length_map]; exact h0)⟩, fun a n c e => by cases e⟩
  · refine ⟨⟨_, cap, by rw [List.length_map], .inr ⟨g, 0, rfl, fun i hi => ?_⟩⟩, fun a n c e => ?_⟩
    · have hi' : i < ts.length := by simpa using hi
      obtain ⟨a, b, c⟩ := toksV_at ts i hi'
      refine ⟨?_, ?_, ts[i].at_, ?_⟩
      · rw [Nat.zero_add, h.cellAt _ (by omega), Nat.mul_comm]; simpa [tokM] using a
      · rw [Nat.zero_add, h.cellAt _ (by omega), Nat.mul_comm]; simpa [tokM] using b
      · rw [Nat.zero_add, h.cellAt _ (by omega), Nat.mul_comm]; exact c
    · injection e with e1 _ _
      injection e1 with e1
      rw [← e1]
      exact (Array.getElem?_eq_some_iff.1 hg).1
theorem toks_in : ∀ (m : Nat) (l : List UInt8) (a : Nat) (ts : List Tok), l.length ≤ m → toks a l = .ok ts → (∀ t ∈ ts, t.kind ≤ 3 ∧ t.text.length ≤ l.length) ∧ ts.length ≤ l.length
  | m, [], a, ts, _, h => by rw [toks_nil] at h; cases h; exact ⟨fun t ht => (by cases ht), Nat.le_refl _⟩
  | 0, c :: l, a, ts, hm, h => by simp at hm
  | m + 1, c :: l, a, ts, hm, h => by
    cases e : step (c :: l) with
    | none => rw [toks_none (by simp) e] at h; cases h
    | some kn =>
      obtain ⟨k, n⟩ := kn
      have hs := step_le e
      rw [toks_some (by simp) e] at h
      cases e2 : toks (a + n) ((c :: l).drop n) with
      | error x => rw [e2] at h; cases h
      | ok us =>
        rw [e2] at h
        have hd : ((c :: l).drop n).length = (c :: l).length - n := List.length_drop ..
        obtain ⟨i1, i2⟩ := toks_in m _ _ us (by omega) e2
        simp only [ahead] at h
        injection h with h
        subst h
        constructor
        · intro t ht
          rcases List.mem_append.1 ht with ht | ht
          · split at ht
            · cases ht
            · simp only [List.mem_singleton] at ht
              subst ht
              exact ⟨hs.2.2, by simp only [List.length_take]; omega⟩
          · obtain ⟨j1, j2⟩ := i1 t ht
            exact ⟨j1, by omega⟩
        · rw [List.length_append]
          have : (if k = 0 then ([] : List Tok) else [⟨k, (c :: l).take n, a⟩]).length ≤ 1 := by split <;> simp
          omega
theorem toks_ok {l : List UInt8} {ts : List Tok} (h : toks 0 l = .ok ts) (hl : l.length ≤ 65536) : TsOk (ts.map tokM) ∧ ts.length ≤ 65536 := by
  obtain ⟨h1, h2⟩ := toks_in l.length l 0 ts (Nat.le_refl _) h
  refine ⟨fun m hm => ?_, by omega⟩
  obtain ⟨t, ht, rfl⟩ := List.mem_map.1 hm
  obtain ⟨j1, j2⟩ := h1 t ht
  refine ⟨by show t.kind < 256; omega, ?_⟩
  show (⟨t.text.toArray⟩ : ByteArray).size ≤ 1048576
  rw [Lib.size_eq]
  show t.text.length ≤ 1048576
  omega
/-- What Parse answers, in short. -/
theorem parse_sum {w : World} (v : Value) (ts : List Mark) (hM : MarksAt w v ts) (hv : ∀ a n c, v = .slice (some a) n c → a.block < w.heap.size) (E : REnv w) (hT : TsOk ts) (hfew : ts.length ≤ 140737488355328) : Calls Tryd.prog 19 #[v, .int .i64 0] w fun e w' => Below w.heap.size w w' ∧ ∃ x ao cap, ∃ (q f : Nat), e = .returned (.tuple #[exV x (.slice ao x.args.length cap), .int .i64 (q : Int), .int .i64 (f : Int)]) ∧ StP (fun b => w.heap.size ≤ b) w' x (.slice ao x.args.length cap) ∧
    ((f = 0 ∧ P ts 0 0 = .ok (x, q) ∧ chk x = true) ∨ (f ≠ 0 ∧ ∀ y r, P ts 0 0 = .ok (y, r) → chk y = false)) := by
  refine (parse v ts 0 hM hv E hT (Nat.zero_le _) hfew).mono ?_
  intro e w' hp
  have z : StP (fun b => w.heap.size ≤ b) w' ⟨0, 0, ByteArray.empty, []⟩ (.slice none 0 0) := StP.leaf 0 0 _ (by omega) (by omega) (by decide)
  unfold PostP at hp
  obtain ⟨hb, hp⟩ := hp
  refine ⟨hb, ?_⟩
  cases e1 : P ts 0 0 with
  | error nq =>
    obtain ⟨n, q⟩ := nq
    rw [e1] at hp
    exact ⟨⟨0, 0, ByteArray.empty, []⟩, none, 0, q, n, hp, z, .inr ⟨P_bad e1, fun y r h => by cases h⟩⟩
  | ok xq =>
    obtain ⟨x, q⟩ := xq
    rw [e1] at hp
    rcases hp with ⟨hc, s, he, st⟩ | ⟨hc, he⟩
    · obtain ⟨ao, cap, rfl⟩ := st.form
      exact ⟨x, ao, cap, q, 0, he, st, .inl ⟨rfl, rfl, hc⟩⟩
    · exact ⟨⟨0, 0, ByteArray.empty, []⟩, none, 0, 0, 3, he, z, .inr ⟨by omega, fun y r h => by cases h; exact hc⟩⟩
/-- A text, all of it. -/
def readX (l : List UInt8) : Option Ex := match toks 0 l with
  | .error _ => none
  | .ok ts => match P (ts.map tokM) 0 0 with
    | .ok (x, q) => if chk x = true ∧ q = ts.length then some x else none
    | .error _ => none
structure AEnv (w : World) : Prop where
  tabS : TabS w
  env : Env w
  var : ∃ tp pv, w.var? Tryd.prog "strconv.ErrRange" = some #[.iface tp pv]
theorem AEnv.below {w W : World} (h : AEnv w) (b : Below w.heap.size w W) : AEnv W := by
  obtain ⟨tp, pv, e⟩ := h.var
  exact ⟨h.tabS.below b, h.env.below b, tp, pv, varAt e b⟩
theorem AEnv.renv {w : World} (h : AEnv w) : REnv w := ⟨h.env.res, h.env.joins, h.var⟩
theorem P_nil (y : Ex) (r : Nat) : P [] 0 0 ≠ .ok (y, r) := fun h => by
  rw [P_atom (by intro hc; exact absurd hc.2 (by rw [isMk_eq]; decide))] at h
  have : atomR [] (P []) 0 = .error (5, 0) := by
    have a : ∀ k t, k ≠ 0 → isMk (markAt [] 0) k t = false := fun k t hk => mk_no _ _ _ (by show (0 : Nat) ≠ k; omega)
    unfold atomR
    simp only
    rw [a _ _ (by omega), a _ _ (by omega), a _ _ (by omega), a _ _ (by omega), a _ _ (by omega), a _ _ (by omega)]
    rfl
  rw [this] at h
  cases h
theorem fz {f : Nat} (h : f ≠ 0) : ((f : Int) == 0) = false := by simp [h]
set_option maxRecDepth 100000 in
set_option maxHeartbeats 1000000 in
theorem read_p1 (s : ByteArray) (w : World) (n : Nat) (at_ : Int) (G : World → Option Addr → Nat → Prop) (D : Ex → Nat → Nat → Prop)
    (cr : Calls Tryd.prog 18 #[.string s] (w.alloc (.cells c25 25)) fun e w' => ∃ a cap, e = .returned (.tuple #[.slice a n cap, .int .i64 at_, .int .i64 5]) ∧ Below (w.alloc (.cells c25 25)).heap.size (w.alloc (.cells c25 25)) w' ∧ G w' a cap)
    (cp : ∀ w2 a cap, Below (w.alloc (.cells c25 25)).heap.size (w.alloc (.cells c25 25)) w2 → G w2 a cap → Calls Tryd.prog 19 #[.slice a n cap, .int .i64 0] w2 fun e w' => Below w2.heap.size w2 w' ∧ ∃ x ao cap, ∃ (q f : Nat), e = .returned (.tuple #[exV x (.slice ao x.args.length cap), .int .i64 (q : Int), .int .i64 (f : Int)]) ∧ StP (fun b => w2.heap.size ≤ b) w' x (.slice ao x.args.length cap) ∧ D x q f) :
    Calls Tryd.prog 15 #[.string s] w fun e w' => Below w.heap.size w w' ∧ ∃ x ao cap, ∃ (q f : Nat), e = .returned (.tuple #[exV x (.slice ao x.args.length cap), .bool false]) ∧ StP (fun b => w.heap.size ≤ b) w' x (.slice ao x.args.length cap) ∧ D x q f := by
  have B0 := hid ((Below.refl w.heap.size w).alloc (Nat.le_refl _) (.cells c25 25))
  have X0 := hid (heap_alloc_new w (.cells c25 25))
  go_enter Tryd.func15, Tryd.ntmps15
  go_wp2_with (first
    | (go_at_call 18; refine cr.mono ?_; rintro e w2 ⟨a, cp0, rfl, b2, hG⟩; have c19 := cp w2 a cp0 b2 hG; have B2 := hid b2; clear b2 cr cp hG)
    | (go_at_call 19; refine c19.mono ?_; rintro e w3 ⟨b3, x, ao, cap, q, f, rfl, st, hd⟩; have b4 := bstep (bstep B2.out b3) ((Below.refl w3.heap.size w3).alloc (Nat.le_refl _) (.cells (ex4 x (.slice ao x.args.length cap)) 25)); have X7 := heap_alloc_new w3 (.cells (ex4 x (.slice ao x.args.length cap)) 25); have X2 := (b4.block _ (by simp)).trans X0.out; have B4 := hid b4; have ST := hid st; have HD := hid hd; clear b3 b4 st hd c19)
    | (refine wpList_load_row rfl 25 _ rfl w3.heap.size rfl 25 (ex4 x (.slice ao x.args.length cap)) (0, 0) _ X7 Tryd.underlying25 rfl info25 ?_)
    | (refine wpList_store_row rfl 25 _ _ rfl w.heap.size (ex4 x (.slice ao x.args.length cap)) rfl rfl 25 _ X2 info25 rfl (by simp [Value.oneCell', ex4]) ?_))
  refine bodyPost_ret (results_row_tmp rfl _ _ w.heap.size (ex4 x (.slice ao x.args.length cap)) rfl (run_loadVar_row _ _ 25 25 (ex4 x (.slice ao x.args.length cap)) (0, 0) _ (setRow_heap _ _ _ _ _ _ X2) Tryd.underlying25 rfl info25)) rfl ⟨below_row (bstep B0.out B4.out) (bstep B0.out B4.out).size (Nat.le_refl _) _, x, ao, cap, _, _, rfl, ?_, HD.out⟩
  refine StP.carryN (fun b hb hl => (setRow_other _ _ _ _ ?_).trans (Below.heap_alloc _ _ _ hl)) (fun b _ hb => ?_) _ x _ (Nat.le_refl _) ST.out
  · have := B2.out.size
    have hb' : w2.heap.size ≤ b := hb
    simp at this
    omega
  · have := B2.out.size
    have hb' : w2.heap.size ≤ b := hb
    simp at this
    show w.heap.size ≤ b
    omega
set_option maxRecDepth 100000 in
set_option maxHeartbeats 1000000 in
theorem read_p2 (s : ByteArray) (w : World) (n : Nat) (at_ : Int) (G : World → Option Addr → Nat → Prop) (D : Ex → Nat → Nat → Prop)
    (cr : Calls Tryd.prog 18 #[.string s] (w.alloc (.cells c25 25)) fun e w' => ∃ a cap, e = .returned (.tuple #[.slice a n cap, .int .i64 at_, .int .i64 0]) ∧ Below (w.alloc (.cells c25 25)).heap.size (w.alloc (.cells c25 25)) w' ∧ G w' a cap)
    (cp : ∀ w2 a cap, Below (w.alloc (.cells c25 25)).heap.size (w.alloc (.cells c25 25)) w2 → G w2 a cap → Calls Tryd.prog 19 #[.slice a n cap, .int .i64 0] w2 fun e w' => Below w2.heap.size w2 w' ∧ ∃ x ao cap, ∃ (q f : Nat), e = .returned (.tuple #[exV x (.slice ao x.args.length cap), .int .i64 (q : Int), .int .i64 (f : Int)]) ∧ StP (fun b => w2.heap.size ≤ b) w' x (.slice ao x.args.length cap) ∧ D x q f) (hD : ∀ x q f, D x q f → f ≠ 0) :
    Calls Tryd.prog 15 #[.string s] w fun e w' => Below w.heap.size w w' ∧ ∃ x ao cap, ∃ (q f : Nat), e = .returned (.tuple #[exV x (.slice ao x.args.length cap), .bool false]) ∧ StP (fun b => w.heap.size ≤ b) w' x (.slice ao x.args.length cap) ∧ D x q f := by
  have B0 := hid ((Below.refl w.heap.size w).alloc (Nat.le_refl _) (.cells c25 25))
  have X0 := hid (heap_alloc_new w (.cells c25 25))
  go_enter Tryd.func15, Tryd.ntmps15
  go_wp2_with (first
    | (go_at_call 18; refine cr.mono ?_; rintro e w2 ⟨a, cp0, rfl, b2, hG⟩; have c19 := cp w2 a cp0 b2 hG; have B2 := hid b2; clear b2 cr cp hG)
    | (go_at_call 19; refine c19.mono ?_; rintro e w3 ⟨b3, x, ao, cap, q, f, rfl, st, hd⟩; have hf1 := fz (hD x q f hd); have b4 := bstep (bstep B2.out b3) ((Below.refl w3.heap.size w3).alloc (Nat.le_refl _) (.cells (ex4 x (.slice ao x.args.length cap)) 25)); have X7 := heap_alloc_new w3 (.cells (ex4 x (.slice ao x.args.length cap)) 25); have X2 := (b4.block _ (by simp)).trans X0.out; have B4 := hid b4; have ST := hid st; have HD := hid hd; clear b3 b4 st hd c19)
    | (refine wpList_load_row rfl 25 _ rfl w3.heap.size rfl 25 (ex4 x (.slice ao x.args.length cap)) (0, 0) _ X7 Tryd.underlying25 rfl info25 ?_)
    | (refine wpList_store_row rfl 25 _ _ rfl w.heap.size (ex4 x (.slice ao x.args.length cap)) rfl rfl 25 _ X2 info25 rfl (by simp [Value.oneCell', ex4]) ?_))
  refine bodyPost_ret (results_row_tmp rfl _ _ w.heap.size (ex4 x (.slice ao x.args.length cap)) rfl (run_loadVar_row _ _ 25 25 (ex4 x (.slice ao x.args.length cap)) (0, 0) _ (setRow_heap _ _ _ _ _ _ X2) Tryd.underlying25 rfl info25)) rfl ⟨below_row (bstep B0.out B4.out) (bstep B0.out B4.out).size (Nat.le_refl _) _, x, ao, cap, _, _, rfl, ?_, HD.out⟩
  refine StP.carryN (fun b hb hl => (setRow_other _ _ _ _ ?_).trans (Below.heap_alloc _ _ _ hl)) (fun b _ hb => ?_) _ x _ (Nat.le_refl _) ST.out
  · have := B2.out.size
    have hb' : w2.heap.size ≤ b := hb
    simp at this
    omega
  · have := B2.out.size
    have hb' : w2.heap.size ≤ b := hb
    simp at this
    show w.heap.size ≤ b
    omega
set_option maxRecDepth 100000 in
set_option maxHeartbeats 1000000 in
theorem read_p3 (s : ByteArray) (w : World) (n : Nat) (at_ : Int) (G : World → Option Addr → Nat → Prop) (D : Ex → Nat → Nat → Prop)
    (cr : Calls Tryd.prog 18 #[.string s] (w.alloc (.cells c25 25)) fun e w' => ∃ a cap, e = .returned (.tuple #[.slice a n cap, .int .i64 at_, .int .i64 0]) ∧ Below (w.alloc (.cells c25 25)).heap.size (w.alloc (.cells c25 25)) w' ∧ G w' a cap)
    (cp : ∀ w2 a cap, Below (w.alloc (.cells c25 25)).heap.size (w.alloc (.cells c25 25)) w2 → G w2 a cap → Calls Tryd.prog 19 #[.slice a n cap, .int .i64 0] w2 fun e w' => Below w2.heap.size w2 w' ∧ ∃ x ao cap, ∃ (q f : Nat), e = .returned (.tuple #[exV x (.slice ao x.args.length cap), .int .i64 (q : Int), .int .i64 (f : Int)]) ∧ StP (fun b => w2.heap.size ≤ b) w' x (.slice ao x.args.length cap) ∧ D x q f) (hD : ∀ x q f, D x q f → f = 0 ∧ ((q : Int) == (n : Int)) = false) :
    Calls Tryd.prog 15 #[.string s] w fun e w' => Below w.heap.size w w' ∧ ∃ x ao cap, ∃ (q f : Nat), e = .returned (.tuple #[exV x (.slice ao x.args.length cap), .bool false]) ∧ StP (fun b => w.heap.size ≤ b) w' x (.slice ao x.args.length cap) ∧ D x q f := by
  have B0 := hid ((Below.refl w.heap.size w).alloc (Nat.le_refl _) (.cells c25 25))
  have X0 := hid (heap_alloc_new w (.cells c25 25))
  go_enter Tryd.func15, Tryd.ntmps15
  go_wp2_with (first
    | (go_at_call 18; refine cr.mono ?_; rintro e w2 ⟨a, cp0, rfl, b2, hG⟩; have c19 := cp w2 a cp0 b2 hG; have B2 := hid b2; clear b2 cr cp hG)
    | (go_at_call 19; refine c19.mono ?_; rintro e w3 ⟨b3, x, ao, cap, q, f, rfl, st, hd⟩; obtain ⟨rfl, hqq⟩ := hD x q f hd; simp only [Int.cast_ofNat_Int]; have b4 := bstep (bstep B2.out b3) ((Below.refl w3.heap.size w3).alloc (Nat.le_refl _) (.cells (ex4 x (.slice ao x.args.length cap)) 25)); have X7 := heap_alloc_new w3 (.cells (ex4 x (.slice ao x.args.length cap)) 25); have X2 := (b4.block _ (by simp)).trans X0.out; have B4 := hid b4; have ST := hid st; have HD := hid hd; clear b3 b4 st hd c19)
    | (refine wpList_load_row rfl 25 _ rfl w3.heap.size rfl 25 (ex4 x (.slice ao x.args.length cap)) (0, 0) _ X7 Tryd.underlying25 rfl info25 ?_)
    | (refine wpList_store_row rfl 25 _ _ rfl w.heap.size (ex4 x (.slice ao x.args.length cap)) rfl rfl 25 _ X2 info25 rfl (by simp [Value.oneCell', ex4]) ?_))
  refine bodyPost_ret (results_row_tmp rfl _ _ w.heap.size (ex4 x (.slice ao x.args.length cap)) rfl (run_loadVar_row _ _ 25 25 (ex4 x (.slice ao x.args.length cap)) (0, 0) _ (setRow_heap _ _ _ _ _ _ X2) Tryd.underlying25 rfl info25)) rfl ⟨below_row (bstep B0.out B4.out) (bstep B0.out B4.out).size (Nat.le_refl _) _, x, ao, cap, _, _, rfl, ?_, HD.out⟩
  refine StP.carryN (fun b hb hl => (setRow_other _ _ _ _ ?_).trans (Below.heap_alloc _ _ _ hl)) (fun b _ hb => ?_) _ x _ (Nat.le_refl _) ST.out
  · have := B2.out.size
    have hb' : w2.heap.size ≤ b := hb
    simp at this
    omega
  · have := B2.out.size
    have hb' : w2.heap.size ≤ b := hb
    simp at this
    show w.heap.size ≤ b
    omega
set_option maxRecDepth 100000 in
set_option maxHeartbeats 1000000 in
theorem read_p4 (s : ByteArray) (w : World) (n : Nat) (at_ : Int) (G : World → Option Addr → Nat → Prop) (D : Ex → Nat → Nat → Prop)
    (cr : Calls Tryd.prog 18 #[.string s] (w.alloc (.cells c25 25)) fun e w' => ∃ a cap, e = .returned (.tuple #[.slice a n cap, .int .i64 at_, .int .i64 0]) ∧ Below (w.alloc (.cells c25 25)).heap.size (w.alloc (.cells c25 25)) w' ∧ G w' a cap)
    (cp : ∀ w2 a cap, Below (w.alloc (.cells c25 25)).heap.size (w.alloc (.cells c25 25)) w2 → G w2 a cap → Calls Tryd.prog 19 #[.slice a n cap, .int .i64 0] w2 fun e w' => Below w2.heap.size w2 w' ∧ ∃ x ao cap, ∃ (q f : Nat), e = .returned (.tuple #[exV x (.slice ao x.args.length cap), .int .i64 (q : Int), .int .i64 (f : Int)]) ∧ StP (fun b => w2.heap.size ≤ b) w' x (.slice ao x.args.length cap) ∧ D x q f) (hD : ∀ x q f, D x q f → f = 0 ∧ q = n) :
    Calls Tryd.prog 15 #[.string s] w fun e w' => Below w.heap.size w w' ∧ ∃ x ao cap, ∃ (q f : Nat), e = .returned (.tuple #[exV x (.slice ao x.args.length cap), .bool true]) ∧ StP (fun b => w.heap.size ≤ b) w' x (.slice ao x.args.length cap) ∧ D x q f := by
  have B0 := hid ((Below.refl w.heap.size w).alloc (Nat.le_refl _) (.cells c25 25))
  have X0 := hid (heap_alloc_new w (.cells c25 25))
  go_enter Tryd.func15, Tryd.ntmps15
  go_wp2_with (first
    | (go_at_call 18; refine cr.mono ?_; rintro e w2 ⟨a, cp0, rfl, b2, hG⟩; have c19 := cp w2 a cp0 b2 hG; have B2 := hid b2; clear b2 cr cp hG)
    | (go_at_call 19; refine c19.mono ?_; rintro e w3 ⟨b3, x, ao, cap, q, f, rfl, st, hd⟩; obtain ⟨rfl, rfl⟩ := hD x q f hd; simp only [Int.cast_ofNat_Int]; have b4 := bstep (bstep B2.out b3) ((Below.refl w3.heap.size w3).alloc (Nat.le_refl _) (.cells (ex4 x (.slice ao x.args.length cap)) 25)); have X7 := heap_alloc_new w3 (.cells (ex4 x (.slice ao x.args.length cap)) 25); have X2 := (b4.block _ (by simp)).trans X0.out; have B4 := hid b4; have ST := hid st; have HD := hid hd; clear b3 b4 st hd c19)
    | (refine wpList_load_row rfl 25 _ rfl w3.heap.size rfl 25 (ex4 x (.slice ao x.args.length cap)) (0, 0) _ X7 Tryd.underlying25 rfl info25 ?_)
    | (refine wpList_store_row rfl 25 _ _ rfl w.heap.size (ex4 x (.slice ao x.args.length cap)) rfl rfl 25 _ X2 info25 rfl (by simp [Value.oneCell', ex4]) ?_))
  refine bodyPost_ret (results_row_tmp rfl _ _ w.heap.size (ex4 x (.slice ao x.args.length cap)) rfl (run_loadVar_row _ _ 25 25 (ex4 x (.slice ao x.args.length cap)) (0, 0) _ (setRow_heap _ _ _ _ _ _ X2) Tryd.underlying25 rfl info25)) rfl ⟨below_row (bstep B0.out B4.out) (bstep B0.out B4.out).size (Nat.le_refl _) _, x, ao, cap, _, _, rfl, ?_, HD.out⟩
  refine StP.carryN (fun b hb hl => (setRow_other _ _ _ _ ?_).trans (Below.heap_alloc _ _ _ hl)) (fun b _ hb => ?_) _ x _ (Nat.le_refl _) ST.out
  · have := B2.out.size
    have hb' : w2.heap.size ≤ b := hb
    simp at this
    omega
  · have := B2.out.size
    have hb' : w2.heap.size ≤ b := hb
    simp at this
    show w.heap.size ≤ b
    omega
theorem readE (s : ByteArray) (w : World) (hs : s.size ≤ 65536) (A : AEnv w) : Calls Tryd.prog 15 #[.string s] w fun e w' => Below w.heap.size w w' ∧ ∃ x ao cap, e = .returned (.tuple #[exV x (.slice ao x.args.length cap), .bool (readX s.data.toList).isSome]) ∧ StP (fun b => w.heap.size ≤ b) w' x (.slice ao x.args.length cap) ∧ ∀ y, readX s.data.toList = some y → x = y := by
  have b0 := (Below.refl w.heap.size w).alloc (Nat.le_refl _) (.cells c25 25)
  have cr := read s (w.alloc (.cells c25 25)) (A.below b0).tabS hs
  have hl : s.data.toList.length ≤ 65536 := by rw [← Lib.size_eq]; exact hs
  cases ht : toks 0 s.data.toList with
  | error a =>
    have R : readX s.data.toList = none := by unfold readX; rw [ht]
    rw [R]
    refine (read_p1 s w 0 (a : Int) (fun _ a c => a = none ∧ c = 0) (fun _ _ _ => True) (cr.mono fun e w' ⟨hb, hc⟩ => ?_) fun w2 a cap b2 hG => ?_).mono ?_
    · rcases hc with ⟨b, h1, h2⟩ | ⟨us, v, h1, _⟩
      · rw [ht] at h1; injection h1 with h1; subst h1; exact ⟨none, 0, h2, hb, rfl, rfl⟩
      · rw [ht] at h1; cases h1
    · obtain ⟨rfl, rfl⟩ := hG
      exact (parse_sum (w := w2) (.slice none 0 0) [] ⟨none, 0, rfl, .inl rfl⟩ (fun a n c e => by cases e) ((A.below b0).below b2).renv (fun m hm => by cases hm) (by simp)).mono fun e w' ⟨h1, x, ao, cap, q, f, h2, h3, _⟩ => ⟨h1, x, ao, cap, q, f, h2, h3, trivial⟩
    · rintro e w' ⟨h1, x, ao, cap, q, f, h2, h3, _⟩
      exact ⟨h1, x, ao, cap, h2, h3, fun y h => by cases h⟩
  | ok ts =>
    obtain ⟨hTs, hts⟩ := toks_ok ht hl
    have cr1 : Calls Tryd.prog 18 #[.string s] (w.alloc (.cells c25 25)) fun e w' => ∃ a cap, e = .returned (.tuple #[.slice a ts.length cap, .int .i64 0, .int .i64 0]) ∧ Below (w.alloc (.cells c25 25)).heap.size (w.alloc (.cells c25 25)) w' ∧ MarksAt w' (.slice a ts.length cap) (ts.map tokM) ∧ ∀ a' n c, Value.slice a ts.length cap = .slice (some a') n c → a'.block < w'.heap.size := cr.mono fun e w' ⟨hb, hc⟩ => by
      rcases hc with ⟨b, h1, h2⟩ | ⟨us, v, h1, h2, h3⟩
      · rw [ht] at h1; cases h1
      · rw [ht] at h1
        injection h1 with h1
        subst h1
        obtain ⟨m1, m2⟩ := marks_own h3
        obtain ⟨a, cap, e1, m3⟩ := m1
        have e2 : v = .slice a ts.length cap := by rw [e1, List.length_map]
        subst e2
        exact ⟨a, cap, h2, hb, ⟨a, cap, e1, m3⟩, m2⟩
    have cp := fun w2 a cap (b2 : Below (w.alloc (.cells c25 25)).heap.size (w.alloc (.cells c25 25)) w2) (hG : MarksAt w2 (.slice a ts.length cap) (ts.map tokM) ∧ ∀ a' n c, Value.slice a ts.length cap = .slice (some a') n c → a'.block < w2.heap.size) => parse_sum (w := w2) (.slice a ts.length cap) (ts.map tokM) hG.1 hG.2 ((A.below b0).below b2).renv hTs (by rw [List.length_map]; omega)
    have R : readX s.data.toList = match P (ts.map tokM) 0 0 with | .ok (x, q) => if chk x = true ∧ q = ts.length then some x else none | .error _ => none := by unfold readX; rw [ht]
    by_cases hpp : ∃ x q, P (ts.map tokM) 0 0 = .ok (x, q) ∧ chk x = true
    · obtain ⟨x0, q0, hp0, hc0⟩ := hpp
      have hd0 : ∀ x q f, ((f = 0 ∧ P (ts.map tokM) 0 0 = .ok (x, q) ∧ chk x = true) ∨ (f ≠ 0 ∧ ∀ y r, P (ts.map tokM) 0 0 = .ok (y, r) → chk y = false)) → f = 0 ∧ x = x0 ∧ q = q0 := fun x q f h => by
        rcases h with ⟨h1, h2, _⟩ | ⟨_, h2⟩
        · rw [hp0] at h2
          injection h2 with h2
          injection h2 with e1 e2
          exact ⟨h1, e1.symm, e2.symm⟩
        · rw [h2 x0 q0 hp0] at hc0; cases hc0
      by_cases hq : q0 = ts.length
      · have R1 : readX s.data.toList = some x0 := by rw [R, hp0]; simp [hc0, hq]
        rw [R1]
        refine (read_p4 s w ts.length 0 _ _ cr1 cp fun x q f h => ⟨(hd0 x q f h).1, (hd0 x q f h).2.2.trans hq⟩).mono ?_
        rintro e w' ⟨h1, x, ao, cap, q, f, h2, h3, h4⟩
        exact ⟨h1, x, ao, cap, h2, h3, fun y h => by injection h with h; rw [← h]; exact (hd0 x q f h4).2.1⟩
      · have R1 : readX s.data.toList = none := by rw [R, hp0]; simp [hq]
        rw [R1]
        refine (read_p3 s w ts.length 0 _ _ cr1 cp fun x q f h => ⟨(hd0 x q f h).1, by rw [(hd0 x q f h).2.2]; simp; omega⟩).mono ?_
        rintro e w' ⟨h1, x, ao, cap, q, f, h2, h3, h4⟩
        exact ⟨h1, x, ao, cap, h2, h3, fun y h => by cases h⟩
    · have R1 : readX s.data.toList = none := by
        rw [R]
        cases hp : P (ts.map tokM) 0 0 with
        | error e => rfl
        | ok xq =>
          obtain ⟨x, q⟩ := xq
          simp only
          rw [if_neg (fun hc => hpp ⟨x, q, hp, hc.1⟩)]
      rw [R1]
      refine (read_p2 s w ts.length 0 _ _ cr1 cp fun x q f h => ?_).mono ?_
      · rcases h with ⟨h1, h2, h3⟩ | ⟨h1, _⟩
        · exact (hpp ⟨x, q, h2, h3⟩).elim
        · exact h1
      · rintro e w' ⟨h1, x, ao, cap, q, f, h2, h3, h4⟩
        exact ⟨h1, x, ao, cap, h2, h3, fun y h => by cases h⟩
end Go.Proofs.YtkieljleopbhoaaDoor.Lex
namespace Go.Proofs.YtkieljleopbhoaaDoor.Lex
open Go.ChangeShapes Go.WideShapes Go.ChangeAt Go.RowKit Go.Joins
def SameC (x : Ex) : Prop := ∀ (w : World) (t s : Value), St w x t → St w x s → Calls Tryd.prog 16 #[exV x t, exV x s] w fun e w' => e = .returned (.bool true) ∧ Below w.heap.size w w'
set_option maxRecDepth 100000 in
set_option maxHeartbeats 2000000 in
theorem sames (x : Ex) (ih : ∀ i (h : i < x.args.length), SameC x.args[i]) (w : World) (t s : Value) (hT : St w x t) (hS : St w x s) :
    Calls Tryd.prog 32 #[t, s] w fun e w' => e = .returned (.bool true) ∧ Below w.heap.size w w' := by
  obtain ⟨ao, cap, sl, rfl, _, _, _, hlen, _, hc, hs⟩ := hS.out
  obtain ⟨at_, cp, tl, rfl, _, _, _, _, _, htc, hts⟩ := hT.out
  have HS := hid hs
  have HC := hid hc
  have HI := hid ih
  have HT := hid htc
  have HTS := hid hts
  have hne : ((x.args.length : Int) != (x.args.length : Int)) = false := by simp
  clear hs hc ih hS hT htc hts
  go_enter Tryd.func32, Tryd.ntmps32
  go_wp2
  go_loopw [5] (fun i wr => ∃ k : Nat, k ≤ x.args.length ∧ i = .int .i64 (k : Int) ∧ Hid (Below w.heap.size w wr)) (fun i _ => x.args.length - (intOf i).toNat)
  case atStart => exact ⟨0, Nat.zero_le _, rfl, Below.refl _ _⟩
  case round =>
    obtain ⟨k, hk, rfl, hB⟩ := hrel
    by_cases hlt : k < x.args.length
    · have hlt' : (k : Int) < (x.args.length : Int) := by omega
      have hk0 : (0 : Int) ≤ (k : Int) := by omega
      obtain ⟨bb, o, rfl, hcc⟩ := HC.out.resolve_left (by omega)
      obtain ⟨b2, o2, rfl, htt⟩ := HT.out.resolve_left (by omega)
      obtain ⟨a0, a1, a2, a3⟩ := hcc k hlt
      obtain ⟨t0, t1, t2, t3⟩ := htt k hlt
      have v0 := cell_kept a0 hB.out
      have v1 := cell_kept a1 hB.out
      have v2 := cell_kept a2 hB.out
      have v3 := cell_kept a3 hB.out
      have u0 := cell_kept t0 hB.out
      have u1 := cell_kept t1 hB.out
      have u2 := cell_kept t2 hB.out
      have u3 := cell_kept t3 hB.out
      have hst := HS.out k hlt
      have htw := HTS.out k hlt
      have c0 := HI.out k hlt
      generalize x.args[k] = y at *
      clear a0 a1 a2 a3 hcc t0 t1 t2 t3 htt
      generalize sl k = sv at *
      generalize tl k = tv at *
      obtain ⟨a3, c3, _, rfl, _⟩ := hst.out
      obtain ⟨a2, c2, _, rfl, _⟩ := htw.out
      have c := fun W (hb : Below w.heap.size w W) => c0 W _ _ (htw.keep hb) (hst.keep hb)
      clear hst htw c0
      go_wp2
      refine wp_region_held_drew (S := fun W => (W.cell? ⟨b2, o2 + k * 4, none⟩ = some (.int .u8 (y.op : Int)) ∧ W.cell? ⟨b2, o2 + k * 4 + 1, none⟩ = some (.int .i64 y.n) ∧ W.cell? ⟨b2, o2 + k * 4 + 2, none⟩ = some (.string y.name) ∧ W.cell? ⟨b2, o2 + k * 4 + 3, none⟩ = some (.slice a2 y.args.length c2)) ∧ W.cell? ⟨bb, o + k * 4, none⟩ = some (.int .u8 (y.op : Int)) ∧ W.cell? ⟨bb, o + k * 4 + 1, none⟩ = some (.int .i64 y.n) ∧ W.cell? ⟨bb, o + k * 4 + 2, none⟩ = some (.string y.name) ∧ W.cell? ⟨bb, o + k * 4 + 3, none⟩ = some (.slice a3 y.args.length c3)) (by kernel_rfl) ?_ (fun hHeld => ?_)
      · exact ⟨⟨u0, u1, u2, u3⟩, v0, v1, v2, v3⟩
      refine wpAnyH_take (i := 0) (oi := { dst := some 17, op := Go.Op.move (Go.Operand.tmp 0), type := 23, pos := _, after := #[], guard := none }) (v := ?_) rfl (by kernel_rfl) (by kernel_rfl) (by kernel_rfl) (fun _ _ _ h => h) (Or.inl ⟨by rfl, ?_⟩) (by assumption) ?_
      rotate_left
      · intro w hSw; (try dsimp only at hSw); go_simp <;> with_reducible rfl
      simp only [Act.put, List.setIfInBounds_toArray, List.set_cons_zero, List.set_cons_succ]
      refine wpAnyH_take (i := 1) (oi := { dst := some 18, op := Go.Op.move (Go.Operand.tmp 5), type := 3, pos := _, after := #[], guard := none }) (v := ?_) rfl (by kernel_rfl) (by kernel_rfl) (by kernel_rfl) (fun _ _ _ h => h) (Or.inl ⟨by rfl, ?_⟩) (by assumption) ?_
      rotate_left
      · intro w hSw; (try dsimp only at hSw); go_simp <;> with_reducible rfl
      simp only [Act.put, List.setIfInBounds_toArray, List.set_cons_zero, List.set_cons_succ]
      refine wpAnyH_take (i := 2) (oi := { dst := some 19, op := Go.Op.indexAddr 23 (Go.Operand.tmp 17) (Go.Operand.tmp 18), type := 0, pos := _, after := #[{ on := 0, ground := Go.Ground.data }, { on := 1, ground := Go.Ground.data }], guard := none }) (v := ?_) rfl (by kernel_rfl) (by kernel_rfl) (by kernel_rfl) (fun _ _ _ h => h) (Or.inl ⟨by rfl, ?_⟩) (by assumption) ?_
      rotate_left
      · intro w hSw; (try dsimp only at hSw); go_simp <;> with_reducible rfl
      simp only [Act.put, List.setIfInBounds_toArray, List.set_cons_zero, List.set_cons_succ]
      refine wpAnyH_take (i := 3) (oi := { dst := some 20, op := Go.Op.load 25 (Go.Operand.tmp 19), type := 25, pos := _, after := #[{ on := 2, ground := Go.Ground.data }], guard := none }) (v := ?_) rfl (by kernel_rfl) (by kernel_rfl) (by kernel_rfl) (fun _ _ _ h => h) (Or.inl ⟨by rfl, ?_⟩) (by assumption) ?_
      rotate_left
      · intro w hSw; (try dsimp only at hSw); go_simp <;> with_reducible rfl
      simp only [Act.put, List.setIfInBounds_toArray, List.set_cons_zero, List.set_cons_succ]
      refine wpAnyH_take (i := 4) (oi := { dst := some 21, op := Go.Op.move (Go.Operand.tmp 1), type := 23, pos := _, after := #[], guard := none }) (v := ?_) rfl (by kernel_rfl) (by kernel_rfl) (by kernel_rfl) (fun _ _ _ h => h) (Or.inl ⟨by rfl, ?_⟩) (by assumption) ?_
      rotate_left
      · intro w hSw; (try dsimp only at hSw); go_simp <;> with_reducible rfl
      simp only [Act.put, List.setIfInBounds_toArray, List.set_cons_zero, List.set_cons_succ]
      refine wpAnyH_take (i := 5) (oi := { dst := some 22, op := Go.Op.move (Go.Operand.tmp 5), type := 3, pos := _, after := #[], guard := none }) (v := ?_) rfl (by kernel_rfl) (by kernel_rfl) (by kernel_rfl) (fun _ _ _ h => h) (Or.inl ⟨by rfl, ?_⟩) (by assumption) ?_
      rotate_left
      · intro w hSw; (try dsimp only at hSw); go_simp <;> with_reducible rfl
      simp only [Act.put, List.setIfInBounds_toArray, List.set_cons_zero, List.set_cons_succ]
      refine wpAnyH_take (i := 6) (oi := { dst := some 23, op := Go.Op.indexAddr 23 (Go.Operand.tmp 21) (Go.Operand.tmp 22), type := 0, pos := _, after := #[{ on := 4, ground := Go.Ground.data }, { on := 5, ground := Go.Ground.data }], guard := none }) (v := ?_) rfl (by kernel_rfl) (by kernel_rfl) (by kernel_rfl) (fun _ _ _ h => h) (Or.inl ⟨by rfl, ?_⟩) (by assumption) ?_
      rotate_left
      · intro w hSw; (try dsimp only at hSw); go_simp <;> with_reducible rfl
      simp only [Act.put, List.setIfInBounds_toArray, List.set_cons_zero, List.set_cons_succ]
      refine wpAnyH_take (i := 7) (oi := { dst := some 24, op := Go.Op.load 25 (Go.Operand.tmp 23), type := 25, pos := _, after := #[{ on := 6, ground := Go.Ground.data }], guard := none }) (v := ?_) rfl (by kernel_rfl) (by kernel_rfl) (by kernel_rfl) (fun _ _ _ h => h) (Or.inl ⟨by rfl, ?_⟩) (by assumption) ?_
      rotate_left
      · intro w hSw; (try dsimp only at hSw); go_simp <;> with_reducible rfl
      simp only [Act.put, List.setIfInBounds_toArray, List.set_cons_zero, List.set_cons_succ]
      refine wpAnyH_ready (rs := [8]) (by kernel_rfl) (by simp) ?_
      refine AllReadyH.cons (o := { dst := some 25, op := Go.Op.call { callee := Go.Callee.value (Go.Operand.func 16), args := #[Go.Operand.tmp 20, Go.Operand.tmp 24], argTypes := #[25, 25] }, type := 4, pos := _, after := #[{ on := 3, ground := Go.Ground.data }, { on := 7, ground := Go.Ground.data }], guard := none }) rfl (fun K hK => ?_) AllReadyH.nil
      go_simp
      refine (c _ (hB.out.drew)).mono ?_
      rintro e w4 ⟨rfl, hb4⟩
      go_wp2_with fail
      refine hK.out _ _ ?_ (fun hHeld1 => ?_)
      · exact ⟨⟨cell_kept (w := wr.drew) u0 hb4, cell_kept (w := wr.drew) u1 hb4, cell_kept (w := wr.drew) u2 hb4, cell_kept (w := wr.drew) u3 hb4⟩, cell_kept (w := wr.drew) v0 hb4, cell_kept (w := wr.drew) v1 hb4, cell_kept (w := wr.drew) v2 hb4, cell_kept (w := wr.drew) v3 hb4⟩
      clear hK K
      refine wpAnyH_take (i := 9) (oi := { dst := some 26, op := Go.Op.unOp Go.UnOp.not 4 (Go.Operand.tmp 25), type := 4, pos := _, after := #[{ on := 8, ground := Go.Ground.data }], guard := none }) (v := ?_) rfl (by kernel_rfl) (by kernel_rfl) (by kernel_rfl) (fun _ _ _ h => h) (Or.inl ⟨by rfl, ?_⟩) (by assumption) ?_
      rotate_left
      · intro w hSw; (try dsimp only at hSw); go_simp <;> with_reducible rfl
      simp only [Act.put, List.setIfInBounds_toArray, List.set_cons_zero, List.set_cons_succ]
      refine wpAnyH_done (by kernel_rfl) ?_ _
      go_wp2
      go_roundw
      case rel => exact ⟨k + 1, by omega, by go_num, bstep hB.out.drew hb4⟩
      case measure => simp [intOf]; omega
    · have hlt' : ¬ (k : Int) < (x.args.length : Int) := by omega
      go_wp2
      go_ret
      exact ⟨rfl, hB.out⟩
set_option maxRecDepth 100000 in
theorem same_of (x : Ex) (ih : ∀ i (h : i < x.args.length), SameC x.args[i]) : SameC x := by
  intro w t s hT hS
  have hs := fun W hT hS => sames x ih W t s hT hS
  obtain ⟨ao, cap, sl, rfl, _⟩ := hS.out
  obtain ⟨at_, cp, tl, rfl, _⟩ := hT.out
  have e1 : ((x.op : Int) == (x.op : Int)) = true := by simp
  have e2 : (x.n == x.n) = true := by simp
  have e3 : (x.name.toList == x.name.toList) = true := by simp
  have b1 := (Below.refl w.heap.size w).alloc (Nat.le_refl _) (.cells #[.int .u8 (x.op : Int), .int .i64 x.n, .string x.name, .slice at_ x.args.length cp] 25)
  have b2 := bstep b1 ((Below.refl _ _).alloc (Nat.le_refl _) (.cells #[.int .u8 (x.op : Int), .int .i64 x.n, .string x.name, .slice ao x.args.length cap] 25))
  have HT := hid (hT.keep b2)
  have HS := hid (hS.keep b2)
  have HB := hid b2
  clear hT hS b1 b2 ih
  go_enter Tryd.func16, Tryd.ntmps16
  go_wp2_with (go_at_call 32; refine (hs _ HT.out HS.out).mono ?_; rintro e w2 ⟨rfl, hb2⟩)
  go_ret
  exact ⟨rfl, bstep HB.out hb2⟩
/-- SameExpr of one with itself. -/
theorem same_any : ∀ (m : Nat) (x : Ex), SizeOf.sizeOf x ≤ m → SameC x := by
  intro m
  induction m with
  | zero => intro x h; obtain ⟨o, n, s, l⟩ := x; simp at h
  | succ m ih => intro x h; exact same_of x fun i hi => ih _ (by have := x.part_lt i hi; omega)
end Go.Proofs.YtkieljleopbhoaaDoor.Lex
namespace Go.Proofs.YtkieljleopbhoaaDoor.Lex
open Go.ChangeShapes Go.WideShapes Go.ChangeAt Go.RowKit Go.Joins
theorem same (x : Ex) (w : World) (t s : Value) (hT : St w x t) (hS : St w x s) : Calls Tryd.prog 16 #[exV x t, exV x s] w fun e w' => e = .returned (.bool true) ∧ Below w.heap.size w w' := same_any _ x (Nat.le_refl _) w t s hT hS
theorem bytes_of (s : ByteArray) (l : List UInt8) (h : l = s.data.toList) : (⟨l.toArray⟩ : ByteArray) = s := by
  subst h
  obtain ⟨⟨l⟩⟩ := s
  rfl
theorem row_cells4 {W : World} {b : Nat} {x : Ex} {s : Value} (h : W.heap[b]? = some (.cells (ex4 x s) 25 (0, 0))) : W.cell? ⟨b, 0, none⟩ = some (.int .u8 (x.op : Int)) ∧ W.cell? ⟨b, 1, none⟩ = some (.int .i64 x.n) ∧ W.cell? ⟨b, 2, none⟩ = some (.string x.name) ∧ W.cell? ⟨b, 3, none⟩ = some s := by
  refine ⟨?_, ?_, ?_, ?_⟩ <;> (rw [cell_of_row _ _ _ _ 25 (0, 0) h]; rfl)
set_option maxRecDepth 100000 in
set_option maxHeartbeats 1000000 in
theorem is_true (s : ByteArray) (x : Ex) (ao : Option Addr) (cap : Nat) (w : World) (hs : s.size ≤ 65536) (A : AEnv w) (hS : St w x (.slice ao x.args.length cap)) (hr : readX s.data.toList = some x) (hc : chk x = true) (hw : wr x = s.data.toList) : Calls Tryd.prog 31 #[.string s, exV x (.slice ao x.args.length cap)] w fun e w' => e = .returned (.bool true) ∧ Below w.heap.size w w' := by
  have b0 := (Below.refl w.heap.size w).alloc (Nat.le_refl _) (.cells (ex4 x (.slice ao x.args.length cap)) 25)
  have cr := readE s _ hs (A.below b0)
  rw [hr] at cr
  have ct := fun W (b : Below w.heap.size w W) => text x W _ (hS.keep b) (A.below b).env
  have e1 : txt x = wr x := by unfold txt; rw [hc]; rfl
  have e2 : txtE x = 0 := by unfold txtE; rw [hc]; rfl
  rw [e1, e2, bytes_of s _ hw] at ct
  have X0 := hid (heap_alloc_new w (.cells (ex4 x (.slice ao x.args.length cap)) 25))
  have B0 := hid b0
  have HS := hid hS
  have hss : (s.toList == s.toList) = true := by simp
  clear A hS hr hc hw e1 e2 b0 hs
  go_enter Tryd.func31, Tryd.ntmps31
  go_wp2_with (first
    | (go_at_call 15; refine cr.mono ?_; rintro e w2 ⟨b2, y, a2, c2, rfl, st, hy⟩; obtain rfl := hy x rfl; have b3 := bstep (bstep B0.out b2) ((Below.refl w2.heap.size w2).alloc (Nat.le_refl _) (.cells (ex4 y (.slice a2 y.args.length c2)) 25)); have c9 := ct _ b3; have X3 := (((Below.refl w2.heap.size w2).alloc (Nat.le_refl _) (.cells (ex4 y (.slice a2 y.args.length c2)) 25)).block _ (by have := b2.size; simp at this; omega)).trans ((b2.block _ (by simp)).trans X0.out); have X4 := heap_alloc_new w2 (.cells (ex4 y (.slice a2 y.args.length c2)) 25); have B3 := hid b3; have ST := hid (st.st.keep ((Below.refl w2.heap.size w2).alloc (Nat.le_refl _) (.cells (ex4 y (.slice a2 y.args.length c2)) 25))); clear b2 b3 st hy cr ct)
    | (refine wpList_load_row rfl 25 _ rfl w.heap.size rfl 25 (ex4 y (.slice ao y.args.length cap)) (0, 0) _ X3 Tryd.underlying25 rfl info25 ?_)
    | (go_at_call 9; refine c9.mono ?_; rintro e w4 ⟨rfl, b4⟩; have X5 := (b4.block _ (Array.getElem?_eq_some_iff.1 X3).1).trans X3; have X6 := (b4.block _ (Array.getElem?_eq_some_iff.1 X4).1).trans X4; have B4 := hid (bstep B3.out b4); have ST4 := hid (ST.out.keep b4); obtain ⟨p0, p1, p2, p3⟩ := row_cells4 X5; obtain ⟨q0, q1, q2, q3⟩ := row_cells4 X6; clear b4 c9 X3 X4 X5 X6)
    | (go_at_call 16; refine (same y w4 _ _ ST4.out (HS.out.keep B4.out)).mono ?_; rintro e w5 ⟨rfl, b5⟩; have B5 := hid (bstep B4.out b5); clear b5))
  go_ret
  exact ⟨rfl, B5.out⟩
theorem name_at (s : ByteArray) (w : World) : Calls Tryd.prog 30 #[.string s] w fun e w' => e = .returned (exV ⟨3, 0, s, []⟩ (.slice none 0 0)) ∧ Below w.heap.size w w' := by
  have B0 := hid ((Below.refl w.heap.size w).alloc (Nat.le_refl _) (.cells c25 25))
  have X0 := heap_alloc_new w (.cells c25 25)
  go_enter Tryd.func30, Tryd.ntmps30
  go_wp2_with (refine wpList_store_row rfl 25 _ _ rfl w.heap.size (ex4 ⟨3, 0, s, []⟩ (.slice none 0 0)) rfl rfl 25 _ X0 info25 rfl (by simp [Value.oneCell', ex4]) ?_)
  exact bodyPost_ret (results_cell_row rfl _ _ w.heap.size 25 (ex4 ⟨3, 0, s, []⟩ (.slice none 0 0)) (0, 0) _ rfl (setRow_heap _ _ _ _ _ _ X0) Tryd.underlying25 rfl info25) rfl ⟨rfl, below_row B0.out B0.out.size (Nat.le_refl _) _⟩
theorem of_at (op : Nat) (a : Option Addr) (n c : Nat) (l : List Ex) (w : World) : Calls Tryd.prog 21 #[.int .u8 (op : Int), .slice a n c] w fun e w' => e = .returned (exV ⟨op, 0, ByteArray.empty, l⟩ (.slice a n c)) ∧ Below w.heap.size w w' := by
  have B0 := hid ((Below.refl w.heap.size w).alloc (Nat.le_refl _) (.cells c25 25))
  have X0 := heap_alloc_new w (.cells c25 25)
  go_enter Tryd.func21, Tryd.ntmps21
  go_wp2_with (refine wpList_store_row rfl 25 _ _ rfl w.heap.size (ex4 ⟨op, 0, ByteArray.empty, l⟩ (.slice a n c)) rfl rfl 25 _ X0 info25 rfl (by simp [Value.oneCell', ex4]) ?_)
  exact bodyPost_ret (results_cell_row rfl _ _ w.heap.size 25 (ex4 ⟨op, 0, ByteArray.empty, l⟩ (.slice a n c)) (0, 0) _ rfl (setRow_heap _ _ _ _ _ _ X0) Tryd.underlying25 rfl info25) rfl ⟨rfl, below_row B0.out B0.out.size (Nat.le_refl _) _⟩
end Go.Proofs.YtkieljleopbhoaaDoor.Lex
