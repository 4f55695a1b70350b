/-
  With brackets around each part: as it is written, and that it is read again (plain mathematics).
-/
import Derived.Test.YtkieljleopbhoaaDoorAliveM
namespace Go.Proofs.YtkieljleopbhoaaDoor.Lex
open Go.RowKit
/-- In brackets. -/
def br (l : List UInt8) : List UInt8 := 40 :: (l ++ [41])
def tkb (l : List Mark) : List Mark := ⟨3, sgn [40]⟩ :: (l ++ [⟨3, sgn [41]⟩])
/-- With brackets around each part. -/
def fl : Ex → List UInt8
  | .mk op n nm [] => wr (.mk op n nm [])
  | .mk op _ _ [a] => if op = 4 then 45 :: br (fl a) else if op = 5 then [110, 111, 116, 32] ++ br (fl a) else [112, 114, 101, 32] ++ br (fl a)
  | .mk op _ _ [a, b] => br (fl a) ++ [32] ++ ((jOf op).getD j0).text.data.toList ++ [32] ++ br (fl b)
  | .mk _ _ _ [a, b, c] => [105, 102, 32] ++ br (fl a) ++ [32, 116, 104, 101, 110, 32] ++ br (fl b) ++ [32, 101, 108, 115, 101, 32] ++ br (fl c)
  | .mk _ _ _ _ => []
/-- Its tokens. -/
def tf : Ex → List Mark
  | .mk op n nm [] => tk (.mk op n nm [])
  | .mk op _ _ [a] => oneMk op :: tkb (tf a)
  | .mk op _ _ [a, b] => tkb (tf a) ++ jMk ((jOf op).getD j0) :: tkb (tf b)
  | .mk _ _ _ [a, b, c] => ⟨1, sgn [105, 102]⟩ :: (tkb (tf a) ++ ⟨1, sgn [116, 104, 101, 110]⟩ :: (tkb (tf b) ++ ⟨1, sgn [101, 108, 115, 101]⟩ :: tkb (tf c)))
  | .mk _ _ _ _ => []
theorem fl_leaf {x : Ex} (h : x.args = []) : fl x = wr x := by obtain ⟨o, n, s, l⟩ := x; cases h; rw [fl]
theorem fl_one {x a : Ex} (h : x.args = [a]) : fl x = if x.op = 4 then 45 :: br (fl a) else if x.op = 5 then [110, 111, 116, 32] ++ br (fl a) else [112, 114, 101, 32] ++ br (fl a) := by obtain ⟨o, n, s, l⟩ := x; cases h; rw [fl]
theorem fl_two {x a b : Ex} (h : x.args = [a, b]) : fl x = br (fl a) ++ [32] ++ ((jOf x.op).getD j0).text.data.toList ++ [32] ++ br (fl b) := by obtain ⟨o, n, s, l⟩ := x; cases h; rw [fl]
theorem fl_three {x a b c : Ex} (h : x.args = [a, b, c]) : fl x = [105, 102, 32] ++ br (fl a) ++ [32, 116, 104, 101, 110, 32] ++ br (fl b) ++ [32, 101, 108, 115, 101, 32] ++ br (fl c) := by obtain ⟨o, n, s, l⟩ := x; cases h; rw [fl]
theorem tf_leaf {x : Ex} (h : x.args = []) : tf x = tk x := by obtain ⟨o, n, s, l⟩ := x; cases h; rw [tf]
theorem tf_one {x a : Ex} (h : x.args = [a]) : tf x = oneMk x.op :: tkb (tf a) := by obtain ⟨o, n, s, l⟩ := x; cases h; rw [tf]
theorem tf_two {x a b : Ex} (h : x.args = [a, b]) : tf x = tkb (tf a) ++ jMk ((jOf x.op).getD j0) :: tkb (tf b) := by obtain ⟨o, n, s, l⟩ := x; cases h; rw [tf]
theorem tf_three {x a b c : Ex} (h : x.args = [a, b, c]) : tf x = ⟨1, sgn [105, 102]⟩ :: (tkb (tf a) ++ ⟨1, sgn [116, 104, 101, 110]⟩ :: (tkb (tf b) ++ ⟨1, sgn [101, 108, 115, 101]⟩ :: tkb (tf c))) := by obtain ⟨o, n, s, l⟩ := x; cases h; rw [tf]
/-- These tokens are read as it, ahead of what does not go on. -/
def G (x : Ex) (ms : List Mark) : Prop := ∀ ts p, At ts p ms → jAt (markAt ts (p + ms.length)) = none → P ts 0 p = .ok (x, p + ms.length)
/-- In brackets it is an atom. -/
theorem G.open {x : Ex} {ms : List Mark} (h : G x ms) {ts : List Mark} {p : Nat} (hA : At ts p (tkb ms)) (a : Nat) : P ts a p = Lp ts a x 7 (p + (tkb ms).length) := by
  unfold tkb at hA ⊢
  obtain ⟨h1, _, h3⟩ := hA.cons
  obtain ⟨h4, h5⟩ := h3.app
  obtain ⟨h6, _, _⟩ := h5.cons
  have hp := h ts (p + 1) h4 (by rw [h6, jAt_eq]; decide)
  rw [P_atom (by rw [h1]; intro hc; exact absurd hc.2 (by rw [isMk_eq]; decide)), atom_open h1 hp h6, Res.go_ok]
  simp only [List.length_cons, List.length_append, List.length_nil]
  rw [show p + 1 + ms.length + 1 = p + (ms.length + (0 + 1) + 1) by omega]
theorem G.brk {x : Ex} {ms : List Mark} (h : G x ms) : G x (tkb ms) := fun _ _ hA hn => by rw [h.open hA 0, Lp_none hn]
theorem T.g {x : Ex} (h : T x) : G x (tk x) := fun _ _ hA hn => h.all hA hn
theorem G_one {x a : Ex} (ho : x.op = 4 ∨ x.op = 5 ∨ x.op = 19) (ha : x.args = [a]) (hx : x = ⟨x.op, 0, ByteArray.empty, [a]⟩) (h : G a (tf a)) : G x (tf x) := by
  intro ts p hA hn
  rw [tf_one ha] at hA hn ⊢
  obtain ⟨h1, _, h3⟩ := hA.cons
  have hq : p + (oneMk x.op :: tkb (tf a)).length = p + 1 + (tkb (tf a)).length := by simp; omega
  rw [hq] at hn ⊢
  have hpart : P ts 6 (p + 1) = .ok (a, p + 1 + (tkb (tf a)).length) := by rw [h.open h3 6, Lp_none hn]
  rw [P_atom (no_if (by rw [h1]; exact oneMk_no _) 0), atom_one ho h1 hpart, Res.go_ok, Lp_none hn, ← hx]
theorem G_three {x a b c : Ex} (ha : x.args = [a, b, c]) (hx : x = ⟨17, 0, ByteArray.empty, [a, b, c]⟩) (h1 : G a (tf a)) (h2 : G b (tf b)) (h3 : G c (tf c)) : G x (tf x) := by
  intro ts p hA hn
  rw [tf_three ha] at hA hn ⊢
  obtain ⟨e0, _, A1⟩ := hA.cons
  obtain ⟨Aa, A2⟩ := A1.app
  obtain ⟨e1, _, A3⟩ := A2.cons
  obtain ⟨Ab, A4⟩ := A3.app
  obtain ⟨e2, _, A5⟩ := A4.cons
  have hq : p + (⟨1, sgn [105, 102]⟩ :: (tkb (tf a) ++ ⟨1, sgn [116, 104, 101, 110]⟩ :: (tkb (tf b) ++ ⟨1, sgn [101, 108, 115, 101]⟩ :: tkb (tf c))) : List Mark).length = p + 1 + (tkb (tf a)).length + 1 + (tkb (tf b)).length + 1 + (tkb (tf c)).length := by simp; omega
  rw [hq] at hn ⊢
  have pa := h1.brk ts _ Aa (by rw [e1, jAt_eq]; decide)
  have pb := h2.brk ts _ Ab (by rw [e2, jAt_eq]; decide)
  have pc := h3.brk ts _ A5 hn
  rw [P_if (by rw [e0, isMk_eq]; decide)]
  unfold choiceR
  rw [pa, Res.go_ok, passR_ok (by rw [e1, isMk_eq]; decide), pb, Res.go_ok, passR_ok (by rw [e2, isMk_eq]; decide), pc, Res.go_ok, ← hx]
theorem G_two {x a b : Ex} {j : J} (hj : jOf x.op = some j) (ha : x.args = [a, b]) (hx : x = ⟨j.op, 0, ByteArray.empty, [a, b]⟩) (h1 : G a (tf a)) (h2 : G b (tf b)) : G x (tf x) := by
  intro ts p hA hn
  obtain ⟨l1, l2, l3, l4, l5, l6, l7, l8, l9⟩ := JT_laws j (jOf_mem hj).1
  rw [tf_two ha, hj, Option.getD_some] at hA hn ⊢
  obtain ⟨Aa, A1⟩ := hA.app
  obtain ⟨e1, _, Ab⟩ := A1.cons
  have hq : p + (tkb (tf a) ++ jMk j :: tkb (tf b)).length = p + (tkb (tf a)).length + 1 + (tkb (tf b)).length := by simp; omega
  rw [hq] at hn ⊢
  have hpb : P ts j.second (p + (tkb (tf a)).length + 1) = .ok (b, p + (tkb (tf a)).length + 1 + (tkb (tf b)).length) := by rw [h2.open Ab, Lp_none hn]
  rw [h1.open Aa, Lp_go (by rw [e1]; exact l7) (Nat.zero_le _) (by omega), hpb, Res.go_ok, Lp_none hn, ← hx]
theorem whole_ex {x : Ex} (hf : fieldsOk x.op x.n x.name x.args.length = true) (h : 4 ≤ x.op) {l : List Ex} (e : x.args = l) : x = ⟨x.op, 0, ByteArray.empty, l⟩ := by
  obtain ⟨f1, f2⟩ := fields_more hf
  obtain ⟨o, n, nm, l⟩ := x
  simp only at h e f1 f2 ⊢
  subst e
  rw [f2 (by omega) (by omega), size0 (f1 (by omega))]
theorem G_any : ∀ (d M : Nat) (x : Ex) (k : Nat) (w : World) (s : Value), sz d M x = some k → St w x s → G x (tf x) ∧ LexC (fl x) (tf x) ∧ Headed (fl x) ∧ (fl x).length + 2 ≤ 64 * k
  | 0, M, x, k, w, s, h, _ => by simp [sz] at h
  | d + 1, M, x, k, w, s, h, hS => by
    obtain ⟨hM, hf, hl⟩ := sz_parts h
    have leaf : x.args = [] → G x (tf x) ∧ LexC (fl x) (tf x) ∧ Headed (fl x) ∧ (fl x).length + 2 ≤ 64 * k := fun e => by
      rw [fl_leaf e, tf_leaf e]
      have := lex_any (d + 1) M x k h
      exact ⟨(T_any (d + 1) M x k w s h hS).g, this.1, this.2, wr_len (d + 1) M x k w s h hS⟩
    rcases fields_cases hf with ⟨h1, h2, h3⟩ | ⟨h1, h2, h3⟩ | ⟨h1, h2, h3⟩ | ⟨h1, h3⟩ | ⟨h1, h3⟩ | ⟨⟨r, hr⟩, h3⟩
    · exact leaf (len0 h3)
    · exact leaf (len0 h3)
    · exact leaf (len0 h3)
    · obtain ⟨a, e⟩ := len1 h3
      rw [e] at hl
      obtain ⟨ka, hka, hl⟩ := szL_cons hl
      have hk := szL_nil hl
      obtain ⟨t, ht⟩ := hS.arg0 e
      obtain ⟨i1, i2, i3, i4⟩ := G_any d _ a ka w t hka ht
      refine ⟨G_one h1 e (whole_ex hf (by omega) e) i1, ?_⟩
      have hb : Headed (br (fl a)) := ⟨40, _, rfl, by decide⟩
      have b1 : LexC (br (fl a)) (tkb (tf a)) := i2.brackets
      have b2 : (br (fl a)).length = (fl a).length + 2 := by simp [br]
      rw [fl_one e, tf_one e]
      rcases h1 with h1 | h1 | h1
      · rw [if_pos h1, h1]
        refine ⟨?_, ⟨45, _, rfl, by decide⟩, by simp only [List.length_cons]; omega⟩
        have := b1.minus hb
        rw [show negW (br (fl a)) = 45 :: br (fl a) by unfold negW br; rw [if_neg (by simp [Lib.hasPrefix, List.isPrefixOf])]] at this
        exact this
      · rw [if_neg (by omega), if_pos h1, h1]
        have := (LexC.word (l := [110, 111, 116]) (by decide) (by decide)).blank b1
        exact ⟨by simpa [oneMk] using this, ⟨110, _, rfl, by decide⟩, by simp only [List.length_append, List.length_cons, List.length_nil]; omega⟩
      · rw [if_neg (by omega), if_neg (by omega), h1]
        have := (LexC.word (l := [112, 114, 101]) (by decide) (by decide)).blank b1
        exact ⟨by simpa [oneMk] using this, ⟨112, _, rfl, by decide⟩, by simp only [List.length_append, List.length_cons, List.length_nil]; omega⟩
    · obtain ⟨a, b, c, e⟩ := len3 h3
      rw [e] at hl
      obtain ⟨ka, hka, hl⟩ := szL_cons hl
      obtain ⟨kb, hkb, hl⟩ := szL_cons hl
      obtain ⟨kc, hkc, hl⟩ := szL_cons hl
      have hk := szL_nil hl
      obtain ⟨ta, hta⟩ := hS.arg0 e
      obtain ⟨tb, htb⟩ := hS.arg1 e
      obtain ⟨tc, htc⟩ := hS.arg2 e
      obtain ⟨a1, a2, a3, a4⟩ := G_any d _ a ka w ta hka hta
      obtain ⟨b1, b2, b3, b4⟩ := G_any d _ b kb w tb hkb htb
      obtain ⟨c1, c2, c3, c4⟩ := G_any d _ c kc w tc hkc htc
      refine ⟨G_three e (by have := whole_ex hf (by omega) e; rwa [h1] at this) a1 b1 c1, ?_⟩
      rw [fl_three e, tf_three e]
      have w1 := LexC.word (l := [105, 102]) (by decide) (by decide)
      have w2 := LexC.word (l := [116, 104, 101, 110]) (by decide) (by decide)
      have w3 := LexC.word (l := [101, 108, 115, 101]) (by decide) (by decide)
      have := ((((w1.blank (show LexC (br (fl a)) (tkb (tf a)) from a2.brackets)).blank w2).blank (show LexC (br (fl b)) (tkb (tf b)) from b2.brackets)).blank w3).blank (show LexC (br (fl c)) (tkb (tf c)) from c2.brackets)
      have l1 : (br (fl a)).length = (fl a).length + 2 := by simp [br]
      have l2 : (br (fl b)).length = (fl b).length + 2 := by simp [br]
      have l3 : (br (fl c)).length = (fl c).length + 2 := by simp [br]
      exact ⟨by simpa using this, ⟨105, _, rfl, by decide⟩, by simp only [List.length_append, List.length_cons, List.length_nil]; omega⟩
    · obtain ⟨a, b, e⟩ := len2 h3
      rw [e] at hl
      obtain ⟨ka, hka, hl⟩ := szL_cons hl
      obtain ⟨kb, hkb, hl⟩ := szL_cons hl
      have hk := szL_nil hl
      obtain ⟨ta, hta⟩ := hS.arg0 e
      obtain ⟨tb, htb⟩ := hS.arg1 e
      obtain ⟨a1, a2, a3, a4⟩ := G_any d _ a ka w ta hka hta
      obtain ⟨b1, b2, b3, b4⟩ := G_any d _ b kb w tb hkb htb
      have hop := (jOf_mem hr).2
      refine ⟨G_two hr e ?_ a1 b1, ?_⟩
      · rw [hop]
        refine whole_ex hf ?_ e
        have : ∀ j ∈ JT, 4 ≤ j.op := by decide
        have := this r (jOf_mem hr).1
        omega
      rw [fl_two e, tf_two e, hr, Option.getD_some]
      have lj := (j_len hr).1
      have l1 : (br (fl a)).length = (fl a).length + 2 := by simp [br]
      have l2 : (br (fl b)).length = (fl b).length + 2 := by simp [br]
      exact ⟨LexC.join (jOf_mem hr).1 (show LexC (br (fl a)) (tkb (tf a)) from a2.brackets) (show LexC (br (fl b)) (tkb (tf b)) from b2.brackets), ⟨40, _, rfl, by decide⟩, by simp only [List.length_append, List.length_cons, List.length_nil]; omega⟩
/-- What is told so is read. -/
theorem G.read {x : Ex} {l : List UInt8} {ms : List Mark} (hc : chk x = true) (h1 : LexC l ms) (h2 : G x ms) : readX l = some x := by
  obtain ⟨ts, e1, e2⟩ := h1 0 [] (.inl rfl)
  rw [List.append_nil, toks_nil] at e2
  have e3 : toks 0 l = .ok ts := by rw [e2]; simp [ahead]
  have := h2 ms 0 ⟨[], [], by simp, rfl⟩ (by
    rw [show markAt ms (0 + ms.length) = ⟨0, ByteArray.empty⟩ by unfold markAt; rw [List.getD_eq_getElem?_getD, List.getElem?_eq_none (by omega)]; rfl, jAt_eq]
    decide)
  have hl : ms.length = ts.length := by rw [← e1, List.length_map]
  unfold readX
  rw [e3]
  simp only
  rw [e1, this, Nat.zero_add, hl]
  simp [hc]
/-- With something behind it that does not go on. -/
theorem G.behind {x : Ex} {ms : List Mark} (h : G x ms) (m : Mark) (hm : jAt m = none) : P (ms ++ [m]) 0 0 = .ok (x, ms.length) := by
  have := h (ms ++ [m]) 0 ⟨[], [m], by simp, rfl⟩ (by
    rw [show markAt (ms ++ [m]) (0 + ms.length) = m by unfold markAt; rw [List.getD_eq_getElem?_getD]; simp]
    exact hm)
  rw [this, Nat.zero_add]
end Go.Proofs.YtkieljleopbhoaaDoor.Lex
