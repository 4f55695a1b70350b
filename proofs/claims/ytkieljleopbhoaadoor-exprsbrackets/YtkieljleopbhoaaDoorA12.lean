/-
  With brackets around each part: as it is written, and that it is read again (plain mathematics).
  With brackets around each part: the contract of the law's own full.
  The walk of the law on brackets, whatever it is and whatever stands behind it.
  The walk of the law on brackets, whatever it is and whatever stands behind it.
-/
import Derived.Test.YtkieljleopbhoaaDoorA9
import Derived.Test.YtkieljleopbhoaaDoorA8
import Derived.BigQuiet
import Derived.Test.YtkieljleopbhoaaDoorA11
namespace Go.Proofs.YtkieljleopbhoaaDoor.Lex
open Go.RowKit
/-- In brackets. -/
def br (l : List UInt8) : List UInt8 := 40 :: (l ++ [41])
def tkb (l : List Mark) : List Mark := ⟨3, sgn [40]⟩ :: (l ++ [⟨3, sgn [41]⟩])
/-- With brackets around each part. -/
def fl : Ex → List UInt8
  | .mk op n nm [] => wr (.mk op n nm [])
  | .mk op _ _ [a] => if op = 4 then 45 :: br (fl a) else if op = 5 then [110, 111, 116, 32] ++ br (fl a) else [112, 114, 101, 32] ++ br (fl a)
  | .mk op _ _ [a, b] => br (fl a) ++ [32] ++ ((jOf op).getD j0).text.data.toList ++ [32] ++ br (fl b)
  | .mk _ _ _ [a, b, c] => [105, 102, 32] ++ br (fl a) ++ [32, 116, 104, 101, 110, 32] ++ br (fl b) ++ [32, 101, 108, 115, 101, 32] ++ br (fl c)
  | .mk _ _ _ _ => []
/-- Its tokens. -/
def tf : Ex → List Mark
  | .mk op n nm [] => tk (.mk op n nm [])
  | .mk op _ _ [a] => oneMk op :: tkb (tf a)
  | .mk op _ _ [a, b] => tkb (tf a) ++ jMk ((jOf op).getD j0) :: tkb (tf b)
  | .mk _ _ _ [a, b, c] => ⟨1, sgn [105, 102]⟩ :: (tkb (tf a) ++ ⟨1, sgn [116, 104, 101, 110]⟩ :: (tkb (tf b) ++ ⟨1, sgn [101, 108, 115, 101]⟩ :: tkb (tf c)))
  | .mk _ _ _ _ => []
theorem fl_leaf {x : Ex} (h : x.args = []) : fl x = wr x := by obtain ⟨o, n, s, l⟩ := x; cases h; rw [fl]
theorem fl_one {x a : Ex} (h : x.args = [a]) : fl x = if x.op = 4 then 45 :: br (fl a) else if x.op = 5 then [110, 111, 116, 32] ++ br (fl a) else [112, 114, 101, 32] ++ br (fl a) := by obtain ⟨o, n, s, l⟩ := x; cases h; rw [fl]
theorem fl_two {x a b : Ex} (h : x.args = [a, b]) : fl x = br (fl a) ++ [32] ++ ((jOf x.op).getD j0).text.data.toList ++ [32] ++ br (fl b) := by obtain ⟨o, n, s, l⟩ := x; cases h; rw [fl]
theorem fl_three {x a b c : Ex} (h : x.args = [a, b, c]) : fl x = [105, 102, 32] ++ br (fl a) ++ [32, 116, 104, 101, 110, 32] ++ br (fl b) ++ [32, 101, 108, 115, 101, 32] ++ br (fl c) := by obtain ⟨o, n, s, l⟩ := x; cases h; rw [fl]
theorem tf_leaf {x : Ex} (h : x.args = []) : tf x = tk x := by obtain ⟨o, n, s, l⟩ := x; cases h; rw [tf]
theorem tf_one {x a : Ex} (h : x.args = [a]) : tf x = oneMk x.op :: tkb (tf a) := by obtain ⟨o, n, s, l⟩ := x; cases h; rw [tf]
theorem tf_two {x a b : Ex} (h : x.args = [a, b]) : tf x = tkb (tf a) ++ jMk ((jOf x.op).getD j0) :: tkb (tf b) := by obtain ⟨o, n, s, l⟩ := x; cases h; rw [tf]
theorem tf_three {x a b c : Ex} (h : x.args = [a, b, c]) : tf x = ⟨1, sgn [105, 102]⟩ :: (tkb (tf a) ++ ⟨1, sgn [116, 104, 101, 110]⟩ :: (tkb (tf b) ++ ⟨1, sgn [101, 108, 115, 101]⟩ :: tkb (tf c))) := by obtain ⟨o, n, s, l⟩ := x; cases h; rw [tf]
/-- These tokens are read as it, ahead of what does not go on. -/
def G (x : Ex) (ms : List Mark) : Prop := ∀ ts p, At ts p ms → jAt (markAt ts (p + ms.length)) = none → P ts 0 p = .ok (x, p + ms.length)
/-- In brackets it is an atom. -/
theorem G.open {x : Ex} {ms : List Mark} (h : G x ms) {ts : List Mark} {p : Nat} (hA : At ts p (tkb ms)) (a : Nat) : P ts a p = Lp ts a x 7 (p + (tkb ms).length) := by
  unfold tkb at hA ⊢
  obtain ⟨h1, _, h3⟩ := hA.cons
  obtain ⟨h4, h5⟩ := h3.app
  obtain ⟨h6, _, _⟩ := h5.cons
  have hp := h ts (p + 1) h4 (by rw [h6, jAt_eq]; decide)
  rw [P_atom (by rw [h1]; intro hc; exact absurd hc.2 (by rw [isMk_eq]; decide)), atom_open h1 hp h6, Res.go_ok]
  simp only [List.length_cons, List.length_append, List.length_nil]
  rw [show p + 1 + ms.length + 1 = p + (ms.length + (0 + 1) + 1) by omega]
theorem G.brk {x : Ex} {ms : List Mark} (h : G x ms) : G x (tkb ms) := fun _ _ hA hn => by rw [h.open hA 0, Lp_none hn]
theorem T.g {x : Ex} (h : T x) : G x (tk x) := fun _ _ hA hn => h.all hA hn
theorem G_one {x a : Ex} (ho : x.op = 4 ∨ x.op = 5 ∨ x.op = 19) (ha : x.args = [a]) (hx : x = ⟨x.op, 0, ByteArray.empty, [a]⟩) (h : G a (tf a)) : G x (tf x) := by
  intro ts p hA hn
  rw [tf_one ha] at hA hn ⊢
  obtain ⟨h1, _, h3⟩ := hA.cons
  have hq : p + (oneMk x.op :: tkb (tf a)).length = p + 1 + (tkb (tf a)).length := by simp; omega
  rw [hq] at hn ⊢
  have hpart : P ts 6 (p + 1) = .ok (a, p + 1 + (tkb (tf a)).length) := by rw [h.open h3 6, Lp_none hn]
  rw [P_atom (no_if (by rw [h1]; exact oneMk_no _) 0), atom_one ho h1 hpart, Res.go_ok, Lp_none hn, ← hx]
theorem G_three {x a b c : Ex} (ha : x.args = [a, b, c]) (hx : x = ⟨17, 0, ByteArray.empty, [a, b, c]⟩) (h1 : G a (tf a)) (h2 : G b (tf b)) (h3 : G c (tf c)) : G x (tf x) := by
  intro ts p hA hn
  rw [tf_three ha] at hA hn ⊢
  obtain ⟨e0, _, A1⟩ := hA.cons
  obtain ⟨Aa, A2⟩ := A1.app
  obtain ⟨e1, _, A3⟩ := A2.cons
  obtain ⟨Ab, A4⟩ := A3.app
  obtain ⟨e2, _, A5⟩ := A4.cons
  have hq : p + (⟨1, sgn [105, 102]⟩ :: (tkb (tf a) ++ ⟨1, sgn [116, 104, 101, 110]⟩ :: (tkb (tf b) ++ ⟨1, sgn [101, 108, 115, 101]⟩ :: tkb (tf c))) : List Mark).length = p + 1 + (tkb (tf a)).length + 1 + (tkb (tf b)).length + 1 + (tkb (tf c)).length := by simp; omega
  rw [hq] at hn ⊢
  have pa := h1.brk ts _ Aa (by rw [e1, jAt_eq]; decide)
  have pb := h2.brk ts _ Ab (by rw [e2, jAt_eq]; decide)
  have pc := h3.brk ts _ A5 hn
  rw [P_if (by rw [e0, isMk_eq]; decide)]
  unfold choiceR
  rw [pa, Res.go_ok, passR_ok (by rw [e1, isMk_eq]; decide), pb, Res.go_ok, passR_ok (by rw [e2, isMk_eq]; decide), pc, Res.go_ok, ← hx]
theorem G_two {x a b : Ex} {j : J} (hj : jOf x.op = some j) (ha : x.args = [a, b]) (hx : x = ⟨j.op, 0, ByteArray.empty, [a, b]⟩) (h1 : G a (tf a)) (h2 : G b (tf b)) : G x (tf x) := by
  intro ts p hA hn
  obtain ⟨l1, l2, l3, l4, l5, l6, l7, l8, l9⟩ := JT_laws j (jOf_mem hj).1
  rw [tf_two ha, hj, Option.getD_some] at hA hn ⊢
  obtain ⟨Aa, A1⟩ := hA.app
  obtain ⟨e1, _, Ab⟩ := A1.cons
  have hq : p + (tkb (tf a) ++ jMk j :: tkb (tf b)).length = p + (tkb (tf a)).length + 1 + (tkb (tf b)).length := by simp; omega
  rw [hq] at hn ⊢
  have hpb : P ts j.second (p + (tkb (tf a)).length + 1) = .ok (b, p + (tkb (tf a)).length + 1 + (tkb (tf b)).length) := by rw [h2.open Ab, Lp_none hn]
  rw [h1.open Aa, Lp_go (by rw [e1]; exact l7) (Nat.zero_le _) (by omega), hpb, Res.go_ok, Lp_none hn, ← hx]
theorem whole_ex {x : Ex} (hf : fieldsOk x.op x.n x.name x.args.length = true) (h : 4 ≤ x.op) {l : List Ex} (e : x.args = l) : x = ⟨x.op, 0, ByteArray.empty, l⟩ := by
  obtain ⟨f1, f2⟩ := fields_more hf
  obtain ⟨o, n, nm, l⟩ := x
  simp only at h e f1 f2 ⊢
  subst e
  rw [f2 (by omega) (by omega), size0 (f1 (by omega))]
theorem G_any : ∀ (d M : Nat) (x : Ex) (k : Nat) (w : World) (s : Value), sz d M x = some k → St w x s → G x (tf x) ∧ LexC (fl x) (tf x) ∧ Headed (fl x) ∧ (fl x).length + 2 ≤ 64 * k
  | 0, M, x, k, w, s, h, _ => by simp [sz] at h
  | d + 1, M, x, k, w, s, h, hS => by
    obtain ⟨hM, hf, hl⟩ := sz_parts h
    have leaf : x.args = [] → G x (tf x) ∧ LexC (fl x) (tf x) ∧ Headed (fl x) ∧ (fl x).length + 2 ≤ 64 * k := fun e => by
      rw [fl_leaf e, tf_leaf e]
      have := lex_any (d + 1) M x k h
      exact ⟨(T_any (d + 1) M x k w s h hS).g, this.1, this.2, wr_len (d + 1) M x k w s h hS⟩
    rcases fields_cases hf with ⟨h1, h2, h3⟩ | ⟨h1, h2, h3⟩ | ⟨h1, h2, h3⟩ | ⟨h1, h3⟩ | ⟨h1, h3⟩ | ⟨⟨r, hr⟩, h3⟩
    · exact leaf (len0 h3)
    · exact leaf (len0 h3)
    · exact leaf (len0 h3)
    · obtain ⟨a, e⟩ := len1 h3
      rw [e] at hl
      obtain ⟨ka, hka, hl⟩ := szL_cons hl
      have hk := szL_nil hl
      obtain ⟨t, ht⟩ := hS.arg0 e
      obtain ⟨i1, i2, i3, i4⟩ := G_any d _ a ka w t hka ht
      refine ⟨G_one h1 e (whole_ex hf (by omega) e) i1, ?_⟩
      have hb : Headed (br (fl a)) := ⟨40, _, rfl, by decide⟩
      have b1 : LexC (br (fl a)) (tkb (tf a)) := i2.brackets
      have b2 : (br (fl a)).length = (fl a).length + 2 := by simp [br]
      rw [fl_one e, tf_one e]
      rcases h1 with h1 | h1 | h1
      · rw [if_pos h1, h1]
        refine ⟨?_, ⟨45, _, rfl, by decide⟩, by simp only [List.length_cons]; omega⟩
        have := b1.minus hb
        rw [show negW (br (fl a)) = 45 :: br (fl a) by unfold negW br; rw [if_neg (by simp [Lib.hasPrefix, List.isPrefixOf])]] at this
        exact this
      · rw [if_neg (by omega), if_pos h1, h1]
        have := (LexC.word (l := [110, 111, 116]) (by decide) (by decide)).blank b1
        exact ⟨by simpa [oneMk] using this, ⟨110, _, rfl, by decide⟩, by simp only [List.length_append, List.length_cons, List.length_nil]; omega⟩
      · rw [if_neg (by omega), if_neg (by omega), h1]
        have := (LexC.word (l := [112, 114, 101]) (by decide) (by decide)).blank b1
        exact ⟨by simpa [oneMk] using this, ⟨112, _, rfl, by decide⟩, by simp only [List.length_append, List.length_cons, List.length_nil]; omega⟩
    · obtain ⟨a, b, c, e⟩ := len3 h3
      rw [e] at hl
      obtain ⟨ka, hka, hl⟩ := szL_cons hl
      obtain ⟨kb, hkb, hl⟩ := szL_cons hl
      obtain ⟨kc, hkc, hl⟩ := szL_cons hl
      have hk := szL_nil hl
      obtain ⟨ta, hta⟩ := hS.arg0 e
      obtain ⟨tb, htb⟩ := hS.arg1 e
      obtain ⟨tc, htc⟩ := hS.arg2 e
      obtain ⟨a1, a2, a3, a4⟩ := G_any d _ a ka w ta hka hta
      obtain ⟨b1, b2, b3, b4⟩ := G_any d _ b kb w tb hkb htb
      obtain ⟨c1, c2, c3, c4⟩ := G_any d _ c kc w tc hkc htc
      refine ⟨G_three e (by have := whole_ex hf (by omega) e; rwa [h1] at this) a1 b1 c1, ?_⟩
      rw [fl_three e, tf_three e]
      have w1 := LexC.word (l := [105, 102]) (by decide) (by decide)
      have w2 := LexC.word (l := [116, 104, 101, 110]) (by decide) (by decide)
      have w3 := LexC.word (l := [101, 108, 115, 101]) (by decide) (by decide)
      have := ((((w1.blank (show LexC (br (fl a)) (tkb (tf a)) from a2.brackets)).blank w2).blank (show LexC (br (fl b)) (tkb (tf b)) from b2.brackets)).blank w3).blank (show LexC (br (fl c)) (tkb (tf c)) from c2.brackets)
      have l1 : (br (fl a)).length = (fl a).length + 2 := by simp [br]
      have l2 : (br (fl b)).length = (fl b).length + 2 := by simp [br]
      have l3 : (br (fl c)).length = (fl c).length + 2 := by simp [br]
      exact ⟨by simpa using this, ⟨105, _, rfl, by decide⟩, by simp only [List.length_append, List.length_cons, List.length_nil]; omega⟩
    · obtain ⟨a, b, e⟩ := len2 h3
      rw [e] at hl
      obtain ⟨ka, hka, hl⟩ := szL_cons hl
      obtain ⟨kb, hkb, hl⟩ := szL_cons hl
      have hk := szL_nil hl
      obtain ⟨ta, hta⟩ := hS.arg0 e
      obtain ⟨tb, htb⟩ := hS.arg1 e
      obtain ⟨a1, a2, a3, a4⟩ := G_any d _ a ka w ta hka hta
      obtain ⟨b1, b2, b3, b4⟩ := G_any d _ b kb w tb hkb htb
      have hop := (jOf_mem hr).2
      refine ⟨G_two hr e ?_ a1 b1, ?_⟩
      · rw [hop]
        refine whole_ex hf ?_ e
        have : ∀ j ∈ JT, 4 ≤ j.op := by decide
        have := this r (jOf_mem hr).1
        omega
      rw [fl_two e, tf_two e, hr, Option.getD_some]
      have lj := (j_len hr).1
      have l1 : (br (fl a)).length = (fl a).length + 2 := by simp [br]
      have l2 : (br (fl b)).length = (fl b).length + 2 := by simp [br]
      exact ⟨LexC.join (jOf_mem hr).1 (show LexC (br (fl a)) (tkb (tf a)) from a2.brackets) (show LexC (br (fl b)) (tkb (tf b)) from b2.brackets), ⟨40, _, rfl, by decide⟩, by simp only [List.length_append, List.length_cons, List.length_nil]; omega⟩
/-- What is told so is read. -/
theorem G.read {x : Ex} {l : List UInt8} {ms : List Mark} (hc : chk x = true) (h1 : LexC l ms) (h2 : G x ms) : readX l = some x := by
  obtain ⟨ts, e1, e2⟩ := h1 0 [] (.inl rfl)
  rw [List.append_nil, toks_nil] at e2
  have e3 : toks 0 l = .ok ts := by rw [e2]; simp [ahead]
  have := h2 ms 0 ⟨[], [], by simp, rfl⟩ (by
    rw [show markAt ms (0 + ms.length) = ⟨0, ByteArray.empty⟩ by unfold markAt; rw [List.getD_eq_getElem?_getD, List.getElem?_eq_none (by omega)]; rfl, jAt_eq]
    decide)
  have hl : ms.length = ts.length := by rw [← e1, List.length_map]
  unfold readX
  rw [e3]
  simp only
  rw [e1, this, Nat.zero_add, hl]
  simp [hc]
/-- With something behind it that does not go on. -/
theorem G.behind {x : Ex} {ms : List Mark} (h : G x ms) (m : Mark) (hm : jAt m = none) : P (ms ++ [m]) 0 0 = .ok (x, ms.length) := by
  have := h (ms ++ [m]) 0 ⟨[], [m], by simp, rfl⟩ (by
    rw [show markAt (ms ++ [m]) (0 + ms.length) = m by unfold markAt; rw [List.getD_eq_getElem?_getD]; simp]
    exact hm)
  rw [this, Nat.zero_add]
end Go.Proofs.YtkieljleopbhoaaDoor.Lex
namespace Go.Proofs.YtkieljleopbhoaaDoor.Lex
open Go.ChangeShapes Go.WideShapes Go.ChangeAt Go.RowKit Go.Joins
/-- A part in brackets, as a string. -/
def bS (a : Ex) : Value := .string ⟨(br (fl a)).toArray⟩
/-- What holds while the parts are gathered. -/
structure FlS (w : World) (x : Ex) (c : Array Value) (i : Nat) (v : Value) (W : World) : Prop where
  below : Below w.heap.size w W
  box : W.heap[w.heap.size]? = some (.cells c 25 (0, 0))
  row : W.ownsRow (w.heap.size + 1) 9 1 v i ((x.args.take i).map bS)
theorem FlS.lt {w W : World} {x : Ex} {c : Array Value} {i : Nat} {v : Value} (h : FlS w x c i v W) : w.heap.size + 1 ≤ W.heap.size := (Array.getElem?_eq_some_iff.1 h.box).1
theorem FlS.step {w W W' : World} {x : Ex} {c : Array Value} {i : Nat} {v : Value} (h : FlS w x c i v W) (hb : Below W.heap.size W W') : FlS w x c i v W' :=
  ⟨bstep h.below hb, (hb.block _ (Array.getElem?_eq_some_iff.1 h.box).1).trans h.box, ownsRow_below h.row hb⟩
theorem FlS.grow {w W W' : World} {x : Ex} {c : Array Value} {i : Nat} {v v' : Value} (h : FlS w x c i v W) (y : Ex) (ht : x.args.take (i + 1) = x.args.take i ++ [y]) (hg : W.grownBy W' v.ownBlock) (hr : W'.ownsRow (w.heap.size + 1) 9 1 v' (i + 1) ((x.args.take i).map bS ++ [bS y])) : FlS w x c (i + 1) v' W' := by
  have hlt := h.row.lt
  have hl := h.lt
  refine ⟨h.below.grown hg (by omega) (fun k hk => by have := (hlt k hk).1; omega), ?_, ?_⟩
  · rw [hg.block _ (by omega) (fun e => by have := (hlt _ e.symm).1; omega)]; exact h.box
  · rw [ht, List.map_append]; exact hr
theorem one_new (w : World) (x : Value) : ∀ j u, [x][j]? = some u → (w.alloc (.cells #[x] 9)).cell? ((⟨w.heap.size, 0, none⟩ : Addr).add j) = some u := by
  intro j u hj
  have hadd : (⟨w.heap.size, 0, none⟩ : Addr).add j = ⟨w.heap.size, j, none⟩ := by unfold Addr.add; split <;> simp_all
  rw [hadd, World.cell?_alloc_at _ _ _ _ rfl]
  rcases j with _ | j
  · simpa using hj
  · simp at hj
theorem info9' : (Tryd.prog.info? 9).map (fun i => (i.zero, i.size, i.bytes)) = some (some (.string ByteArray.empty), 1, 16) := by kernel_rfl
theorem br_bytes (l : List UInt8) : (⟨#[40]⟩ : ByteArray) ++ ⟨l.toArray⟩ ++ (⟨#[41]⟩ : ByteArray) = ⟨(br l).toArray⟩ := by
  apply ByteArray.ext
  apply Array.toList_inj.1
  simp [br, ByteArray.data_append]
theorem szL_all {f : Nat → Ex → Option Nat} {M : Nat} : ∀ (l : List Ex) (n k : Nat), szL f M n l = some k → ∀ i (h : i < l.length), ∃ m ka, m ≤ M ∧ f m l[i] = some ka
  | [], _, _, _, i, h => by simp at h
  | a :: l, n, k, hz, i, h => by
    obtain ⟨ka, h1, h2⟩ := szL_cons hz
    cases i with
    | zero => exact ⟨M - n, ka, Nat.sub_le _ _, h1⟩
    | succ i => exact szL_all l _ _ h2 i (by simpa using h)
theorem cat_bytes (a b : Array UInt8) : (⟨a⟩ : ByteArray) ++ (⟨b⟩ : ByteArray) = ⟨a ++ b⟩ := by
  apply ByteArray.ext
  simp [ByteArray.data_append]
/-- The signs, by their number. -/
def sigN (k : Nat) : ByteArray := [⟨#[43]⟩, ⟨#[45]⟩, ⟨#[42]⟩, ⟨#[47]⟩, ⟨#[37]⟩, ⟨#[61, 61]⟩, ⟨#[33, 61]⟩, ⟨#[60]⟩, ⟨#[60, 61]⟩, ⟨#[97, 110, 100]⟩, ⟨#[111, 114]⟩].getD k ⟨#[45, 62]⟩
def sgAt (op k : Nat) : ByteArray := if 6 ≤ op ∧ op < 6 + k then sigN (op - 6) else ⟨#[45, 62]⟩
def sigFV : Array Value := #[.string ⟨#[43]⟩, .string ⟨#[45]⟩, .string ⟨#[42]⟩, .string ⟨#[47]⟩, .string ⟨#[37]⟩, .string ⟨#[61, 61]⟩, .string ⟨#[33, 61]⟩, .string ⟨#[60]⟩, .string ⟨#[60, 61]⟩, .string ⟨#[97, 110, 100]⟩, .string ⟨#[111, 114]⟩]
def opFV : Array Value := #[.int .u8 6, .int .u8 7, .int .u8 8, .int .u8 9, .int .u8 10, .int .u8 11, .int .u8 12, .int .u8 13, .int .u8 14, .int .u8 15, .int .u8 16]
theorem sigFV_at (k : Nat) (h : k < 11) : sigFV[k]? = some (.string (sigN k)) := by
  have : ∀ k, k < 11 → sigFV[k]? = some (.string (sigN k)) := fun k h => by
    obtain rfl | rfl | rfl | rfl | rfl | rfl | rfl | rfl | rfl | rfl | rfl : k = 0 ∨ k = 1 ∨ k = 2 ∨ k = 3 ∨ k = 4 ∨ k = 5 ∨ k = 6 ∨ k = 7 ∨ k = 8 ∨ k = 9 ∨ k = 10 := by omega
    all_goals rfl
  exact this k h
theorem opFV_at (k : Nat) (h : k < 11) : opFV[k]? = some (.int .u8 ((6 + k : Nat) : Int)) := by
  obtain rfl | rfl | rfl | rfl | rfl | rfl | rfl | rfl | rfl | rfl | rfl : k = 0 ∨ k = 1 ∨ k = 2 ∨ k = 3 ∨ k = 4 ∨ k = 5 ∨ k = 6 ∨ k = 7 ∨ k = 8 ∨ k = 9 ∨ k = 10 := by omega
  all_goals rfl
theorem sigN_small (k : Nat) : (sigN k).size ≤ 3 := by
  by_cases h : k < 11
  · obtain rfl | rfl | rfl | rfl | rfl | rfl | rfl | rfl | rfl | rfl | rfl : k = 0 ∨ k = 1 ∨ k = 2 ∨ k = 3 ∨ k = 4 ∨ k = 5 ∨ k = 6 ∨ k = 7 ∨ k = 8 ∨ k = 9 ∨ k = 10 := by omega
    all_goals decide
  · unfold sigN
    rw [List.getD_eq_getElem?_getD, List.getElem?_eq_none (by simp; omega)]
    decide
theorem sgAt_small (op k : Nat) : (sgAt op k).size ≤ 3 := by
  unfold sgAt
  split
  · exact sigN_small _
  · decide
theorem sgAt_join {op : Nat} {j : J} (h : jOf op = some j) : sgAt op 11 = j.text := by
  obtain ⟨h1, h2⟩ := jOf_mem h
  subst h2
  have : ∀ j ∈ JT, (sgAt j.op 11).data = j.text.data := by decide
  exact ByteArray.ext (this j h1)
/-- What holds while the sign is looked for. -/
structure Fl2 (w : World) (c : Array Value) (g bs : Nat) (A B : Value) (W : World) : Prop where
  below : Below w.heap.size w W
  box : W.heap[w.heap.size]? = some (.cells c 25 (0, 0))
  sigs : W.heap[bs]? = some (.cells sigFV 9 (0, 0))
  ops : W.heap[bs + 1]? = some (.cells opFV 22 (0, 0))
  one : W.cell? ⟨g, 0, none⟩ = some A
  two : W.cell? ⟨g, 1, none⟩ = some B
theorem Fl2.step {w W W' : World} {c : Array Value} {g bs : Nat} {A B : Value} (h : Fl2 w c g bs A B W) (b : Below W.heap.size W W') : Fl2 w c g bs A B W' :=
  ⟨bstep h.below b, (b.block _ (Array.getElem?_eq_some_iff.1 h.box).1).trans h.box, (b.block _ (Array.getElem?_eq_some_iff.1 h.sigs).1).trans h.sigs, (b.block _ (Array.getElem?_eq_some_iff.1 h.ops).1).trans h.ops, cell_kept h.one b, cell_kept h.two b⟩
theorem int_ne {a : Nat} (k : Nat) (h : a ≠ k) : ((a : Int) == (k : Int)) = false := by simp; omega
/-- Full's contract. -/
def FullC (x : Ex) : Prop := ∀ (w : World) (s : Value) (d M k : Nat), M ≤ 200 → sz d M x = some k → St w x s → Env w → Calls Tryd.prog 17 #[exV x s] w fun e w' => e = .returned (.string ⟨(fl x).toArray⟩) ∧ Below w.heap.size w w'
theorem chk_leaf {x : Ex} (h : x.args = []) (hf : fieldsOk x.op x.n x.name x.args.length = true) : chk x = true := by
  unfold chk
  rw [sz, if_neg (by rw [hf]; simp), h]
  simp [szL]
set_option maxRecDepth 100000 in
set_option maxHeartbeats 2000000 in
theorem full_leaf (x : Ex) (he : x.args = []) (hf : fieldsOk x.op x.n x.name x.args.length = true) (w : World) (s : Value) (hS : St w x s) (E : Env w) : Calls Tryd.prog 17 #[exV x s] w fun e w' => e = .returned (.string ⟨(fl x).toArray⟩) ∧ Below w.heap.size w w' := by
  have c9 := fun W (b : Below w.heap.size w W) => text x W s (hS.keep b) (E.below b)
  have e1 : txt x = fl x := by rw [fl_leaf he]; unfold txt; rw [chk_leaf he hf]; rfl
  rw [e1] at c9
  obtain ⟨ao, cap, sl, rfl, _⟩ := hS.out
  have b0 := (Below.refl w.heap.size w).alloc (Nat.le_refl _) (.cells (ex4 x (.slice ao x.args.length cap)) 25)
  have B0 := hid b0
  obtain ⟨p0, p1, p2, p3⟩ := row_cells4 (heap_alloc_new w (.cells (ex4 x (.slice ao x.args.length cap)) 25))
  have hl0 : ((x.args.length : Int) == 0) = true := by rw [he]; rfl
  have c := c9 _ b0
  clear c9 e1 hS E b0 hf he
  generalize (⟨(fl x).toArray⟩ : ByteArray) = T at *
  go_enter Tryd.func17, Tryd.ntmps17
  go_wp2_with (go_at_call 9; refine c.mono ?_; rintro e w2 ⟨rfl, b2⟩; have B2 := hid (bstep B0.out b2); clear b2 c B0)
  go_ret
  exact ⟨rfl, B2.out⟩
set_option maxRecDepth 100000 in
set_option maxHeartbeats 4000000 in
theorem full_of (x : Ex) (ih : ∀ i (h : i < x.args.length), FullC x.args[i]) : FullC x := by
  intro w s d M kk hM hz hS E
  cases d with
  | zero => simp [sz] at hz
  | succ d =>
  obtain ⟨_, hf, hl⟩ := sz_parts hz
  by_cases h0 : x.args.length = 0
  · exact full_leaf x (len0 h0) hf w s hS E
  have hparts : ∀ k (h : k < x.args.length), ∃ M' k', M' ≤ 200 ∧ sz d M' x.args[k] = some k' := fun k h => by
    obtain ⟨m, ka, h1, h2⟩ := szL_all x.args 1 kk hl k h
    exact ⟨m, ka, by omega, h2⟩
  obtain ⟨ao, cap, sl, rfl, hop, hn, hnm, hlen, hcap, hc, hs⟩ := hS.out
  obtain ⟨i0, hi, hi0, hi1, hi2⟩ := info_parts info9'
  have HS := hid hs
  have HC := hid hc
  have HI := hid ih
  have HE := hid E
  have HP := hid hparts
  have HF := hid hf
  have HZ : Hid (∀ k (h : k < x.args.length), (⟨(br (fl x.args[k])).toArray⟩ : ByteArray).size ≤ 65536) := fun k h => by
    obtain ⟨M', k', h1, h2⟩ := hparts k h
    have := (G_any d M' x.args[k] k' w (sl k) h2 (hs k h)).2.2.2
    have := (sz_le _ _ _ _ h2).2
    rw [Lib.size_eq]
    show (br (fl x.args[k])).length ≤ 65536
    simp only [br, List.length_cons, List.length_append, List.length_nil]
    omega
  have b0 := (Below.refl w.heap.size w).alloc (Nat.le_refl _) (.cells (ex4 x (.slice ao x.args.length cap)) 25)
  have F0 : Hid (FlS w x (ex4 x (.slice ao x.args.length cap)) 0 (.slice none 0 0) (w.alloc (.cells (ex4 x (.slice ao x.args.length cap)) 25))) := ⟨b0, heap_alloc_new w _, World.ownsRow_nil _ _ _ _⟩
  obtain ⟨p0, p1, p2, p3⟩ := row_cells4 F0.out.box
  have hl0 : ((x.args.length : Int) == 0) = false := by simp; intro h; exact h0 (by rw [h]; rfl)
  have FEW : Hid (x.args.length ≤ 3) := by
    unfold Hid
    rcases fields_cases hf with ⟨h1, h2, h3⟩ | ⟨h1, h2, h3⟩ | ⟨h1, h2, h3⟩ | ⟨h1, h3⟩ | ⟨h1, h3⟩ | ⟨⟨r, hr⟩, h3⟩ <;> omega
  clear hs hc ih hS E hparts hf hl hz b0
  go_enter Tryd.func17, Tryd.ntmps17
  go_wp2
  go_loopw [5, 6] (fun v i wr => ∃ k : Nat, k ≤ x.args.length ∧ i = .int .i64 (k : Int) ∧ Hid (FlS w x (ex4 x (.slice ao x.args.length cap)) k v wr)) (fun _ i _ => x.args.length - (intOf i).toNat)
  case atStart => exact ⟨0, Nat.zero_le _, rfl, F0⟩
  case round =>
    obtain ⟨k, hk, rfl, hF⟩ := hrel
    clear p0 p1 p2 p3 F0
    obtain ⟨p0, p1, p2, p3⟩ := row_cells4 hF.out.box
    by_cases hlt : k < x.args.length
    · have hlt' : (k : Int) < (x.args.length : Int) := by omega
      have hk0 : (0 : Int) ≤ (k : Int) := by omega
      obtain ⟨b, o, rfl, hc⟩ := HC.out.resolve_left (by omega)
      obtain ⟨h0, h1, h2, h3⟩ := hc k hlt
      have y0 := cell_kept h0 hF.out.below
      have y1 := cell_kept h1 hF.out.below
      have y2 := cell_kept h2 hF.out.below
      have y3 := cell_kept h3 hF.out.below
      obtain ⟨M', k', hM', hz'⟩ := HP.out k hlt
      have c := HI.out k hlt wr (sl k) d M' k' hM' hz' ((HS.out k hlt).keep hF.out.below) (HE.out.below hF.out.below)
      have HT : Hid (x.args.take (k + 1) = x.args.take k ++ [x.args[k]]) := by unfold Hid; simp
      have hsz : (⟨(fl x.args[k]).toArray⟩ : ByteArray).size ≤ 65536 := by
        have := (G_any d M' x.args[k] k' wr (sl k) hz' ((HS.out k hlt).keep hF.out.below)).2.2.2
        have := (sz_le _ _ _ _ hz').2
        rw [Lib.size_eq]
        show (fl x.args[k]).length ≤ 65536
        omega
      clear h0 h1 h2 h3 hc hz' HI HP
      generalize x.args[k] = y at *
      have HB : Hid (bS y = .string ((⟨#[40]⟩ : ByteArray) ++ ⟨(fl y).toArray⟩ ++ (⟨#[41]⟩ : ByteArray))) := by unfold Hid bS; rw [br_bytes]
      generalize (⟨(fl y).toArray⟩ : ByteArray) = Y at *
      go_wp2_with (first
        | (go_at_call 17; refine c.mono ?_; rintro e w2 ⟨rfl, hb2⟩; have F2 := hid (hF.out.step hb2); have F3 := hid (F2.out.step ((Below.refl w2.heap.size w2).alloc (Nat.le_refl _) (.cells #[.string ((⟨#[40]⟩ : ByteArray) ++ Y ++ (⟨#[41]⟩ : ByteArray))] 9))); clear hb2 c hF)
        | (at_builtin; refine wpList_append_own _ rfl (.tmp 28) (.tmp 37) 41 rfl (w.heap.size + 1) 9 i0 (.string ByteArray.empty) 1 16 Tryd.underlying41 hi hi0 hi1 hi2 rfl (by decide) _ _ _ rfl F3.out.row ⟨w2.heap.size, 0, none⟩ 1 1 [.string ((⟨#[40]⟩ : ByteArray) ++ Y ++ (⟨#[41]⟩ : ByteArray))] rfl rfl (one_new _ _) (by simp [Value.oneCell']) (by have := FEW.out; unfold maxLen; omega) (by have := FEW.out; omega) F3.out.lt ?_; intro v' w' hown1 hgrow1 _; have F4 := hid (F3.out.grow y HT.out hgrow1 (by rw [HB.out]; exact hown1)); clear hown1 hgrow1))
      go_roundw
      case rel => exact ⟨k + 1, by omega, by go_num, F4⟩
      case measure => simp [intOf]; omega
    · have hlt' : ¬ (k : Int) < (x.args.length : Int) := by omega
      obtain rfl : k = x.args.length := by omega
      have R := hF.out.row
      have HFo := HF.out
      rcases fields_cases HFo with ⟨h1, h2, h3⟩ | ⟨h1, h2, h3⟩ | ⟨h1, h2, h3⟩ | ⟨h1, h3⟩ | ⟨h1, h3⟩ | ⟨⟨r, hr⟩, h3⟩
      · exact absurd h3 h0
      · exact absurd h3 h0
      · exact absurd h3 h0
      · obtain ⟨a, ea⟩ := len1 h3
        have z0 := HZ.out 0 (by omega)
        simp only [ea, List.getElem_cons_zero] at z0
        rw [List.take_length, ea] at R
        simp only [List.length_cons, List.length_nil, List.map_cons, List.map_nil] at R
        obtain ⟨g, cc, rfl⟩ := own_slice R
        have q0 := (R.cellAt 0 (by decide)).trans (show [bS a][0]? = some (bS a) from rfl)
        clear R HZ HS HC HI HP HFo HF
        rcases h1 with h1 | h1 | h1
        · have e4 : ((x.op : Int) == 4) = true := by simp; omega
          have HR : Hid ((⟨(fl x).toArray⟩ : ByteArray) = (⟨#[45]⟩ : ByteArray) ++ ⟨(br (fl a)).toArray⟩) := by unfold Hid; rw [cat_bytes, fl_one ea, if_pos h1]; simp
          unfold bS at q0
          generalize (⟨(br (fl a)).toArray⟩ : ByteArray) = A at *
          clear h1
          go_wp2
          go_ret
          exact ⟨(congrArg (fun b => Ending.returned (Value.string b)) HR.out).symm, hF.out.below⟩
        · have e4 : ((x.op : Int) == 4) = false := by simp; omega
          have e5 : ((x.op : Int) == 5) = true := by simp; omega
          have HR : Hid ((⟨(fl x).toArray⟩ : ByteArray) = (⟨#[110, 111, 116, 32]⟩ : ByteArray) ++ ⟨(br (fl a)).toArray⟩) := by unfold Hid; rw [cat_bytes, fl_one ea, if_neg (by omega), if_pos h1]; simp
          unfold bS at q0
          generalize (⟨(br (fl a)).toArray⟩ : ByteArray) = A at *
          clear h1
          go_wp2
          go_ret
          exact ⟨(congrArg (fun b => Ending.returned (Value.string b)) HR.out).symm, hF.out.below⟩
        · have e4 : ((x.op : Int) == 4) = false := by simp; omega
          have e5 : ((x.op : Int) == 5) = false := by simp; omega
          have e19 : ((x.op : Int) == 19) = true := by simp; omega
          have HR : Hid ((⟨(fl x).toArray⟩ : ByteArray) = (⟨#[112, 114, 101, 32]⟩ : ByteArray) ++ ⟨(br (fl a)).toArray⟩) := by unfold Hid; rw [cat_bytes, fl_one ea, if_neg (by omega), if_neg (by omega)]; simp
          unfold bS at q0
          generalize (⟨(br (fl a)).toArray⟩ : ByteArray) = A at *
          clear h1
          go_wp2
          go_ret
          exact ⟨(congrArg (fun b => Ending.returned (Value.string b)) HR.out).symm, hF.out.below⟩
      · obtain ⟨a, b, c, ea⟩ := len3 h3
        have z0 := HZ.out 0 (by omega)
        have z1 := HZ.out 1 (by omega)
        have z2 := HZ.out 2 (by omega)
        simp only [ea, List.getElem_cons_zero, List.getElem_cons_succ] at z0 z1 z2
        rw [List.take_length, ea] at R
        simp only [List.length_cons, List.length_nil, List.map_cons, List.map_nil] at R
        obtain ⟨g, cc, rfl⟩ := own_slice R
        have q0 := (R.cellAt 0 (by decide)).trans (show [bS a, bS b, bS c][0]? = some (bS a) from rfl)
        have q1 := (R.cellAt 1 (by decide)).trans (show [bS a, bS b, bS c][1]? = some (bS b) from rfl)
        have q2 := (R.cellAt 2 (by decide)).trans (show [bS a, bS b, bS c][2]? = some (bS c) from rfl)
        clear R HZ HS HC HI HP HFo HF
        have e4 : ((x.op : Int) == 4) = false := by simp; omega
        have e5 : ((x.op : Int) == 5) = false := by simp; omega
        have e19 : ((x.op : Int) == 19) = false := by simp; omega
        have e17 : ((x.op : Int) == 17) = true := by simp; omega
        have HR : Hid ((⟨(fl x).toArray⟩ : ByteArray) = (⟨#[105, 102, 32]⟩ : ByteArray) ++ ⟨(br (fl a)).toArray⟩ ++ (⟨#[32, 116, 104, 101, 110, 32]⟩ : ByteArray) ++ ⟨(br (fl b)).toArray⟩ ++ (⟨#[32, 101, 108, 115, 101, 32]⟩ : ByteArray) ++ ⟨(br (fl c)).toArray⟩) := by unfold Hid; simp only [cat_bytes]; rw [fl_three ea]; simp
        unfold bS at q0 q1 q2
        generalize (⟨(br (fl a)).toArray⟩ : ByteArray) = A at *
        generalize (⟨(br (fl b)).toArray⟩ : ByteArray) = B at *
        generalize (⟨(br (fl c)).toArray⟩ : ByteArray) = C at *
        clear h1
        go_wp2
        go_quiet (fail)
        go_wp2
        go_ret
        exact ⟨(congrArg (fun b => Ending.returned (Value.string b)) HR.out).symm, bstep hF.out.below (below_drewN (Below.refl _ _) _)⟩
      · obtain ⟨a, b, ea⟩ := len2 h3
        have z0 := HZ.out 0 (by omega)
        have z1 := HZ.out 1 (by omega)
        simp only [ea, List.getElem_cons_zero, List.getElem_cons_succ] at z0 z1
        rw [List.take_length, ea] at R
        simp only [List.length_cons, List.length_nil, List.map_cons, List.map_nil] at R
        obtain ⟨g, cc, rfl⟩ := own_slice R
        have q0 := (R.cellAt 0 (by decide)).trans (show [bS a, bS b][0]? = some (bS a) from rfl)
        have q1 := (R.cellAt 1 (by decide)).trans (show [bS a, bS b][1]? = some (bS b) from rfl)
        clear R HZ HS HC HI HP HFo HF
        have hop3 : x.op = 18 ∨ (6 ≤ x.op ∧ x.op ≤ 16) := by
          have : ∀ j ∈ JT, j.op = 18 ∨ (6 ≤ j.op ∧ j.op ≤ 16) := by decide
          have := this r (jOf_mem hr).1
          rwa [(jOf_mem hr).2] at this
        have e4 : ((x.op : Int) == 4) = false := by simp; omega
        have e5 : ((x.op : Int) == 5) = false := by simp; omega
        have e19 : ((x.op : Int) == 19) = false := by simp; omega
        have e17 : ((x.op : Int) == 17) = false := by simp; omega
        have HR : Hid ((⟨(fl x).toArray⟩ : ByteArray) = (⟨(br (fl a)).toArray⟩ : ByteArray) ++ (⟨#[32]⟩ : ByteArray) ++ sgAt x.op 11 ++ (⟨#[32]⟩ : ByteArray) ++ ⟨(br (fl b)).toArray⟩) := by
          unfold Hid
          rw [sgAt_join hr, fl_two ea, hr, Option.getD_some]
          apply ByteArray.ext
          apply Array.toList_inj.1
          simp [ByteArray.data_append]
        unfold bS at q0 q1
        generalize (⟨(br (fl a)).toArray⟩ : ByteArray) = A at *
        generalize (⟨(br (fl b)).toArray⟩ : ByteArray) = B at *
        have G0 : Hid (Fl2 w (ex4 x (.slice ao 2 cap)) g wr.heap.size (.string A) (.string B) ((wr.alloc (.cells sigFV 9)).alloc (.cells opFV 22))) := by
          have b1 := (Below.refl wr.heap.size wr).alloc (Nat.le_refl _) (.cells sigFV 9)
          have b2 := (Below.refl _ (wr.alloc (.cells sigFV 9))).alloc (Nat.le_refl _) (.cells opFV 22)
          have b3 := bstep b1 b2
          have hbx := hF.out.box
          rw [h3] at hbx
          exact ⟨bstep hF.out.below b3, (b3.block _ (Array.getElem?_eq_some_iff.1 hbx).1).trans hbx, (b2.block _ (by simp)).trans (heap_alloc_new wr _), (by have := heap_alloc_new (wr.alloc (.cells sigFV 9)) (.cells opFV 22); simpa using this), cell_kept q0 b3, cell_kept q1 b3⟩
        go_wp2
        clear p0 p1 p2 p3 q0 q1 hF
        generalize wr.heap.size = bs at *
        go_loopw [9, 10] (fun sg i wv => ∃ k : Nat, k ≤ 11 ∧ i = .int .i64 (k : Int) ∧ sg = .string (sgAt x.op k) ∧ Hid (Fl2 w (ex4 x (.slice ao 2 cap)) g bs (.string A) (.string B) wv)) (fun _ i _ => 11 - (intOf i).toNat)
        case atStart => exact ⟨0, by omega, rfl, by rw [show sgAt x.op 0 = ⟨#[45, 62]⟩ from if_neg (by omega)], G0⟩
        case round =>
          obtain ⟨k, hk, rfl, rfl, hG⟩ := hrel
          clear G0
          obtain ⟨t0, t1, t2, t3⟩ := row_cells4 hG.out.box
          by_cases hk11 : k < 11
          · have hk' : (k : Int) < 11 := by omega
            have hk0 : (0 : Int) ≤ (k : Int) := by omega
            have o1 : wr.cell? ⟨bs + 1, k, none⟩ = some (.int .u8 (6 + (k : Int))) := ((cell_of_row _ _ _ _ 22 (0, 0) hG.out.ops).trans (opFV_at k hk11)).trans (by simp)
            have o2 : wr.cell? ⟨bs, k, none⟩ = some (.string (sigN k)) := (cell_of_row _ _ _ _ 9 (0, 0) hG.out.sigs).trans (sigFV_at k hk11)
            by_cases hop : x.op = 6 + k
            · have e1 : ((6 + (k : Int)) == (x.op : Int)) = true := by simp; omega
              have Hs : Hid (sgAt x.op (k + 1) = sigN k) := by unfold Hid sgAt; rw [if_pos (by omega), hop, Nat.add_sub_cancel_left]
              clear hop hop3
              go_wp2
              go_quiet (fail)
              go_wp2
              go_roundw
              case rel => exact ⟨k + 1, by omega, by go_num, by rw [Hs.out], hG.out.step (below_drewN (Below.refl _ _) _)⟩
              case measure => simp [intOf]; omega
            · have e1 : ((6 + (k : Int)) == (x.op : Int)) = false := by simp; omega
              have Hs : Hid (sgAt x.op (k + 1) = sgAt x.op k) := by unfold Hid sgAt; by_cases h : 6 ≤ x.op ∧ x.op < 6 + k; rw [if_pos (by omega), if_pos h]; rw [if_neg (by omega), if_neg h]
              clear hop hop3
              generalize sgAt x.op k = sk at *
              go_wp2
              go_quiet (fail)
              go_wp2
              go_roundw
              case rel => exact ⟨k + 1, by omega, by go_num, by rw [Hs.out], hG.out.step (below_drewN (Below.refl _ _) _)⟩
              case measure => simp [intOf]; omega
          · obtain rfl : k = 11 := by omega
            have q0 := hG.out.one
            have q1 := hG.out.two
            have z3 := sgAt_small x.op 11
            generalize sgAt x.op 11 = sk at *
            go_wp2
            go_quiet (fail)
            go_wp2
            go_ret
            exact ⟨(congrArg (fun b => Ending.returned (Value.string b)) HR.out).symm, bstep hG.out.below (below_drewN (Below.refl _ _) _)⟩
theorem full_any : ∀ (m : Nat) (x : Ex), SizeOf.sizeOf x ≤ m → FullC x := by
  intro m
  induction m with
  | zero => intro x h; obtain ⟨o, n, s, l⟩ := x; simp at h
  | succ m ih => intro x h; exact full_of x fun i hi => ih _ (by have := x.part_lt i hi; omega)
/-- With brackets around each part, of what may be. -/
theorem full (x : Ex) (hc : chk x = true) (w : World) (s : Value) (hS : St w x s) (E : Env w) : Calls Tryd.prog 17 #[exV x s] w fun e w' => e = .returned (.string ⟨(fl x).toArray⟩) ∧ Below w.heap.size w w' := by
  unfold chk at hc
  obtain ⟨k, hk⟩ := Option.isSome_iff_exists.1 hc
  exact full_any _ x (Nat.le_refl _) w s 32 200 k (Nat.le_refl _) hk hS E
end Go.Proofs.YtkieljleopbhoaaDoor.Lex
namespace Go.Proofs.YtkieljleopbhoaaDoor.Lex
open Go.ChangeShapes Go.WideShapes Go.ChangeAt Go.RowKit Go.Joins
theorem brr_bytes (l : List UInt8) : (⟨#[40, 40]⟩ : ByteArray) ++ ⟨l.toArray⟩ ++ (⟨#[41, 41]⟩ : ByteArray) = ⟨(br (br l)).toArray⟩ := by
  apply ByteArray.ext
  apply Array.toList_inj.1
  simp [br, ByteArray.data_append]
theorem parse_yes {w : World} (v : Value) (ts : List Mark) (x : Ex) (q : Nat) (hP : P ts 0 0 = .ok (x, q)) (hc : chk x = true) (hM : MarksAt w v ts) (hv : ∀ a n c, v = .slice (some a) n c → a.block < w.heap.size) (E : REnv w) (hT : TsOk ts) (hfew : ts.length ≤ 140737488355328) : Calls Tryd.prog 19 #[v, .int .i64 0] w fun e w' => Below w.heap.size w w' ∧ ∃ ao cap, e = .returned (.tuple #[exV x (.slice ao x.args.length cap), .int .i64 (q : Int), .int .i64 0]) ∧ St w' x (.slice ao x.args.length cap) := by
  refine (parse_sum v ts hM hv E hT hfew).mono ?_
  rintro e w' ⟨hb, y, ao, cap, r, f, rfl, st, hd⟩
  rcases hd with ⟨rfl, h2, _⟩ | ⟨_, h2⟩
  · rw [hP] at h2
    injection h2 with h2
    injection h2 with e1 e2
    subst e1 e2
    exact ⟨hb, ao, cap, rfl, st.st⟩
  · rw [h2 x q hP] at hc; cases hc
/-- What the law's calls answer, of what may be. -/
theorem brk_all (x : Ex) (hc : chk x = true) {w : World} {s : Value} (hS : St w x s) : ∃ (T F : ByteArray) (ts : List Tok), T.size ≤ 65000 ∧ F.size ≤ 65000 ∧ ts.length ≤ 65536 ∧
    (∀ (W : World) (s : Value), St W x s → AEnv W → Calls Tryd.prog 9 #[exV x s] W fun e w' => e = .returned (.tuple #[.string T, .int .i64 0]) ∧ Below W.heap.size W w') ∧
    (∀ (W : World), AEnv W → Calls Tryd.prog 15 #[.string ((⟨#[40]⟩ : ByteArray) ++ T ++ (⟨#[41]⟩ : ByteArray))] W fun e w' => Below W.heap.size W w' ∧ ∃ ao cap, e = .returned (.tuple #[exV x (.slice ao x.args.length cap), .bool true]) ∧ St w' x (.slice ao x.args.length cap)) ∧
    (∀ (W : World) (s : Value), St W x s → AEnv W → Calls Tryd.prog 17 #[exV x s] W fun e w' => e = .returned (.string F) ∧ Below W.heap.size W w') ∧
    (∀ (W : World), AEnv W → Calls Tryd.prog 15 #[.string ((⟨#[40, 40]⟩ : ByteArray) ++ F ++ (⟨#[41, 41]⟩ : ByteArray))] W fun e w' => Below W.heap.size W w' ∧ ∃ ao cap, e = .returned (.tuple #[exV x (.slice ao x.args.length cap), .bool true]) ∧ St w' x (.slice ao x.args.length cap)) ∧
    (∀ (W : World), AEnv W → Calls Tryd.prog 18 #[.string T] W fun e w' => Below W.heap.size W w' ∧ ∃ a cap, e = .returned (.tuple #[.slice a ts.length cap, .int .i64 0, .int .i64 0]) ∧ w'.ownsRow W.heap.size 45 3 (.slice a ts.length cap) ts.length (toksV ts)) ∧
    (∀ (t : Tok), t.kind ≤ 3 → t.text.length ≤ 65536 → jAt (tokM t) = none → ∀ (W : World) (v : Value) (B : Nat), W.ownsRow B 45 3 v (ts.length + 1) (toksV ts ++ tokV t) → AEnv W → Calls Tryd.prog 19 #[v, .int .i64 0] W fun e w' => Below W.heap.size W w' ∧ ∃ ao cap, e = .returned (.tuple #[exV x (.slice ao x.args.length cap), .int .i64 (ts.length : Int), .int .i64 0]) ∧ St w' x (.slice ao x.args.length cap)) := by
  have hc' := hc
  unfold chk at hc'
  obtain ⟨k, hk⟩ := Option.isSome_iff_exists.1 hc'
  have hkk := (sz_le _ _ _ _ hk).2
  have hw := wr_len 32 200 x k w s hk hS
  obtain ⟨g1, g2, _, g4⟩ := G_any 32 200 x k w s hk hS
  have gt := (T_any 32 200 x k w s hk hS).g
  have lt := (lex_any 32 200 x k hk).1
  obtain ⟨ts, e1, e2⟩ := lt 0 [] (.inl rfl)
  rw [List.append_nil, toks_nil] at e2
  have e3 : toks 0 (wr x) = .ok ts := by rw [e2]; simp [ahead]
  have hz : ∀ l : List UInt8, (⟨l.toArray⟩ : ByteArray).size = l.length := fun l => by rw [Lib.size_eq]
  have hb : ∀ l : List UInt8, (br l).length = l.length + 2 := fun l => by simp [br]
  obtain ⟨tok1, tok2⟩ := toks_ok e3 (by omega)
  refine ⟨⟨(wr x).toArray⟩, ⟨(fl x).toArray⟩, ts, by rw [hz]; omega, by rw [hz]; omega, tok2, fun W s h A => tx_yes x hc W s h A.env, fun W A => ?_, fun W s h A => full x hc W s h A.env, fun W A => ?_, fun W A => ?_, fun t t1 t2 t3 W v B hR A => ?_⟩
  · rw [br_bytes]
    exact rd_yes _ x (G.read (ms := tkb (tk x)) hc lt.brackets gt.brk) (by rw [hz, hb]; omega) W A
  · rw [brr_bytes]
    exact rd_yes _ x (G.read (ms := tkb (tkb (tf x))) hc (LexC.brackets (show LexC (br (fl x)) (tkb (tf x)) from g2.brackets)) g1.brk.brk) (by rw [hz, hb, hb]; omega) W A
  · refine (read ⟨(wr x).toArray⟩ W A.tabS (by rw [hz]; omega)).mono ?_
    rintro e w' ⟨hb', hc'⟩
    rcases hc' with ⟨b, h1, h2⟩ | ⟨us, v, h1, h2, h3⟩
    · rw [show toks 0 (⟨(wr x).toArray⟩ : ByteArray).data.toList = .ok ts from e3] at h1; cases h1
    · rw [show toks 0 (⟨(wr x).toArray⟩ : ByteArray).data.toList = .ok ts from e3] at h1
      injection h1 with h1
      subst h1
      obtain ⟨m1, m2⟩ := marks_own h3
      obtain ⟨a, cap, e5, m3⟩ := m1
      have e6 : v = .slice a ts.length cap := by rw [e5, List.length_map]
      subst e6
      exact ⟨hb', a, cap, h2, h3⟩
  · have hR' : W.ownsRow B 45 3 v (ts ++ [t]).length (toksV (ts ++ [t])) := by rw [toksV_app, List.length_append]; simpa [toksV] using hR
    obtain ⟨m1, m2⟩ := marks_own hR'
    refine parse_yes v ((ts ++ [t]).map tokM) x ts.length ?_ hc m1 m2 A.renv ?_ (by rw [List.length_map, List.length_append]; simp; omega)
    · rw [List.map_append, e1]
      have := gt.behind (tokM t) t3
      rw [show (tk x).length = ts.length by rw [← e1, List.length_map]] at this
      exact this
    · intro m hm
      rw [List.map_append] at hm
      rcases List.mem_append.1 hm with hm | hm
      · exact tok1 m hm
      · simp only [List.map_cons, List.map_nil, List.mem_singleton] at hm
        subst hm
        refine ⟨by show t.kind < 256; omega, ?_⟩
        show (⟨t.text.toArray⟩ : ByteArray).size ≤ 1048576
        rw [hz]
        omega
theorem three_new' (w : World) (o : Obj) (x y z : Value) : ∀ j u, [x, y, z][j]? = some u → ((w.alloc o).alloc (.cells #[x, y, z] 45)).cell? ((⟨w.heap.size + 1, 0, none⟩ : Addr).add j) = some u := by
  have := three_new (w.alloc o) x y z
  simpa using this
end Go.Proofs.YtkieljleopbhoaaDoor.Lex
namespace Go.Proofs.YtkieljleopbhoaaDoor.Lex
open Go.ChangeShapes Go.WideShapes Go.ChangeAt Go.RowKit Go.Joins
set_option maxRecDepth 100000 in
set_option maxHeartbeats 4000000 in
theorem brk_no (x : Ex) (s : Value) (n : Nat) (w : World) (hS : St w x s) (A : AEnv w) (hc : chk x = false) : Calls Tryd.prog 5 #[exV x s, .int .u8 (n : Int)] w fun e w' => e = .returned (.bool true) ∧ Below w.heap.size w w' := by
  have c11 := check x
  rw [hc] at c11
  obtain ⟨ao, cap, sl, rfl, _⟩ := hS.out
  have AV0 := hid ((AV.push (L := []) ⟨Below.refl w.heap.size w, fun p hp => by cases hp⟩ (ex4 x (.slice ao x.args.length cap))))
  have HS := hid hS
  have HA := hid A
  clear hS A hc
  go_enter Tryd.func5, Tryd.ntmps5
  go_wp2_with (first
    | (go_at_call 14; refine (alive _ (HA.out.below AV0.out.below)).mono ?_; rintro e w1 ⟨rfl, b1⟩; have AV1 := hid (AV0.out.step b1); obtain ⟨p0, p1, p2, p3⟩ := row_cells4 (AV1.out.row w.heap.size (ex4 x (.slice ao x.args.length cap)) (by simp)); clear AV0 b1)
    | (go_at_call 7; refine (size_any _ x (Nat.le_refl _) _ _ (HS.out.keep AV1.out.below)).mono ?_; rintro e w2 ⟨⟨m, rfl⟩, b2⟩; have AV2 := hid (AV1.out.step b2); clear p0 p1 p2 p3; obtain ⟨p0, p1, p2, p3⟩ := row_cells4 (AV2.out.row w.heap.size (ex4 x (.slice ao x.args.length cap)) (by simp)); clear AV1 b2)
    | (go_at_call 14; refine (alive _ (HA.out.below AV2.out.below)).mono ?_; rintro e w90 ⟨rfl, b90⟩; have BZ := hid (bstep AV2.out.below b90); clear AV2 b90)
    | (go_at_call 11; refine (c11 _ _ (HS.out.keep AV2.out.below) (HA.out.below AV2.out.below).env.res (HA.out.below AV2.out.below).env.joins).mono ?_; rintro e w3 ⟨rfl, b3⟩; have AV3 := hid (AV2.out.step b3); clear p0 p1 p2 p3 AV2 b3)
    | (go_at_call 14; refine (alive _ (HA.out.below AV3.out.below)).mono ?_; rintro e w90 ⟨rfl, b90⟩; have BZ := hid (bstep AV3.out.below b90); clear AV3 b90))
  all_goals (go_ret; exact ⟨rfl, BZ.out⟩)
set_option maxRecDepth 100000 in
set_option maxHeartbeats 4000000 in
theorem brk_0 (x : Ex) (s : Value) (n : Nat) (w : World) (hS : St w x s) (A : AEnv w) (hc : chk x = true) (h256 : n < 256) (hn : n % 7 = 0) : Calls Tryd.prog 5 #[exV x s, .int .u8 (n : Int)] w fun e w' => e = .returned (.bool true) ∧ Below w.heap.size w w' := by
  obtain ⟨T, F, ts, hz1, hz2, hz3, c9, c15, c17, d15, c18, c19⟩ := brk_all x hc hS
  have c11 := check x
  rw [hc] at c11
  obtain ⟨ao, cap, sl, rfl, _⟩ := hS.out
  obtain ⟨i0, hi, hi0, hi1, hi2⟩ := info_parts info32'
  have HT3 := hid hz3
  have AV0 := hid ((AV.push (L := []) ⟨Below.refl w.heap.size w, fun p hp => by cases hp⟩ (ex4 x (.slice ao x.args.length cap))))
  have HS := hid hS
  have HA := hid A
  have hm : (n : Int).tmod 7 = 0 := by rw [Int.tmod_eq_emod_of_nonneg (by omega)]; omega
  clear hS A hc hn hz3
  go_enter Tryd.func5, Tryd.ntmps5
  go_wp2_with (first
    | (go_at_call 14; refine (alive _ (HA.out.below AV0.out.below)).mono ?_; rintro e w1 ⟨rfl, b1⟩; have AV1 := hid (AV0.out.step b1); obtain ⟨p0, p1, p2, p3⟩ := row_cells4 (AV1.out.row w.heap.size (ex4 x (.slice ao x.args.length cap)) (by simp)); clear AV0 b1)
    | (go_at_call 7; refine (size_any _ x (Nat.le_refl _) _ _ (HS.out.keep AV1.out.below)).mono ?_; rintro e w2 ⟨⟨m, rfl⟩, b2⟩; have AV2 := hid (AV1.out.step b2); clear p0 p1 p2 p3; obtain ⟨p0, p1, p2, p3⟩ := row_cells4 (AV2.out.row w.heap.size (ex4 x (.slice ao x.args.length cap)) (by simp)); clear AV1 b2)
    | (go_at_call 14; refine (alive _ (HA.out.below AV2.out.below)).mono ?_; rintro e w90 ⟨rfl, b90⟩; have BZ := hid (bstep AV2.out.below b90); clear AV2 b90)
    | (go_at_call 11; refine (c11 _ _ (HS.out.keep AV2.out.below) (HA.out.below AV2.out.below).env.res (HA.out.below AV2.out.below).env.joins).mono ?_; rintro e w3 ⟨rfl, b3⟩; have AV3 := hid (AV2.out.step b3); clear p0 p1 p2 p3; obtain ⟨p0, p1, p2, p3⟩ := row_cells4 (AV3.out.row w.heap.size (ex4 x (.slice ao x.args.length cap)) (by simp)); clear AV2 b3 c11)
    | (go_at_call 9; refine (c9 _ _ (HS.out.keep AV3.out.below) (HA.out.below AV3.out.below)).mono ?_; rintro e w4 ⟨rfl, b4⟩; have AV4 := hid (AV3.out.step b4); clear p0 p1 p2 p3; obtain ⟨p0, p1, p2, p3⟩ := row_cells4 (AV4.out.row w.heap.size (ex4 x (.slice ao x.args.length cap)) (by simp)); clear AV3 b4 c9)
    | (go_at_call 15; refine (c15 _ (HA.out.below AV4.out.below)).mono ?_; rintro e w5 ⟨b5, a5, c5, rfl, st5⟩; have AV5 := hid ((AV4.out.step b5).push (ex4 x (.slice a5 x.args.length c5))); have SY5 := hid (st5.keep ((Below.refl w5.heap.size w5).alloc (Nat.le_refl _) (.cells (ex4 x (.slice a5 x.args.length c5)) 25))); clear p0 p1 p2 p3; obtain ⟨p0, p1, p2, p3⟩ := row_cells4 (AV5.out.row w.heap.size (ex4 x (.slice ao x.args.length cap)) (by simp)); clear AV4 b5 c15 st5)
    | (go_at_call 17; refine (c17 _ _ (HS.out.keep AV5.out.below) (HA.out.below AV5.out.below)).mono ?_; rintro e w6 ⟨rfl, b6⟩; have AV6 := hid (AV5.out.step b6); have SY6 := hid (SY5.out.keep b6); clear p0 p1 p2 p3 AV5 b6 c17 SY5)
    | (go_at_call 15; refine (d15 _ (HA.out.below AV6.out.below)).mono ?_; rintro e w7 ⟨b7, a7, c7, rfl, st7⟩; have AV7 := hid ((AV6.out.step b7).push (ex4 x (.slice a7 x.args.length c7))); have SZ7 := hid (st7.keep ((Below.refl w7.heap.size w7).alloc (Nat.le_refl _) (.cells (ex4 x (.slice a7 x.args.length c7)) 25))); have SY7 := hid (SY6.out.keep (bstep b7 ((Below.refl w7.heap.size w7).alloc (Nat.le_refl _) (.cells (ex4 x (.slice a7 x.args.length c7)) 25)))); clear AV6 b7 d15 st7 SY6)
    | (go_at_call 18; refine (c18 _ (HA.out.below AV7.out.below)).mono ?_; rintro e w8 ⟨b8, a8, c8, rfl, R8⟩; have b9 := bstep b8 (bstep ((Below.refl w8.heap.size w8).alloc (Nat.le_refl _) (.cells #[.string ⟨#[59]⟩, .string ⟨#[41]⟩, .string ⟨#[116, 104, 101, 110]⟩, .string ⟨#[101, 108, 115, 101]⟩, .string ⟨#[61]⟩, .string ⟨#[120]⟩, .string ⟨#[49]⟩] 9)) ((Below.refl _ (w8.alloc (.cells #[.string ⟨#[59]⟩, .string ⟨#[41]⟩, .string ⟨#[116, 104, 101, 110]⟩, .string ⟨#[101, 108, 115, 101]⟩, .string ⟨#[61]⟩, .string ⟨#[120]⟩, .string ⟨#[49]⟩] 9))).alloc (Nat.le_refl _) (.cells #[.int .u8 3, .string ⟨#[59]⟩, .int .i64 0] 45))); have R9 := hid (ownsRow_below R8 (bstep ((Below.refl w8.heap.size w8).alloc (Nat.le_refl _) (.cells #[.string ⟨#[59]⟩, .string ⟨#[41]⟩, .string ⟨#[116, 104, 101, 110]⟩, .string ⟨#[101, 108, 115, 101]⟩, .string ⟨#[61]⟩, .string ⟨#[120]⟩, .string ⟨#[49]⟩] 9)) ((Below.refl _ (w8.alloc (.cells #[.string ⟨#[59]⟩, .string ⟨#[41]⟩, .string ⟨#[116, 104, 101, 110]⟩, .string ⟨#[101, 108, 115, 101]⟩, .string ⟨#[61]⟩, .string ⟨#[120]⟩, .string ⟨#[49]⟩] 9))).alloc (Nat.le_refl _) (.cells #[.int .u8 3, .string ⟨#[59]⟩, .int .i64 0] 45)))); have B9 := hid b9; clear b8 b9 R8 c18)
    | (at_builtin; refine wpList_append_own _ rfl (.tmp 80) (.tmp 84) 38 rfl (w7.alloc (.cells (ex4 x (.slice a7 x.args.length c7)) 25)).heap.size 45 i0 (.agg #[.int .u8 0, .string ByteArray.empty, .int .i64 0]) 3 32 Tryd.underlying38 hi hi0 hi1 hi2 rfl (by decide) _ _ _ rfl R9.out ⟨w8.heap.size + 1, 0, none⟩ 1 1 [.int .u8 3, .string ⟨#[59]⟩, .int .i64 0] rfl rfl (three_new' _ _ _ _ _) (by simp [Value.oneCell']) (by have := HT3.out; unfold maxLen; omega) (by have := HT3.out; omega) B9.out.size ?_; intro v' w9 hown1 hgrow1 _; have bg := hid (B9.out.grown hgrow1 B9.out.size (fun k hk => (R9.out.lt k hk).1)); have AV9 := hid (AV7.out.step bg.out); have SY9 := hid (SY7.out.keep bg.out); have SZ9 := hid (SZ7.out.keep bg.out); have c19' := c19 ⟨3, [59], 0⟩ (by decide) (by decide) (by rw [jAt_eq]; decide) w9 v' _ hown1 (HA.out.below AV9.out.below); clear hown1 hgrow1 bg R9 B9 AV7 SY7 SZ7 c19)
    | (go_at_call 19; refine c19'.mono ?_; rintro e w10 ⟨b10, a10, c10, rfl, st10⟩; have AV10 := hid ((AV9.out.step b10).push (ex4 x (.slice a10 x.args.length c10))); have b11 := bstep b10 ((Below.refl w10.heap.size w10).alloc (Nat.le_refl _) (.cells (ex4 x (.slice a10 x.args.length c10)) 25)); have SW10 := hid (st10.keep ((Below.refl w10.heap.size w10).alloc (Nat.le_refl _) (.cells (ex4 x (.slice a10 x.args.length c10)) 25))); have SY10 := hid (SY9.out.keep b11); have SZ10 := hid (SZ9.out.keep b11); obtain ⟨p0, p1, p2, p3⟩ := row_cells4 (AV10.out.row w.heap.size (ex4 x (.slice ao x.args.length cap)) (by simp)); obtain ⟨q0, q1, q2, q3⟩ := row_cells4 (AV10.out.row w5.heap.size (ex4 x (.slice a5 x.args.length c5)) (by simp)); obtain ⟨r0, r1, r2, r3⟩ := row_cells4 (AV10.out.row w7.heap.size (ex4 x (.slice a7 x.args.length c7)) (by simp)); obtain ⟨s0, s1, s2, s3⟩ := row_cells4 (AV10.out.row w10.heap.size (ex4 x (.slice a10 x.args.length c10)) (by simp)); clear AV9 b10 b11 c19' st10 SY9 SZ9)
    | (go_at_call 16; refine (same x _ _ _ SY10.out (HS.out.keep AV10.out.below)).mono ?_; rintro e w11 ⟨rfl, b⟩; have AV11 := hid (AV10.out.step b); have SZ11 := hid (SZ10.out.keep b); have SW11 := hid (SW10.out.keep b); clear p0 p1 p2 p3 q0 q1 q2 q3 r0 r1 r2 r3 s0 s1 s2 s3; obtain ⟨p0, p1, p2, p3⟩ := row_cells4 (AV11.out.row w.heap.size (ex4 x (.slice ao x.args.length cap)) (by simp)); obtain ⟨q0, q1, q2, q3⟩ := row_cells4 (AV11.out.row w5.heap.size (ex4 x (.slice a5 x.args.length c5)) (by simp)); obtain ⟨r0, r1, r2, r3⟩ := row_cells4 (AV11.out.row w7.heap.size (ex4 x (.slice a7 x.args.length c7)) (by simp)); obtain ⟨s0, s1, s2, s3⟩ := row_cells4 (AV11.out.row w10.heap.size (ex4 x (.slice a10 x.args.length c10)) (by simp)); clear AV10 b SY10 SZ10 SW10)
    | (go_at_call 16; refine (same x _ _ _ SZ11.out (HS.out.keep AV11.out.below)).mono ?_; rintro e w12 ⟨rfl, b⟩; have AV12 := hid (AV11.out.step b); have SW12 := hid (SW11.out.keep b); clear p0 p1 p2 p3 q0 q1 q2 q3 r0 r1 r2 r3 s0 s1 s2 s3; obtain ⟨p0, p1, p2, p3⟩ := row_cells4 (AV12.out.row w.heap.size (ex4 x (.slice ao x.args.length cap)) (by simp)); obtain ⟨q0, q1, q2, q3⟩ := row_cells4 (AV12.out.row w5.heap.size (ex4 x (.slice a5 x.args.length c5)) (by simp)); obtain ⟨r0, r1, r2, r3⟩ := row_cells4 (AV12.out.row w7.heap.size (ex4 x (.slice a7 x.args.length c7)) (by simp)); obtain ⟨s0, s1, s2, s3⟩ := row_cells4 (AV12.out.row w10.heap.size (ex4 x (.slice a10 x.args.length c10)) (by simp)); clear AV11 b SZ11 SW11)
    | (go_at_call 16; refine (same x _ _ _ SW12.out (HS.out.keep AV12.out.below)).mono ?_; rintro e w13 ⟨rfl, b⟩; have AV13 := hid (AV12.out.step b); clear AV12 b SW12)
    | fail)
  all_goals (go_ret; first | exact ⟨rfl, BZ.out⟩ | exact ⟨rfl, AV13.out.below⟩)
set_option maxRecDepth 100000 in
set_option maxHeartbeats 4000000 in
theorem brk_1 (x : Ex) (s : Value) (n : Nat) (w : World) (hS : St w x s) (A : AEnv w) (hc : chk x = true) (h256 : n < 256) (hn : n % 7 = 1) : Calls Tryd.prog 5 #[exV x s, .int .u8 (n : Int)] w fun e w' => e = .returned (.bool true) ∧ Below w.heap.size w w' := by
  obtain ⟨T, F, ts, hz1, hz2, hz3, c9, c15, c17, d15, c18, c19⟩ := brk_all x hc hS
  have c11 := check x
  rw [hc] at c11
  obtain ⟨ao, cap, sl, rfl, _⟩ := hS.out
  obtain ⟨i0, hi, hi0, hi1, hi2⟩ := info_parts info32'
  have HT3 := hid hz3
  have AV0 := hid ((AV.push (L := []) ⟨Below.refl w.heap.size w, fun p hp => by cases hp⟩ (ex4 x (.slice ao x.args.length cap))))
  have HS := hid hS
  have HA := hid A
  have hm : (n : Int).tmod 7 = 1 := by rw [Int.tmod_eq_emod_of_nonneg (by omega)]; omega
  clear hS A hc hn hz3
  go_enter Tryd.func5, Tryd.ntmps5
  go_wp2_with (first
    | (go_at_call 14; refine (alive _ (HA.out.below AV0.out.below)).mono ?_; rintro e w1 ⟨rfl, b1⟩; have AV1 := hid (AV0.out.step b1); obtain ⟨p0, p1, p2, p3⟩ := row_cells4 (AV1.out.row w.heap.size (ex4 x (.slice ao x.args.length cap)) (by simp)); clear AV0 b1)
    | (go_at_call 7; refine (size_any _ x (Nat.le_refl _) _ _ (HS.out.keep AV1.out.below)).mono ?_; rintro e w2 ⟨⟨m, rfl⟩, b2⟩; have AV2 := hid (AV1.out.step b2); clear p0 p1 p2 p3; obtain ⟨p0, p1, p2, p3⟩ := row_cells4 (AV2.out.row w.heap.size (ex4 x (.slice ao x.args.length cap)) (by simp)); clear AV1 b2)
    | (go_at_call 14; refine (alive _ (HA.out.below AV2.out.below)).mono ?_; rintro e w90 ⟨rfl, b90⟩; have BZ := hid (bstep AV2.out.below b90); clear AV2 b90)
    | (go_at_call 11; refine (c11 _ _ (HS.out.keep AV2.out.below) (HA.out.below AV2.out.below).env.res (HA.out.below AV2.out.below).env.joins).mono ?_; rintro e w3 ⟨rfl, b3⟩; have AV3 := hid (AV2.out.step b3); clear p0 p1 p2 p3; obtain ⟨p0, p1, p2, p3⟩ := row_cells4 (AV3.out.row w.heap.size (ex4 x (.slice ao x.args.length cap)) (by simp)); clear AV2 b3 c11)
    | (go_at_call 9; refine (c9 _ _ (HS.out.keep AV3.out.below) (HA.out.below AV3.out.below)).mono ?_; rintro e w4 ⟨rfl, b4⟩; have AV4 := hid (AV3.out.step b4); clear p0 p1 p2 p3; obtain ⟨p0, p1, p2, p3⟩ := row_cells4 (AV4.out.row w.heap.size (ex4 x (.slice ao x.args.length cap)) (by simp)); clear AV3 b4 c9)
    | (go_at_call 15; refine (c15 _ (HA.out.below AV4.out.below)).mono ?_; rintro e w5 ⟨b5, a5, c5, rfl, st5⟩; have AV5 := hid ((AV4.out.step b5).push (ex4 x (.slice a5 x.args.length c5))); have SY5 := hid (st5.keep ((Below.refl w5.heap.size w5).alloc (Nat.le_refl _) (.cells (ex4 x (.slice a5 x.args.length c5)) 25))); clear p0 p1 p2 p3; obtain ⟨p0, p1, p2, p3⟩ := row_cells4 (AV5.out.row w.heap.size (ex4 x (.slice ao x.args.length cap)) (by simp)); clear AV4 b5 c15 st5)
    | (go_at_call 17; refine (c17 _ _ (HS.out.keep AV5.out.below) (HA.out.below AV5.out.below)).mono ?_; rintro e w6 ⟨rfl, b6⟩; have AV6 := hid (AV5.out.step b6); have SY6 := hid (SY5.out.keep b6); clear p0 p1 p2 p3 AV5 b6 c17 SY5)
    | (go_at_call 15; refine (d15 _ (HA.out.below AV6.out.below)).mono ?_; rintro e w7 ⟨b7, a7, c7, rfl, st7⟩; have AV7 := hid ((AV6.out.step b7).push (ex4 x (.slice a7 x.args.length c7))); have SZ7 := hid (st7.keep ((Below.refl w7.heap.size w7).alloc (Nat.le_refl _) (.cells (ex4 x (.slice a7 x.args.length c7)) 25))); have SY7 := hid (SY6.out.keep (bstep b7 ((Below.refl w7.heap.size w7).alloc (Nat.le_refl _) (.cells (ex4 x (.slice a7 x.args.length c7)) 25)))); clear AV6 b7 d15 st7 SY6)
    | (go_at_call 18; refine (c18 _ (HA.out.below AV7.out.below)).mono ?_; rintro e w8 ⟨b8, a8, c8, rfl, R8⟩; have b9 := bstep b8 (bstep ((Below.refl w8.heap.size w8).alloc (Nat.le_refl _) (.cells #[.string ⟨#[59]⟩, .string ⟨#[41]⟩, .string ⟨#[116, 104, 101, 110]⟩, .string ⟨#[101, 108, 115, 101]⟩, .string ⟨#[61]⟩, .string ⟨#[120]⟩, .string ⟨#[49]⟩] 9)) ((Below.refl _ (w8.alloc (.cells #[.string ⟨#[59]⟩, .string ⟨#[41]⟩, .string ⟨#[116, 104, 101, 110]⟩, .string ⟨#[101, 108, 115, 101]⟩, .string ⟨#[61]⟩, .string ⟨#[120]⟩, .string ⟨#[49]⟩] 9))).alloc (Nat.le_refl _) (.cells #[.int .u8 3, .string ⟨#[41]⟩, .int .i64 0] 45))); have R9 := hid (ownsRow_below R8 (bstep ((Below.refl w8.heap.size w8).alloc (Nat.le_refl _) (.cells #[.string ⟨#[59]⟩, .string ⟨#[41]⟩, .string ⟨#[116, 104, 101, 110]⟩, .string ⟨#[101, 108, 115, 101]⟩, .string ⟨#[61]⟩, .string ⟨#[120]⟩, .string ⟨#[49]⟩] 9)) ((Below.refl _ (w8.alloc (.cells #[.string ⟨#[59]⟩, .string ⟨#[41]⟩, .string ⟨#[116, 104, 101, 110]⟩, .string ⟨#[101, 108, 115, 101]⟩, .string ⟨#[61]⟩, .string ⟨#[120]⟩, .string ⟨#[49]⟩] 9))).alloc (Nat.le_refl _) (.cells #[.int .u8 3, .string ⟨#[41]⟩, .int .i64 0] 45)))); have B9 := hid b9; clear b8 b9 R8 c18)
    | (at_builtin; refine wpList_append_own _ rfl (.tmp 80) (.tmp 84) 38 rfl (w7.alloc (.cells (ex4 x (.slice a7 x.args.length c7)) 25)).heap.size 45 i0 (.agg #[.int .u8 0, .string ByteArray.empty, .int .i64 0]) 3 32 Tryd.underlying38 hi hi0 hi1 hi2 rfl (by decide) _ _ _ rfl R9.out ⟨w8.heap.size + 1, 0, none⟩ 1 1 [.int .u8 3, .string ⟨#[41]⟩, .int .i64 0] rfl rfl (three_new' _ _ _ _ _) (by simp [Value.oneCell']) (by have := HT3.out; unfold maxLen; omega) (by have := HT3.out; omega) B9.out.size ?_; intro v' w9 hown1 hgrow1 _; have bg := hid (B9.out.grown hgrow1 B9.out.size (fun k hk => (R9.out.lt k hk).1)); have AV9 := hid (AV7.out.step bg.out); have SY9 := hid (SY7.out.keep bg.out); have SZ9 := hid (SZ7.out.keep bg.out); have c19' := c19 ⟨3, [41], 0⟩ (by decide) (by decide) (by rw [jAt_eq]; decide) w9 v' _ hown1 (HA.out.below AV9.out.below); clear hown1 hgrow1 bg R9 B9 AV7 SY7 SZ7 c19)
    | (go_at_call 19; refine c19'.mono ?_; rintro e w10 ⟨b10, a10, c10, rfl, st10⟩; have AV10 := hid ((AV9.out.step b10).push (ex4 x (.slice a10 x.args.length c10))); have b11 := bstep b10 ((Below.refl w10.heap.size w10).alloc (Nat.le_refl _) (.cells (ex4 x (.slice a10 x.args.length c10)) 25)); have SW10 := hid (st10.keep ((Below.refl w10.heap.size w10).alloc (Nat.le_refl _) (.cells (ex4 x (.slice a10 x.args.length c10)) 25))); have SY10 := hid (SY9.out.keep b11); have SZ10 := hid (SZ9.out.keep b11); obtain ⟨p0, p1, p2, p3⟩ := row_cells4 (AV10.out.row w.heap.size (ex4 x (.slice ao x.args.length cap)) (by simp)); obtain ⟨q0, q1, q2, q3⟩ := row_cells4 (AV10.out.row w5.heap.size (ex4 x (.slice a5 x.args.length c5)) (by simp)); obtain ⟨r0, r1, r2, r3⟩ := row_cells4 (AV10.out.row w7.heap.size (ex4 x (.slice a7 x.args.length c7)) (by simp)); obtain ⟨s0, s1, s2, s3⟩ := row_cells4 (AV10.out.row w10.heap.size (ex4 x (.slice a10 x.args.length c10)) (by simp)); clear AV9 b10 b11 c19' st10 SY9 SZ9)
    | (go_at_call 16; refine (same x _ _ _ SY10.out (HS.out.keep AV10.out.below)).mono ?_; rintro e w11 ⟨rfl, b⟩; have AV11 := hid (AV10.out.step b); have SZ11 := hid (SZ10.out.keep b); have SW11 := hid (SW10.out.keep b); clear p0 p1 p2 p3 q0 q1 q2 q3 r0 r1 r2 r3 s0 s1 s2 s3; obtain ⟨p0, p1, p2, p3⟩ := row_cells4 (AV11.out.row w.heap.size (ex4 x (.slice ao x.args.length cap)) (by simp)); obtain ⟨q0, q1, q2, q3⟩ := row_cells4 (AV11.out.row w5.heap.size (ex4 x (.slice a5 x.args.length c5)) (by simp)); obtain ⟨r0, r1, r2, r3⟩ := row_cells4 (AV11.out.row w7.heap.size (ex4 x (.slice a7 x.args.length c7)) (by simp)); obtain ⟨s0, s1, s2, s3⟩ := row_cells4 (AV11.out.row w10.heap.size (ex4 x (.slice a10 x.args.length c10)) (by simp)); clear AV10 b SY10 SZ10 SW10)
    | (go_at_call 16; refine (same x _ _ _ SZ11.out (HS.out.keep AV11.out.below)).mono ?_; rintro e w12 ⟨rfl, b⟩; have AV12 := hid (AV11.out.step b); have SW12 := hid (SW11.out.keep b); clear p0 p1 p2 p3 q0 q1 q2 q3 r0 r1 r2 r3 s0 s1 s2 s3; obtain ⟨p0, p1, p2, p3⟩ := row_cells4 (AV12.out.row w.heap.size (ex4 x (.slice ao x.args.length cap)) (by simp)); obtain ⟨q0, q1, q2, q3⟩ := row_cells4 (AV12.out.row w5.heap.size (ex4 x (.slice a5 x.args.length c5)) (by simp)); obtain ⟨r0, r1, r2, r3⟩ := row_cells4 (AV12.out.row w7.heap.size (ex4 x (.slice a7 x.args.length c7)) (by simp)); obtain ⟨s0, s1, s2, s3⟩ := row_cells4 (AV12.out.row w10.heap.size (ex4 x (.slice a10 x.args.length c10)) (by simp)); clear AV11 b SZ11 SW11)
    | (go_at_call 16; refine (same x _ _ _ SW12.out (HS.out.keep AV12.out.below)).mono ?_; rintro e w13 ⟨rfl, b⟩; have AV13 := hid (AV12.out.step b); clear AV12 b SW12)
    | fail)
  all_goals (go_ret; first | exact ⟨rfl, BZ.out⟩ | exact ⟨rfl, AV13.out.below⟩)
set_option maxRecDepth 100000 in
set_option maxHeartbeats 4000000 in
theorem brk_2 (x : Ex) (s : Value) (n : Nat) (w : World) (hS : St w x s) (A : AEnv w) (hc : chk x = true) (h256 : n < 256) (hn : n % 7 = 2) : Calls Tryd.prog 5 #[exV x s, .int .u8 (n : Int)] w fun e w' => e = .returned (.bool true) ∧ Below w.heap.size w w' := by
  obtain ⟨T, F, ts, hz1, hz2, hz3, c9, c15, c17, d15, c18, c19⟩ := brk_all x hc hS
  have c11 := check x
  rw [hc] at c11
  obtain ⟨ao, cap, sl, rfl, _⟩ := hS.out
  obtain ⟨i0, hi, hi0, hi1, hi2⟩ := info_parts info32'
  have HT3 := hid hz3
  have AV0 := hid ((AV.push (L := []) ⟨Below.refl w.heap.size w, fun p hp => by cases hp⟩ (ex4 x (.slice ao x.args.length cap))))
  have HS := hid hS
  have HA := hid A
  have hm : (n : Int).tmod 7 = 2 := by rw [Int.tmod_eq_emod_of_nonneg (by omega)]; omega
  clear hS A hc hn hz3
  go_enter Tryd.func5, Tryd.ntmps5
  go_wp2_with (first
    | (go_at_call 14; refine (alive _ (HA.out.below AV0.out.below)).mono ?_; rintro e w1 ⟨rfl, b1⟩; have AV1 := hid (AV0.out.step b1); obtain ⟨p0, p1, p2, p3⟩ := row_cells4 (AV1.out.row w.heap.size (ex4 x (.slice ao x.args.length cap)) (by simp)); clear AV0 b1)
    | (go_at_call 7; refine (size_any _ x (Nat.le_refl _) _ _ (HS.out.keep AV1.out.below)).mono ?_; rintro e w2 ⟨⟨m, rfl⟩, b2⟩; have AV2 := hid (AV1.out.step b2); clear p0 p1 p2 p3; obtain ⟨p0, p1, p2, p3⟩ := row_cells4 (AV2.out.row w.heap.size (ex4 x (.slice ao x.args.length cap)) (by simp)); clear AV1 b2)
    | (go_at_call 14; refine (alive _ (HA.out.below AV2.out.below)).mono ?_; rintro e w90 ⟨rfl, b90⟩; have BZ := hid (bstep AV2.out.below b90); clear AV2 b90)
    | (go_at_call 11; refine (c11 _ _ (HS.out.keep AV2.out.below) (HA.out.below AV2.out.below).env.res (HA.out.below AV2.out.below).env.joins).mono ?_; rintro e w3 ⟨rfl, b3⟩; have AV3 := hid (AV2.out.step b3); clear p0 p1 p2 p3; obtain ⟨p0, p1, p2, p3⟩ := row_cells4 (AV3.out.row w.heap.size (ex4 x (.slice ao x.args.length cap)) (by simp)); clear AV2 b3 c11)
    | (go_at_call 9; refine (c9 _ _ (HS.out.keep AV3.out.below) (HA.out.below AV3.out.below)).mono ?_; rintro e w4 ⟨rfl, b4⟩; have AV4 := hid (AV3.out.step b4); clear p0 p1 p2 p3; obtain ⟨p0, p1, p2, p3⟩ := row_cells4 (AV4.out.row w.heap.size (ex4 x (.slice ao x.args.length cap)) (by simp)); clear AV3 b4 c9)
    | (go_at_call 15; refine (c15 _ (HA.out.below AV4.out.below)).mono ?_; rintro e w5 ⟨b5, a5, c5, rfl, st5⟩; have AV5 := hid ((AV4.out.step b5).push (ex4 x (.slice a5 x.args.length c5))); have SY5 := hid (st5.keep ((Below.refl w5.heap.size w5).alloc (Nat.le_refl _) (.cells (ex4 x (.slice a5 x.args.length c5)) 25))); clear p0 p1 p2 p3; obtain ⟨p0, p1, p2, p3⟩ := row_cells4 (AV5.out.row w.heap.size (ex4 x (.slice ao x.args.length cap)) (by simp)); clear AV4 b5 c15 st5)
    | (go_at_call 17; refine (c17 _ _ (HS.out.keep AV5.out.below) (HA.out.below AV5.out.below)).mono ?_; rintro e w6 ⟨rfl, b6⟩; have AV6 := hid (AV5.out.step b6); have SY6 := hid (SY5.out.keep b6); clear p0 p1 p2 p3 AV5 b6 c17 SY5)
    | (go_at_call 15; refine (d15 _ (HA.out.below AV6.out.below)).mono ?_; rintro e w7 ⟨b7, a7, c7, rfl, st7⟩; have AV7 := hid ((AV6.out.step b7).push (ex4 x (.slice a7 x.args.length c7))); have SZ7 := hid (st7.keep ((Below.refl w7.heap.size w7).alloc (Nat.le_refl _) (.cells (ex4 x (.slice a7 x.args.length c7)) 25))); have SY7 := hid (SY6.out.keep (bstep b7 ((Below.refl w7.heap.size w7).alloc (Nat.le_refl _) (.cells (ex4 x (.slice a7 x.args.length c7)) 25)))); clear AV6 b7 d15 st7 SY6)
    | (go_at_call 18; refine (c18 _ (HA.out.below AV7.out.below)).mono ?_; rintro e w8 ⟨b8, a8, c8, rfl, R8⟩; have b9 := bstep b8 (bstep ((Below.refl w8.heap.size w8).alloc (Nat.le_refl _) (.cells #[.string ⟨#[59]⟩, .string ⟨#[41]⟩, .string ⟨#[116, 104, 101, 110]⟩, .string ⟨#[101, 108, 115, 101]⟩, .string ⟨#[61]⟩, .string ⟨#[120]⟩, .string ⟨#[49]⟩] 9)) ((Below.refl _ (w8.alloc (.cells #[.string ⟨#[59]⟩, .string ⟨#[41]⟩, .string ⟨#[116, 104, 101, 110]⟩, .string ⟨#[101, 108, 115, 101]⟩, .string ⟨#[61]⟩, .string ⟨#[120]⟩, .string ⟨#[49]⟩] 9))).alloc (Nat.le_refl _) (.cells #[.int .u8 1, .string ⟨#[116, 104, 101, 110]⟩, .int .i64 0] 45))); have R9 := hid (ownsRow_below R8 (bstep ((Below.refl w8.heap.size w8).alloc (Nat.le_refl _) (.cells #[.string ⟨#[59]⟩, .string ⟨#[41]⟩, .string ⟨#[116, 104, 101, 110]⟩, .string ⟨#[101, 108, 115, 101]⟩, .string ⟨#[61]⟩, .string ⟨#[120]⟩, .string ⟨#[49]⟩] 9)) ((Below.refl _ (w8.alloc (.cells #[.string ⟨#[59]⟩, .string ⟨#[41]⟩, .string ⟨#[116, 104, 101, 110]⟩, .string ⟨#[101, 108, 115, 101]⟩, .string ⟨#[61]⟩, .string ⟨#[120]⟩, .string ⟨#[49]⟩] 9))).alloc (Nat.le_refl _) (.cells #[.int .u8 1, .string ⟨#[116, 104, 101, 110]⟩, .int .i64 0] 45)))); have B9 := hid b9; clear b8 b9 R8 c18)
    | (at_builtin; refine wpList_append_own _ rfl (.tmp 80) (.tmp 84) 38 rfl (w7.alloc (.cells (ex4 x (.slice a7 x.args.length c7)) 25)).heap.size 45 i0 (.agg #[.int .u8 0, .string ByteArray.empty, .int .i64 0]) 3 32 Tryd.underlying38 hi hi0 hi1 hi2 rfl (by decide) _ _ _ rfl R9.out ⟨w8.heap.size + 1, 0, none⟩ 1 1 [.int .u8 1, .string ⟨#[116, 104, 101, 110]⟩, .int .i64 0] rfl rfl (three_new' _ _ _ _ _) (by simp [Value.oneCell']) (by have := HT3.out; unfold maxLen; omega) (by have := HT3.out; omega) B9.out.size ?_; intro v' w9 hown1 hgrow1 _; have bg := hid (B9.out.grown hgrow1 B9.out.size (fun k hk => (R9.out.lt k hk).1)); have AV9 := hid (AV7.out.step bg.out); have SY9 := hid (SY7.out.keep bg.out); have SZ9 := hid (SZ7.out.keep bg.out); have c19' := c19 ⟨1, [116, 104, 101, 110], 0⟩ (by decide) (by decide) (by rw [jAt_eq]; decide) w9 v' _ hown1 (HA.out.below AV9.out.below); clear hown1 hgrow1 bg R9 B9 AV7 SY7 SZ7 c19)
    | (go_at_call 19; refine c19'.mono ?_; rintro e w10 ⟨b10, a10, c10, rfl, st10⟩; have AV10 := hid ((AV9.out.step b10).push (ex4 x (.slice a10 x.args.length c10))); have b11 := bstep b10 ((Below.refl w10.heap.size w10).alloc (Nat.le_refl _) (.cells (ex4 x (.slice a10 x.args.length c10)) 25)); have SW10 := hid (st10.keep ((Below.refl w10.heap.size w10).alloc (Nat.le_refl _) (.cells (ex4 x (.slice a10 x.args.length c10)) 25))); have SY10 := hid (SY9.out.keep b11); have SZ10 := hid (SZ9.out.keep b11); obtain ⟨p0, p1, p2, p3⟩ := row_cells4 (AV10.out.row w.heap.size (ex4 x (.slice ao x.args.length cap)) (by simp)); obtain ⟨q0, q1, q2, q3⟩ := row_cells4 (AV10.out.row w5.heap.size (ex4 x (.slice a5 x.args.length c5)) (by simp)); obtain ⟨r0, r1, r2, r3⟩ := row_cells4 (AV10.out.row w7.heap.size (ex4 x (.slice a7 x.args.length c7)) (by simp)); obtain ⟨s0, s1, s2, s3⟩ := row_cells4 (AV10.out.row w10.heap.size (ex4 x (.slice a10 x.args.length c10)) (by simp)); clear AV9 b10 b11 c19' st10 SY9 SZ9)
    | (go_at_call 16; refine (same x _ _ _ SY10.out (HS.out.keep AV10.out.below)).mono ?_; rintro e w11 ⟨rfl, b⟩; have AV11 := hid (AV10.out.step b); have SZ11 := hid (SZ10.out.keep b); have SW11 := hid (SW10.out.keep b); clear p0 p1 p2 p3 q0 q1 q2 q3 r0 r1 r2 r3 s0 s1 s2 s3; obtain ⟨p0, p1, p2, p3⟩ := row_cells4 (AV11.out.row w.heap.size (ex4 x (.slice ao x.args.length cap)) (by simp)); obtain ⟨q0, q1, q2, q3⟩ := row_cells4 (AV11.out.row w5.heap.size (ex4 x (.slice a5 x.args.length c5)) (by simp)); obtain ⟨r0, r1, r2, r3⟩ := row_cells4 (AV11.out.row w7.heap.size (ex4 x (.slice a7 x.args.length c7)) (by simp)); obtain ⟨s0, s1, s2, s3⟩ := row_cells4 (AV11.out.row w10.heap.size (ex4 x (.slice a10 x.args.length c10)) (by simp)); clear AV10 b SY10 SZ10 SW10)
    | (go_at_call 16; refine (same x _ _ _ SZ11.out (HS.out.keep AV11.out.below)).mono ?_; rintro e w12 ⟨rfl, b⟩; have AV12 := hid (AV11.out.step b); have SW12 := hid (SW11.out.keep b); clear p0 p1 p2 p3 q0 q1 q2 q3 r0 r1 r2 r3 s0 s1 s2 s3; obtain ⟨p0, p1, p2, p3⟩ := row_cells4 (AV12.out.row w.heap.size (ex4 x (.slice ao x.args.length cap)) (by simp)); obtain ⟨q0, q1, q2, q3⟩ := row_cells4 (AV12.out.row w5.heap.size (ex4 x (.slice a5 x.args.length c5)) (by simp)); obtain ⟨r0, r1, r2, r3⟩ := row_cells4 (AV12.out.row w7.heap.size (ex4 x (.slice a7 x.args.length c7)) (by simp)); obtain ⟨s0, s1, s2, s3⟩ := row_cells4 (AV12.out.row w10.heap.size (ex4 x (.slice a10 x.args.length c10)) (by simp)); clear AV11 b SZ11 SW11)
    | (go_at_call 16; refine (same x _ _ _ SW12.out (HS.out.keep AV12.out.below)).mono ?_; rintro e w13 ⟨rfl, b⟩; have AV13 := hid (AV12.out.step b); clear AV12 b SW12)
    | fail)
  all_goals (go_ret; first | exact ⟨rfl, BZ.out⟩ | exact ⟨rfl, AV13.out.below⟩)
set_option maxRecDepth 100000 in
set_option maxHeartbeats 4000000 in
theorem brk_3 (x : Ex) (s : Value) (n : Nat) (w : World) (hS : St w x s) (A : AEnv w) (hc : chk x = true) (h256 : n < 256) (hn : n % 7 = 3) : Calls Tryd.prog 5 #[exV x s, .int .u8 (n : Int)] w fun e w' => e = .returned (.bool true) ∧ Below w.heap.size w w' := by
  obtain ⟨T, F, ts, hz1, hz2, hz3, c9, c15, c17, d15, c18, c19⟩ := brk_all x hc hS
  have c11 := check x
  rw [hc] at c11
  obtain ⟨ao, cap, sl, rfl, _⟩ := hS.out
  obtain ⟨i0, hi, hi0, hi1, hi2⟩ := info_parts info32'
  have HT3 := hid hz3
  have AV0 := hid ((AV.push (L := []) ⟨Below.refl w.heap.size w, fun p hp => by cases hp⟩ (ex4 x (.slice ao x.args.length cap))))
  have HS := hid hS
  have HA := hid A
  have hm : (n : Int).tmod 7 = 3 := by rw [Int.tmod_eq_emod_of_nonneg (by omega)]; omega
  clear hS A hc hn hz3
  go_enter Tryd.func5, Tryd.ntmps5
  go_wp2_with (first
    | (go_at_call 14; refine (alive _ (HA.out.below AV0.out.below)).mono ?_; rintro e w1 ⟨rfl, b1⟩; have AV1 := hid (AV0.out.step b1); obtain ⟨p0, p1, p2, p3⟩ := row_cells4 (AV1.out.row w.heap.size (ex4 x (.slice ao x.args.length cap)) (by simp)); clear AV0 b1)
    | (go_at_call 7; refine (size_any _ x (Nat.le_refl _) _ _ (HS.out.keep AV1.out.below)).mono ?_; rintro e w2 ⟨⟨m, rfl⟩, b2⟩; have AV2 := hid (AV1.out.step b2); clear p0 p1 p2 p3; obtain ⟨p0, p1, p2, p3⟩ := row_cells4 (AV2.out.row w.heap.size (ex4 x (.slice ao x.args.length cap)) (by simp)); clear AV1 b2)
    | (go_at_call 14; refine (alive _ (HA.out.below AV2.out.below)).mono ?_; rintro e w90 ⟨rfl, b90⟩; have BZ := hid (bstep AV2.out.below b90); clear AV2 b90)
    | (go_at_call 11; refine (c11 _ _ (HS.out.keep AV2.out.below) (HA.out.below AV2.out.below).env.res (HA.out.below AV2.out.below).env.joins).mono ?_; rintro e w3 ⟨rfl, b3⟩; have AV3 := hid (AV2.out.step b3); clear p0 p1 p2 p3; obtain ⟨p0, p1, p2, p3⟩ := row_cells4 (AV3.out.row w.heap.size (ex4 x (.slice ao x.args.length cap)) (by simp)); clear AV2 b3 c11)
    | (go_at_call 9; refine (c9 _ _ (HS.out.keep AV3.out.below) (HA.out.below AV3.out.below)).mono ?_; rintro e w4 ⟨rfl, b4⟩; have AV4 := hid (AV3.out.step b4); clear p0 p1 p2 p3; obtain ⟨p0, p1, p2, p3⟩ := row_cells4 (AV4.out.row w.heap.size (ex4 x (.slice ao x.args.length cap)) (by simp)); clear AV3 b4 c9)
    | (go_at_call 15; refine (c15 _ (HA.out.below AV4.out.below)).mono ?_; rintro e w5 ⟨b5, a5, c5, rfl, st5⟩; have AV5 := hid ((AV4.out.step b5).push (ex4 x (.slice a5 x.args.length c5))); have SY5 := hid (st5.keep ((Below.refl w5.heap.size w5).alloc (Nat.le_refl _) (.cells (ex4 x (.slice a5 x.args.length c5)) 25))); clear p0 p1 p2 p3; obtain ⟨p0, p1, p2, p3⟩ := row_cells4 (AV5.out.row w.heap.size (ex4 x (.slice ao x.args.length cap)) (by simp)); clear AV4 b5 c15 st5)
    | (go_at_call 17; refine (c17 _ _ (HS.out.keep AV5.out.below) (HA.out.below AV5.out.below)).mono ?_; rintro e w6 ⟨rfl, b6⟩; have AV6 := hid (AV5.out.step b6); have SY6 := hid (SY5.out.keep b6); clear p0 p1 p2 p3 AV5 b6 c17 SY5)
    | (go_at_call 15; refine (d15 _ (HA.out.below AV6.out.below)).mono ?_; rintro e w7 ⟨b7, a7, c7, rfl, st7⟩; have AV7 := hid ((AV6.out.step b7).push (ex4 x (.slice a7 x.args.length c7))); have SZ7 := hid (st7.keep ((Below.refl w7.heap.size w7).alloc (Nat.le_refl _) (.cells (ex4 x (.slice a7 x.args.length c7)) 25))); have SY7 := hid (SY6.out.keep (bstep b7 ((Below.refl w7.heap.size w7).alloc (Nat.le_refl _) (.cells (ex4 x (.slice a7 x.args.length c7)) 25)))); clear AV6 b7 d15 st7 SY6)
    | (go_at_call 18; refine (c18 _ (HA.out.below AV7.out.below)).mono ?_; rintro e w8 ⟨b8, a8, c8, rfl, R8⟩; have b9 := bstep b8 (bstep ((Below.refl w8.heap.size w8).alloc (Nat.le_refl _) (.cells #[.string ⟨#[59]⟩, .string ⟨#[41]⟩, .string ⟨#[116, 104, 101, 110]⟩, .string ⟨#[101, 108, 115, 101]⟩, .string ⟨#[61]⟩, .string ⟨#[120]⟩, .string ⟨#[49]⟩] 9)) ((Below.refl _ (w8.alloc (.cells #[.string ⟨#[59]⟩, .string ⟨#[41]⟩, .string ⟨#[116, 104, 101, 110]⟩, .string ⟨#[101, 108, 115, 101]⟩, .string ⟨#[61]⟩, .string ⟨#[120]⟩, .string ⟨#[49]⟩] 9))).alloc (Nat.le_refl _) (.cells #[.int .u8 1, .string ⟨#[101, 108, 115, 101]⟩, .int .i64 0] 45))); have R9 := hid (ownsRow_below R8 (bstep ((Below.refl w8.heap.size w8).alloc (Nat.le_refl _) (.cells #[.string ⟨#[59]⟩, .string ⟨#[41]⟩, .string ⟨#[116, 104, 101, 110]⟩, .string ⟨#[101, 108, 115, 101]⟩, .string ⟨#[61]⟩, .string ⟨#[120]⟩, .string ⟨#[49]⟩] 9)) ((Below.refl _ (w8.alloc (.cells #[.string ⟨#[59]⟩, .string ⟨#[41]⟩, .string ⟨#[116, 104, 101, 110]⟩, .string ⟨#[101, 108, 115, 101]⟩, .string ⟨#[61]⟩, .string ⟨#[120]⟩, .string ⟨#[49]⟩] 9))).alloc (Nat.le_refl _) (.cells #[.int .u8 1, .string ⟨#[101, 108, 115, 101]⟩, .int .i64 0] 45)))); have B9 := hid b9; clear b8 b9 R8 c18)
    | (at_builtin; refine wpList_append_own _ rfl (.tmp 80) (.tmp 84) 38 rfl (w7.alloc (.cells (ex4 x (.slice a7 x.args.length c7)) 25)).heap.size 45 i0 (.agg #[.int .u8 0, .string ByteArray.empty, .int .i64 0]) 3 32 Tryd.underlying38 hi hi0 hi1 hi2 rfl (by decide) _ _ _ rfl R9.out ⟨w8.heap.size + 1, 0, none⟩ 1 1 [.int .u8 1, .string ⟨#[101, 108, 115, 101]⟩, .int .i64 0] rfl rfl (three_new' _ _ _ _ _) (by simp [Value.oneCell']) (by have := HT3.out; unfold maxLen; omega) (by have := HT3.out; omega) B9.out.size ?_; intro v' w9 hown1 hgrow1 _; have bg := hid (B9.out.grown hgrow1 B9.out.size (fun k hk => (R9.out.lt k hk).1)); have AV9 := hid (AV7.out.step bg.out); have SY9 := hid (SY7.out.keep bg.out); have SZ9 := hid (SZ7.out.keep bg.out); have c19' := c19 ⟨1, [101, 108, 115, 101], 0⟩ (by decide) (by decide) (by rw [jAt_eq]; decide) w9 v' _ hown1 (HA.out.below AV9.out.below); clear hown1 hgrow1 bg R9 B9 AV7 SY7 SZ7 c19)
    | (go_at_call 19; refine c19'.mono ?_; rintro e w10 ⟨b10, a10, c10, rfl, st10⟩; have AV10 := hid ((AV9.out.step b10).push (ex4 x (.slice a10 x.args.length c10))); have b11 := bstep b10 ((Below.refl w10.heap.size w10).alloc (Nat.le_refl _) (.cells (ex4 x (.slice a10 x.args.length c10)) 25)); have SW10 := hid (st10.keep ((Below.refl w10.heap.size w10).alloc (Nat.le_refl _) (.cells (ex4 x (.slice a10 x.args.length c10)) 25))); have SY10 := hid (SY9.out.keep b11); have SZ10 := hid (SZ9.out.keep b11); obtain ⟨p0, p1, p2, p3⟩ := row_cells4 (AV10.out.row w.heap.size (ex4 x (.slice ao x.args.length cap)) (by simp)); obtain ⟨q0, q1, q2, q3⟩ := row_cells4 (AV10.out.row w5.heap.size (ex4 x (.slice a5 x.args.length c5)) (by simp)); obtain ⟨r0, r1, r2, r3⟩ := row_cells4 (AV10.out.row w7.heap.size (ex4 x (.slice a7 x.args.length c7)) (by simp)); obtain ⟨s0, s1, s2, s3⟩ := row_cells4 (AV10.out.row w10.heap.size (ex4 x (.slice a10 x.args.length c10)) (by simp)); clear AV9 b10 b11 c19' st10 SY9 SZ9)
    | (go_at_call 16; refine (same x _ _ _ SY10.out (HS.out.keep AV10.out.below)).mono ?_; rintro e w11 ⟨rfl, b⟩; have AV11 := hid (AV10.out.step b); have SZ11 := hid (SZ10.out.keep b); have SW11 := hid (SW10.out.keep b); clear p0 p1 p2 p3 q0 q1 q2 q3 r0 r1 r2 r3 s0 s1 s2 s3; obtain ⟨p0, p1, p2, p3⟩ := row_cells4 (AV11.out.row w.heap.size (ex4 x (.slice ao x.args.length cap)) (by simp)); obtain ⟨q0, q1, q2, q3⟩ := row_cells4 (AV11.out.row w5.heap.size (ex4 x (.slice a5 x.args.length c5)) (by simp)); obtain ⟨r0, r1, r2, r3⟩ := row_cells4 (AV11.out.row w7.heap.size (ex4 x (.slice a7 x.args.length c7)) (by simp)); obtain ⟨s0, s1, s2, s3⟩ := row_cells4 (AV11.out.row w10.heap.size (ex4 x (.slice a10 x.args.length c10)) (by simp)); clear AV10 b SY10 SZ10 SW10)
    | (go_at_call 16; refine (same x _ _ _ SZ11.out (HS.out.keep AV11.out.below)).mono ?_; rintro e w12 ⟨rfl, b⟩; have AV12 := hid (AV11.out.step b); have SW12 := hid (SW11.out.keep b); clear p0 p1 p2 p3 q0 q1 q2 q3 r0 r1 r2 r3 s0 s1 s2 s3; obtain ⟨p0, p1, p2, p3⟩ := row_cells4 (AV12.out.row w.heap.size (ex4 x (.slice ao x.args.length cap)) (by simp)); obtain ⟨q0, q1, q2, q3⟩ := row_cells4 (AV12.out.row w5.heap.size (ex4 x (.slice a5 x.args.length c5)) (by simp)); obtain ⟨r0, r1, r2, r3⟩ := row_cells4 (AV12.out.row w7.heap.size (ex4 x (.slice a7 x.args.length c7)) (by simp)); obtain ⟨s0, s1, s2, s3⟩ := row_cells4 (AV12.out.row w10.heap.size (ex4 x (.slice a10 x.args.length c10)) (by simp)); clear AV11 b SZ11 SW11)
    | (go_at_call 16; refine (same x _ _ _ SW12.out (HS.out.keep AV12.out.below)).mono ?_; rintro e w13 ⟨rfl, b⟩; have AV13 := hid (AV12.out.step b); clear AV12 b SW12)
    | fail)
  all_goals (go_ret; first | exact ⟨rfl, BZ.out⟩ | exact ⟨rfl, AV13.out.below⟩)
set_option maxRecDepth 100000 in
set_option maxHeartbeats 4000000 in
theorem brk_4 (x : Ex) (s : Value) (n : Nat) (w : World) (hS : St w x s) (A : AEnv w) (hc : chk x = true) (h256 : n < 256) (hn : n % 7 = 4) : Calls Tryd.prog 5 #[exV x s, .int .u8 (n : Int)] w fun e w' => e = .returned (.bool true) ∧ Below w.heap.size w w' := by
  obtain ⟨T, F, ts, hz1, hz2, hz3, c9, c15, c17, d15, c18, c19⟩ := brk_all x hc hS
  have c11 := check x
  rw [hc] at c11
  obtain ⟨ao, cap, sl, rfl, _⟩ := hS.out
  obtain ⟨i0, hi, hi0, hi1, hi2⟩ := info_parts info32'
  have HT3 := hid hz3
  have AV0 := hid ((AV.push (L := []) ⟨Below.refl w.heap.size w, fun p hp => by cases hp⟩ (ex4 x (.slice ao x.args.length cap))))
  have HS := hid hS
  have HA := hid A
  have hm : (n : Int).tmod 7 = 4 := by rw [Int.tmod_eq_emod_of_nonneg (by omega)]; omega
  clear hS A hc hn hz3
  go_enter Tryd.func5, Tryd.ntmps5
  go_wp2_with (first
    | (go_at_call 14; refine (alive _ (HA.out.below AV0.out.below)).mono ?_; rintro e w1 ⟨rfl, b1⟩; have AV1 := hid (AV0.out.step b1); obtain ⟨p0, p1, p2, p3⟩ := row_cells4 (AV1.out.row w.heap.size (ex4 x (.slice ao x.args.length cap)) (by simp)); clear AV0 b1)
    | (go_at_call 7; refine (size_any _ x (Nat.le_refl _) _ _ (HS.out.keep AV1.out.below)).mono ?_; rintro e w2 ⟨⟨m, rfl⟩, b2⟩; have AV2 := hid (AV1.out.step b2); clear p0 p1 p2 p3; obtain ⟨p0, p1, p2, p3⟩ := row_cells4 (AV2.out.row w.heap.size (ex4 x (.slice ao x.args.length cap)) (by simp)); clear AV1 b2)
    | (go_at_call 14; refine (alive _ (HA.out.below AV2.out.below)).mono ?_; rintro e w90 ⟨rfl, b90⟩; have BZ := hid (bstep AV2.out.below b90); clear AV2 b90)
    | (go_at_call 11; refine (c11 _ _ (HS.out.keep AV2.out.below) (HA.out.below AV2.out.below).env.res (HA.out.below AV2.out.below).env.joins).mono ?_; rintro e w3 ⟨rfl, b3⟩; have AV3 := hid (AV2.out.step b3); clear p0 p1 p2 p3; obtain ⟨p0, p1, p2, p3⟩ := row_cells4 (AV3.out.row w.heap.size (ex4 x (.slice ao x.args.length cap)) (by simp)); clear AV2 b3 c11)
    | (go_at_call 9; refine (c9 _ _ (HS.out.keep AV3.out.below) (HA.out.below AV3.out.below)).mono ?_; rintro e w4 ⟨rfl, b4⟩; have AV4 := hid (AV3.out.step b4); clear p0 p1 p2 p3; obtain ⟨p0, p1, p2, p3⟩ := row_cells4 (AV4.out.row w.heap.size (ex4 x (.slice ao x.args.length cap)) (by simp)); clear AV3 b4 c9)
    | (go_at_call 15; refine (c15 _ (HA.out.below AV4.out.below)).mono ?_; rintro e w5 ⟨b5, a5, c5, rfl, st5⟩; have AV5 := hid ((AV4.out.step b5).push (ex4 x (.slice a5 x.args.length c5))); have SY5 := hid (st5.keep ((Below.refl w5.heap.size w5).alloc (Nat.le_refl _) (.cells (ex4 x (.slice a5 x.args.length c5)) 25))); clear p0 p1 p2 p3; obtain ⟨p0, p1, p2, p3⟩ := row_cells4 (AV5.out.row w.heap.size (ex4 x (.slice ao x.args.length cap)) (by simp)); clear AV4 b5 c15 st5)
    | (go_at_call 17; refine (c17 _ _ (HS.out.keep AV5.out.below) (HA.out.below AV5.out.below)).mono ?_; rintro e w6 ⟨rfl, b6⟩; have AV6 := hid (AV5.out.step b6); have SY6 := hid (SY5.out.keep b6); clear p0 p1 p2 p3 AV5 b6 c17 SY5)
    | (go_at_call 15; refine (d15 _ (HA.out.below AV6.out.below)).mono ?_; rintro e w7 ⟨b7, a7, c7, rfl, st7⟩; have AV7 := hid ((AV6.out.step b7).push (ex4 x (.slice a7 x.args.length c7))); have SZ7 := hid (st7.keep ((Below.refl w7.heap.size w7).alloc (Nat.le_refl _) (.cells (ex4 x (.slice a7 x.args.length c7)) 25))); have SY7 := hid (SY6.out.keep (bstep b7 ((Below.refl w7.heap.size w7).alloc (Nat.le_refl _) (.cells (ex4 x (.slice a7 x.args.length c7)) 25)))); clear AV6 b7 d15 st7 SY6)
    | (go_at_call 18; refine (c18 _ (HA.out.below AV7.out.below)).mono ?_; rintro e w8 ⟨b8, a8, c8, rfl, R8⟩; have b9 := bstep b8 (bstep ((Below.refl w8.heap.size w8).alloc (Nat.le_refl _) (.cells #[.string ⟨#[59]⟩, .string ⟨#[41]⟩, .string ⟨#[116, 104, 101, 110]⟩, .string ⟨#[101, 108, 115, 101]⟩, .string ⟨#[61]⟩, .string ⟨#[120]⟩, .string ⟨#[49]⟩] 9)) ((Below.refl _ (w8.alloc (.cells #[.string ⟨#[59]⟩, .string ⟨#[41]⟩, .string ⟨#[116, 104, 101, 110]⟩, .string ⟨#[101, 108, 115, 101]⟩, .string ⟨#[61]⟩, .string ⟨#[120]⟩, .string ⟨#[49]⟩] 9))).alloc (Nat.le_refl _) (.cells #[.int .u8 3, .string ⟨#[61]⟩, .int .i64 0] 45))); have R9 := hid (ownsRow_below R8 (bstep ((Below.refl w8.heap.size w8).alloc (Nat.le_refl _) (.cells #[.string ⟨#[59]⟩, .string ⟨#[41]⟩, .string ⟨#[116, 104, 101, 110]⟩, .string ⟨#[101, 108, 115, 101]⟩, .string ⟨#[61]⟩, .string ⟨#[120]⟩, .string ⟨#[49]⟩] 9)) ((Below.refl _ (w8.alloc (.cells #[.string ⟨#[59]⟩, .string ⟨#[41]⟩, .string ⟨#[116, 104, 101, 110]⟩, .string ⟨#[101, 108, 115, 101]⟩, .string ⟨#[61]⟩, .string ⟨#[120]⟩, .string ⟨#[49]⟩] 9))).alloc (Nat.le_refl _) (.cells #[.int .u8 3, .string ⟨#[61]⟩, .int .i64 0] 45)))); have B9 := hid b9; clear b8 b9 R8 c18)
    | (at_builtin; refine wpList_append_own _ rfl (.tmp 80) (.tmp 84) 38 rfl (w7.alloc (.cells (ex4 x (.slice a7 x.args.length c7)) 25)).heap.size 45 i0 (.agg #[.int .u8 0, .string ByteArray.empty, .int .i64 0]) 3 32 Tryd.underlying38 hi hi0 hi1 hi2 rfl (by decide) _ _ _ rfl R9.out ⟨w8.heap.size + 1, 0, none⟩ 1 1 [.int .u8 3, .string ⟨#[61]⟩, .int .i64 0] rfl rfl (three_new' _ _ _ _ _) (by simp [Value.oneCell']) (by have := HT3.out; unfold maxLen; omega) (by have := HT3.out; omega) B9.out.size ?_; intro v' w9 hown1 hgrow1 _; have bg := hid (B9.out.grown hgrow1 B9.out.size (fun k hk => (R9.out.lt k hk).1)); have AV9 := hid (AV7.out.step bg.out); have SY9 := hid (SY7.out.keep bg.out); have SZ9 := hid (SZ7.out.keep bg.out); have c19' := c19 ⟨3, [61], 0⟩ (by decide) (by decide) (by rw [jAt_eq]; decide) w9 v' _ hown1 (HA.out.below AV9.out.below); clear hown1 hgrow1 bg R9 B9 AV7 SY7 SZ7 c19)
    | (go_at_call 19; refine c19'.mono ?_; rintro e w10 ⟨b10, a10, c10, rfl, st10⟩; have AV10 := hid ((AV9.out.step b10).push (ex4 x (.slice a10 x.args.length c10))); have b11 := bstep b10 ((Below.refl w10.heap.size w10).alloc (Nat.le_refl _) (.cells (ex4 x (.slice a10 x.args.length c10)) 25)); have SW10 := hid (st10.keep ((Below.refl w10.heap.size w10).alloc (Nat.le_refl _) (.cells (ex4 x (.slice a10 x.args.length c10)) 25))); have SY10 := hid (SY9.out.keep b11); have SZ10 := hid (SZ9.out.keep b11); obtain ⟨p0, p1, p2, p3⟩ := row_cells4 (AV10.out.row w.heap.size (ex4 x (.slice ao x.args.length cap)) (by simp)); obtain ⟨q0, q1, q2, q3⟩ := row_cells4 (AV10.out.row w5.heap.size (ex4 x (.slice a5 x.args.length c5)) (by simp)); obtain ⟨r0, r1, r2, r3⟩ := row_cells4 (AV10.out.row w7.heap.size (ex4 x (.slice a7 x.args.length c7)) (by simp)); obtain ⟨s0, s1, s2, s3⟩ := row_cells4 (AV10.out.row w10.heap.size (ex4 x (.slice a10 x.args.length c10)) (by simp)); clear AV9 b10 b11 c19' st10 SY9 SZ9)
    | (go_at_call 16; refine (same x _ _ _ SY10.out (HS.out.keep AV10.out.below)).mono ?_; rintro e w11 ⟨rfl, b⟩; have AV11 := hid (AV10.out.step b); have SZ11 := hid (SZ10.out.keep b); have SW11 := hid (SW10.out.keep b); clear p0 p1 p2 p3 q0 q1 q2 q3 r0 r1 r2 r3 s0 s1 s2 s3; obtain ⟨p0, p1, p2, p3⟩ := row_cells4 (AV11.out.row w.heap.size (ex4 x (.slice ao x.args.length cap)) (by simp)); obtain ⟨q0, q1, q2, q3⟩ := row_cells4 (AV11.out.row w5.heap.size (ex4 x (.slice a5 x.args.length c5)) (by simp)); obtain ⟨r0, r1, r2, r3⟩ := row_cells4 (AV11.out.row w7.heap.size (ex4 x (.slice a7 x.args.length c7)) (by simp)); obtain ⟨s0, s1, s2, s3⟩ := row_cells4 (AV11.out.row w10.heap.size (ex4 x (.slice a10 x.args.length c10)) (by simp)); clear AV10 b SY10 SZ10 SW10)
    | (go_at_call 16; refine (same x _ _ _ SZ11.out (HS.out.keep AV11.out.below)).mono ?_; rintro e w12 ⟨rfl, b⟩; have AV12 := hid (AV11.out.step b); have SW12 := hid (SW11.out.keep b); clear p0 p1 p2 p3 q0 q1 q2 q3 r0 r1 r2 r3 s0 s1 s2 s3; obtain ⟨p0, p1, p2, p3⟩ := row_cells4 (AV12.out.row w.heap.size (ex4 x (.slice ao x.args.length cap)) (by simp)); obtain ⟨q0, q1, q2, q3⟩ := row_cells4 (AV12.out.row w5.heap.size (ex4 x (.slice a5 x.args.length c5)) (by simp)); obtain ⟨r0, r1, r2, r3⟩ := row_cells4 (AV12.out.row w7.heap.size (ex4 x (.slice a7 x.args.length c7)) (by simp)); obtain ⟨s0, s1, s2, s3⟩ := row_cells4 (AV12.out.row w10.heap.size (ex4 x (.slice a10 x.args.length c10)) (by simp)); clear AV11 b SZ11 SW11)
    | (go_at_call 16; refine (same x _ _ _ SW12.out (HS.out.keep AV12.out.below)).mono ?_; rintro e w13 ⟨rfl, b⟩; have AV13 := hid (AV12.out.step b); clear AV12 b SW12)
    | fail)
  all_goals (go_ret; first | exact ⟨rfl, BZ.out⟩ | exact ⟨rfl, AV13.out.below⟩)
set_option maxRecDepth 100000 in
set_option maxHeartbeats 4000000 in
theorem brk_5 (x : Ex) (s : Value) (n : Nat) (w : World) (hS : St w x s) (A : AEnv w) (hc : chk x = true) (h256 : n < 256) (hn : n % 7 = 5) : Calls Tryd.prog 5 #[exV x s, .int .u8 (n : Int)] w fun e w' => e = .returned (.bool true) ∧ Below w.heap.size w w' := by
  obtain ⟨T, F, ts, hz1, hz2, hz3, c9, c15, c17, d15, c18, c19⟩ := brk_all x hc hS
  have c11 := check x
  rw [hc] at c11
  obtain ⟨ao, cap, sl, rfl, _⟩ := hS.out
  obtain ⟨i0, hi, hi0, hi1, hi2⟩ := info_parts info32'
  have HT3 := hid hz3
  have AV0 := hid ((AV.push (L := []) ⟨Below.refl w.heap.size w, fun p hp => by cases hp⟩ (ex4 x (.slice ao x.args.length cap))))
  have HS := hid hS
  have HA := hid A
  have hm : (n : Int).tmod 7 = 5 := by rw [Int.tmod_eq_emod_of_nonneg (by omega)]; omega
  clear hS A hc hn hz3
  go_enter Tryd.func5, Tryd.ntmps5
  go_wp2_with (first
    | (go_at_call 14; refine (alive _ (HA.out.below AV0.out.below)).mono ?_; rintro e w1 ⟨rfl, b1⟩; have AV1 := hid (AV0.out.step b1); obtain ⟨p0, p1, p2, p3⟩ := row_cells4 (AV1.out.row w.heap.size (ex4 x (.slice ao x.args.length cap)) (by simp)); clear AV0 b1)
    | (go_at_call 7; refine (size_any _ x (Nat.le_refl _) _ _ (HS.out.keep AV1.out.below)).mono ?_; rintro e w2 ⟨⟨m, rfl⟩, b2⟩; have AV2 := hid (AV1.out.step b2); clear p0 p1 p2 p3; obtain ⟨p0, p1, p2, p3⟩ := row_cells4 (AV2.out.row w.heap.size (ex4 x (.slice ao x.args.length cap)) (by simp)); clear AV1 b2)
    | (go_at_call 14; refine (alive _ (HA.out.below AV2.out.below)).mono ?_; rintro e w90 ⟨rfl, b90⟩; have BZ := hid (bstep AV2.out.below b90); clear AV2 b90)
    | (go_at_call 11; refine (c11 _ _ (HS.out.keep AV2.out.below) (HA.out.below AV2.out.below).env.res (HA.out.below AV2.out.below).env.joins).mono ?_; rintro e w3 ⟨rfl, b3⟩; have AV3 := hid (AV2.out.step b3); clear p0 p1 p2 p3; obtain ⟨p0, p1, p2, p3⟩ := row_cells4 (AV3.out.row w.heap.size (ex4 x (.slice ao x.args.length cap)) (by simp)); clear AV2 b3 c11)
    | (go_at_call 9; refine (c9 _ _ (HS.out.keep AV3.out.below) (HA.out.below AV3.out.below)).mono ?_; rintro e w4 ⟨rfl, b4⟩; have AV4 := hid (AV3.out.step b4); clear p0 p1 p2 p3; obtain ⟨p0, p1, p2, p3⟩ := row_cells4 (AV4.out.row w.heap.size (ex4 x (.slice ao x.args.length cap)) (by simp)); clear AV3 b4 c9)
    | (go_at_call 15; refine (c15 _ (HA.out.below AV4.out.below)).mono ?_; rintro e w5 ⟨b5, a5, c5, rfl, st5⟩; have AV5 := hid ((AV4.out.step b5).push (ex4 x (.slice a5 x.args.length c5))); have SY5 := hid (st5.keep ((Below.refl w5.heap.size w5).alloc (Nat.le_refl _) (.cells (ex4 x (.slice a5 x.args.length c5)) 25))); clear p0 p1 p2 p3; obtain ⟨p0, p1, p2, p3⟩ := row_cells4 (AV5.out.row w.heap.size (ex4 x (.slice ao x.args.length cap)) (by simp)); clear AV4 b5 c15 st5)
    | (go_at_call 17; refine (c17 _ _ (HS.out.keep AV5.out.below) (HA.out.below AV5.out.below)).mono ?_; rintro e w6 ⟨rfl, b6⟩; have AV6 := hid (AV5.out.step b6); have SY6 := hid (SY5.out.keep b6); clear p0 p1 p2 p3 AV5 b6 c17 SY5)
    | (go_at_call 15; refine (d15 _ (HA.out.below AV6.out.below)).mono ?_; rintro e w7 ⟨b7, a7, c7, rfl, st7⟩; have AV7 := hid ((AV6.out.step b7).push (ex4 x (.slice a7 x.args.length c7))); have SZ7 := hid (st7.keep ((Below.refl w7.heap.size w7).alloc (Nat.le_refl _) (.cells (ex4 x (.slice a7 x.args.length c7)) 25))); have SY7 := hid (SY6.out.keep (bstep b7 ((Below.refl w7.heap.size w7).alloc (Nat.le_refl _) (.cells (ex4 x (.slice a7 x.args.length c7)) 25)))); clear AV6 b7 d15 st7 SY6)
    | (go_at_call 18; refine (c18 _ (HA.out.below AV7.out.below)).mono ?_; rintro e w8 ⟨b8, a8, c8, rfl, R8⟩; have b9 := bstep b8 (bstep ((Below.refl w8.heap.size w8).alloc (Nat.le_refl _) (.cells #[.string ⟨#[59]⟩, .string ⟨#[41]⟩, .string ⟨#[116, 104, 101, 110]⟩, .string ⟨#[101, 108, 115, 101]⟩, .string ⟨#[61]⟩, .string ⟨#[120]⟩, .string ⟨#[49]⟩] 9)) ((Below.refl _ (w8.alloc (.cells #[.string ⟨#[59]⟩, .string ⟨#[41]⟩, .string ⟨#[116, 104, 101, 110]⟩, .string ⟨#[101, 108, 115, 101]⟩, .string ⟨#[61]⟩, .string ⟨#[120]⟩, .string ⟨#[49]⟩] 9))).alloc (Nat.le_refl _) (.cells #[.int .u8 1, .string ⟨#[120]⟩, .int .i64 0] 45))); have R9 := hid (ownsRow_below R8 (bstep ((Below.refl w8.heap.size w8).alloc (Nat.le_refl _) (.cells #[.string ⟨#[59]⟩, .string ⟨#[41]⟩, .string ⟨#[116, 104, 101, 110]⟩, .string ⟨#[101, 108, 115, 101]⟩, .string ⟨#[61]⟩, .string ⟨#[120]⟩, .string ⟨#[49]⟩] 9)) ((Below.refl _ (w8.alloc (.cells #[.string ⟨#[59]⟩, .string ⟨#[41]⟩, .string ⟨#[116, 104, 101, 110]⟩, .string ⟨#[101, 108, 115, 101]⟩, .string ⟨#[61]⟩, .string ⟨#[120]⟩, .string ⟨#[49]⟩] 9))).alloc (Nat.le_refl _) (.cells #[.int .u8 1, .string ⟨#[120]⟩, .int .i64 0] 45)))); have B9 := hid b9; clear b8 b9 R8 c18)
    | (at_builtin; refine wpList_append_own _ rfl (.tmp 80) (.tmp 84) 38 rfl (w7.alloc (.cells (ex4 x (.slice a7 x.args.length c7)) 25)).heap.size 45 i0 (.agg #[.int .u8 0, .string ByteArray.empty, .int .i64 0]) 3 32 Tryd.underlying38 hi hi0 hi1 hi2 rfl (by decide) _ _ _ rfl R9.out ⟨w8.heap.size + 1, 0, none⟩ 1 1 [.int .u8 1, .string ⟨#[120]⟩, .int .i64 0] rfl rfl (three_new' _ _ _ _ _) (by simp [Value.oneCell']) (by have := HT3.out; unfold maxLen; omega) (by have := HT3.out; omega) B9.out.size ?_; intro v' w9 hown1 hgrow1 _; have bg := hid (B9.out.grown hgrow1 B9.out.size (fun k hk => (R9.out.lt k hk).1)); have AV9 := hid (AV7.out.step bg.out); have SY9 := hid (SY7.out.keep bg.out); have SZ9 := hid (SZ7.out.keep bg.out); have c19' := c19 ⟨1, [120], 0⟩ (by decide) (by decide) (by rw [jAt_eq]; decide) w9 v' _ hown1 (HA.out.below AV9.out.below); clear hown1 hgrow1 bg R9 B9 AV7 SY7 SZ7 c19)
    | (go_at_call 19; refine c19'.mono ?_; rintro e w10 ⟨b10, a10, c10, rfl, st10⟩; have AV10 := hid ((AV9.out.step b10).push (ex4 x (.slice a10 x.args.length c10))); have b11 := bstep b10 ((Below.refl w10.heap.size w10).alloc (Nat.le_refl _) (.cells (ex4 x (.slice a10 x.args.length c10)) 25)); have SW10 := hid (st10.keep ((Below.refl w10.heap.size w10).alloc (Nat.le_refl _) (.cells (ex4 x (.slice a10 x.args.length c10)) 25))); have SY10 := hid (SY9.out.keep b11); have SZ10 := hid (SZ9.out.keep b11); obtain ⟨p0, p1, p2, p3⟩ := row_cells4 (AV10.out.row w.heap.size (ex4 x (.slice ao x.args.length cap)) (by simp)); obtain ⟨q0, q1, q2, q3⟩ := row_cells4 (AV10.out.row w5.heap.size (ex4 x (.slice a5 x.args.length c5)) (by simp)); obtain ⟨r0, r1, r2, r3⟩ := row_cells4 (AV10.out.row w7.heap.size (ex4 x (.slice a7 x.args.length c7)) (by simp)); obtain ⟨s0, s1, s2, s3⟩ := row_cells4 (AV10.out.row w10.heap.size (ex4 x (.slice a10 x.args.length c10)) (by simp)); clear AV9 b10 b11 c19' st10 SY9 SZ9)
    | (go_at_call 16; refine (same x _ _ _ SY10.out (HS.out.keep AV10.out.below)).mono ?_; rintro e w11 ⟨rfl, b⟩; have AV11 := hid (AV10.out.step b); have SZ11 := hid (SZ10.out.keep b); have SW11 := hid (SW10.out.keep b); clear p0 p1 p2 p3 q0 q1 q2 q3 r0 r1 r2 r3 s0 s1 s2 s3; obtain ⟨p0, p1, p2, p3⟩ := row_cells4 (AV11.out.row w.heap.size (ex4 x (.slice ao x.args.length cap)) (by simp)); obtain ⟨q0, q1, q2, q3⟩ := row_cells4 (AV11.out.row w5.heap.size (ex4 x (.slice a5 x.args.length c5)) (by simp)); obtain ⟨r0, r1, r2, r3⟩ := row_cells4 (AV11.out.row w7.heap.size (ex4 x (.slice a7 x.args.length c7)) (by simp)); obtain ⟨s0, s1, s2, s3⟩ := row_cells4 (AV11.out.row w10.heap.size (ex4 x (.slice a10 x.args.length c10)) (by simp)); clear AV10 b SY10 SZ10 SW10)
    | (go_at_call 16; refine (same x _ _ _ SZ11.out (HS.out.keep AV11.out.below)).mono ?_; rintro e w12 ⟨rfl, b⟩; have AV12 := hid (AV11.out.step b); have SW12 := hid (SW11.out.keep b); clear p0 p1 p2 p3 q0 q1 q2 q3 r0 r1 r2 r3 s0 s1 s2 s3; obtain ⟨p0, p1, p2, p3⟩ := row_cells4 (AV12.out.row w.heap.size (ex4 x (.slice ao x.args.length cap)) (by simp)); obtain ⟨q0, q1, q2, q3⟩ := row_cells4 (AV12.out.row w5.heap.size (ex4 x (.slice a5 x.args.length c5)) (by simp)); obtain ⟨r0, r1, r2, r3⟩ := row_cells4 (AV12.out.row w7.heap.size (ex4 x (.slice a7 x.args.length c7)) (by simp)); obtain ⟨s0, s1, s2, s3⟩ := row_cells4 (AV12.out.row w10.heap.size (ex4 x (.slice a10 x.args.length c10)) (by simp)); clear AV11 b SZ11 SW11)
    | (go_at_call 16; refine (same x _ _ _ SW12.out (HS.out.keep AV12.out.below)).mono ?_; rintro e w13 ⟨rfl, b⟩; have AV13 := hid (AV12.out.step b); clear AV12 b SW12)
    | fail)
  all_goals (go_ret; first | exact ⟨rfl, BZ.out⟩ | exact ⟨rfl, AV13.out.below⟩)
set_option maxRecDepth 100000 in
set_option maxHeartbeats 4000000 in
theorem brk_6 (x : Ex) (s : Value) (n : Nat) (w : World) (hS : St w x s) (A : AEnv w) (hc : chk x = true) (h256 : n < 256) (hn : n % 7 = 6) : Calls Tryd.prog 5 #[exV x s, .int .u8 (n : Int)] w fun e w' => e = .returned (.bool true) ∧ Below w.heap.size w w' := by
  obtain ⟨T, F, ts, hz1, hz2, hz3, c9, c15, c17, d15, c18, c19⟩ := brk_all x hc hS
  have c11 := check x
  rw [hc] at c11
  obtain ⟨ao, cap, sl, rfl, _⟩ := hS.out
  obtain ⟨i0, hi, hi0, hi1, hi2⟩ := info_parts info32'
  have HT3 := hid hz3
  have AV0 := hid ((AV.push (L := []) ⟨Below.refl w.heap.size w, fun p hp => by cases hp⟩ (ex4 x (.slice ao x.args.length cap))))
  have HS := hid hS
  have HA := hid A
  have hm : (n : Int).tmod 7 = 6 := by rw [Int.tmod_eq_emod_of_nonneg (by omega)]; omega
  clear hS A hc hn hz3
  go_enter Tryd.func5, Tryd.ntmps5
  go_wp2_with (first
    | (go_at_call 14; refine (alive _ (HA.out.below AV0.out.below)).mono ?_; rintro e w1 ⟨rfl, b1⟩; have AV1 := hid (AV0.out.step b1); obtain ⟨p0, p1, p2, p3⟩ := row_cells4 (AV1.out.row w.heap.size (ex4 x (.slice ao x.args.length cap)) (by simp)); clear AV0 b1)
    | (go_at_call 7; refine (size_any _ x (Nat.le_refl _) _ _ (HS.out.keep AV1.out.below)).mono ?_; rintro e w2 ⟨⟨m, rfl⟩, b2⟩; have AV2 := hid (AV1.out.step b2); clear p0 p1 p2 p3; obtain ⟨p0, p1, p2, p3⟩ := row_cells4 (AV2.out.row w.heap.size (ex4 x (.slice ao x.args.length cap)) (by simp)); clear AV1 b2)
    | (go_at_call 14; refine (alive _ (HA.out.below AV2.out.below)).mono ?_; rintro e w90 ⟨rfl, b90⟩; have BZ := hid (bstep AV2.out.below b90); clear AV2 b90)
    | (go_at_call 11; refine (c11 _ _ (HS.out.keep AV2.out.below) (HA.out.below AV2.out.below).env.res (HA.out.below AV2.out.below).env.joins).mono ?_; rintro e w3 ⟨rfl, b3⟩; have AV3 := hid (AV2.out.step b3); clear p0 p1 p2 p3; obtain ⟨p0, p1, p2, p3⟩ := row_cells4 (AV3.out.row w.heap.size (ex4 x (.slice ao x.args.length cap)) (by simp)); clear AV2 b3 c11)
    | (go_at_call 9; refine (c9 _ _ (HS.out.keep AV3.out.below) (HA.out.below AV3.out.below)).mono ?_; rintro e w4 ⟨rfl, b4⟩; have AV4 := hid (AV3.out.step b4); clear p0 p1 p2 p3; obtain ⟨p0, p1, p2, p3⟩ := row_cells4 (AV4.out.row w.heap.size (ex4 x (.slice ao x.args.length cap)) (by simp)); clear AV3 b4 c9)
    | (go_at_call 15; refine (c15 _ (HA.out.below AV4.out.below)).mono ?_; rintro e w5 ⟨b5, a5, c5, rfl, st5⟩; have AV5 := hid ((AV4.out.step b5).push (ex4 x (.slice a5 x.args.length c5))); have SY5 := hid (st5.keep ((Below.refl w5.heap.size w5).alloc (Nat.le_refl _) (.cells (ex4 x (.slice a5 x.args.length c5)) 25))); clear p0 p1 p2 p3; obtain ⟨p0, p1, p2, p3⟩ := row_cells4 (AV5.out.row w.heap.size (ex4 x (.slice ao x.args.length cap)) (by simp)); clear AV4 b5 c15 st5)
    | (go_at_call 17; refine (c17 _ _ (HS.out.keep AV5.out.below) (HA.out.below AV5.out.below)).mono ?_; rintro e w6 ⟨rfl, b6⟩; have AV6 := hid (AV5.out.step b6); have SY6 := hid (SY5.out.keep b6); clear p0 p1 p2 p3 AV5 b6 c17 SY5)
    | (go_at_call 15; refine (d15 _ (HA.out.below AV6.out.below)).mono ?_; rintro e w7 ⟨b7, a7, c7, rfl, st7⟩; have AV7 := hid ((AV6.out.step b7).push (ex4 x (.slice a7 x.args.length c7))); have SZ7 := hid (st7.keep ((Below.refl w7.heap.size w7).alloc (Nat.le_refl _) (.cells (ex4 x (.slice a7 x.args.length c7)) 25))); have SY7 := hid (SY6.out.keep (bstep b7 ((Below.refl w7.heap.size w7).alloc (Nat.le_refl _) (.cells (ex4 x (.slice a7 x.args.length c7)) 25)))); clear AV6 b7 d15 st7 SY6)
    | (go_at_call 18; refine (c18 _ (HA.out.below AV7.out.below)).mono ?_; rintro e w8 ⟨b8, a8, c8, rfl, R8⟩; have b9 := bstep b8 (bstep ((Below.refl w8.heap.size w8).alloc (Nat.le_refl _) (.cells #[.string ⟨#[59]⟩, .string ⟨#[41]⟩, .string ⟨#[116, 104, 101, 110]⟩, .string ⟨#[101, 108, 115, 101]⟩, .string ⟨#[61]⟩, .string ⟨#[120]⟩, .string ⟨#[49]⟩] 9)) ((Below.refl _ (w8.alloc (.cells #[.string ⟨#[59]⟩, .string ⟨#[41]⟩, .string ⟨#[116, 104, 101, 110]⟩, .string ⟨#[101, 108, 115, 101]⟩, .string ⟨#[61]⟩, .string ⟨#[120]⟩, .string ⟨#[49]⟩] 9))).alloc (Nat.le_refl _) (.cells #[.int .u8 2, .string ⟨#[49]⟩, .int .i64 0] 45))); have R9 := hid (ownsRow_below R8 (bstep ((Below.refl w8.heap.size w8).alloc (Nat.le_refl _) (.cells #[.string ⟨#[59]⟩, .string ⟨#[41]⟩, .string ⟨#[116, 104, 101, 110]⟩, .string ⟨#[101, 108, 115, 101]⟩, .string ⟨#[61]⟩, .string ⟨#[120]⟩, .string ⟨#[49]⟩] 9)) ((Below.refl _ (w8.alloc (.cells #[.string ⟨#[59]⟩, .string ⟨#[41]⟩, .string ⟨#[116, 104, 101, 110]⟩, .string ⟨#[101, 108, 115, 101]⟩, .string ⟨#[61]⟩, .string ⟨#[120]⟩, .string ⟨#[49]⟩] 9))).alloc (Nat.le_refl _) (.cells #[.int .u8 2, .string ⟨#[49]⟩, .int .i64 0] 45)))); have B9 := hid b9; clear b8 b9 R8 c18)
    | (at_builtin; refine wpList_append_own _ rfl (.tmp 80) (.tmp 84) 38 rfl (w7.alloc (.cells (ex4 x (.slice a7 x.args.length c7)) 25)).heap.size 45 i0 (.agg #[.int .u8 0, .string ByteArray.empty, .int .i64 0]) 3 32 Tryd.underlying38 hi hi0 hi1 hi2 rfl (by decide) _ _ _ rfl R9.out ⟨w8.heap.size + 1, 0, none⟩ 1 1 [.int .u8 2, .string ⟨#[49]⟩, .int .i64 0] rfl rfl (three_new' _ _ _ _ _) (by simp [Value.oneCell']) (by have := HT3.out; unfold maxLen; omega) (by have := HT3.out; omega) B9.out.size ?_; intro v' w9 hown1 hgrow1 _; have bg := hid (B9.out.grown hgrow1 B9.out.size (fun k hk => (R9.out.lt k hk).1)); have AV9 := hid (AV7.out.step bg.out); have SY9 := hid (SY7.out.keep bg.out); have SZ9 := hid (SZ7.out.keep bg.out); have c19' := c19 ⟨2, [49], 0⟩ (by decide) (by decide) (by rw [jAt_eq]; decide) w9 v' _ hown1 (HA.out.below AV9.out.below); clear hown1 hgrow1 bg R9 B9 AV7 SY7 SZ7 c19)
    | (go_at_call 19; refine c19'.mono ?_; rintro e w10 ⟨b10, a10, c10, rfl, st10⟩; have AV10 := hid ((AV9.out.step b10).push (ex4 x (.slice a10 x.args.length c10))); have b11 := bstep b10 ((Below.refl w10.heap.size w10).alloc (Nat.le_refl _) (.cells (ex4 x (.slice a10 x.args.length c10)) 25)); have SW10 := hid (st10.keep ((Below.refl w10.heap.size w10).alloc (Nat.le_refl _) (.cells (ex4 x (.slice a10 x.args.length c10)) 25))); have SY10 := hid (SY9.out.keep b11); have SZ10 := hid (SZ9.out.keep b11); obtain ⟨p0, p1, p2, p3⟩ := row_cells4 (AV10.out.row w.heap.size (ex4 x (.slice ao x.args.length cap)) (by simp)); obtain ⟨q0, q1, q2, q3⟩ := row_cells4 (AV10.out.row w5.heap.size (ex4 x (.slice a5 x.args.length c5)) (by simp)); obtain ⟨r0, r1, r2, r3⟩ := row_cells4 (AV10.out.row w7.heap.size (ex4 x (.slice a7 x.args.length c7)) (by simp)); obtain ⟨s0, s1, s2, s3⟩ := row_cells4 (AV10.out.row w10.heap.size (ex4 x (.slice a10 x.args.length c10)) (by simp)); clear AV9 b10 b11 c19' st10 SY9 SZ9)
    | (go_at_call 16; refine (same x _ _ _ SY10.out (HS.out.keep AV10.out.below)).mono ?_; rintro e w11 ⟨rfl, b⟩; have AV11 := hid (AV10.out.step b); have SZ11 := hid (SZ10.out.keep b); have SW11 := hid (SW10.out.keep b); clear p0 p1 p2 p3 q0 q1 q2 q3 r0 r1 r2 r3 s0 s1 s2 s3; obtain ⟨p0, p1, p2, p3⟩ := row_cells4 (AV11.out.row w.heap.size (ex4 x (.slice ao x.args.length cap)) (by simp)); obtain ⟨q0, q1, q2, q3⟩ := row_cells4 (AV11.out.row w5.heap.size (ex4 x (.slice a5 x.args.length c5)) (by simp)); obtain ⟨r0, r1, r2, r3⟩ := row_cells4 (AV11.out.row w7.heap.size (ex4 x (.slice a7 x.args.length c7)) (by simp)); obtain ⟨s0, s1, s2, s3⟩ := row_cells4 (AV11.out.row w10.heap.size (ex4 x (.slice a10 x.args.length c10)) (by simp)); clear AV10 b SY10 SZ10 SW10)
    | (go_at_call 16; refine (same x _ _ _ SZ11.out (HS.out.keep AV11.out.below)).mono ?_; rintro e w12 ⟨rfl, b⟩; have AV12 := hid (AV11.out.step b); have SW12 := hid (SW11.out.keep b); clear p0 p1 p2 p3 q0 q1 q2 q3 r0 r1 r2 r3 s0 s1 s2 s3; obtain ⟨p0, p1, p2, p3⟩ := row_cells4 (AV12.out.row w.heap.size (ex4 x (.slice ao x.args.length cap)) (by simp)); obtain ⟨q0, q1, q2, q3⟩ := row_cells4 (AV12.out.row w5.heap.size (ex4 x (.slice a5 x.args.length c5)) (by simp)); obtain ⟨r0, r1, r2, r3⟩ := row_cells4 (AV12.out.row w7.heap.size (ex4 x (.slice a7 x.args.length c7)) (by simp)); obtain ⟨s0, s1, s2, s3⟩ := row_cells4 (AV12.out.row w10.heap.size (ex4 x (.slice a10 x.args.length c10)) (by simp)); clear AV11 b SZ11 SW11)
    | (go_at_call 16; refine (same x _ _ _ SW12.out (HS.out.keep AV12.out.below)).mono ?_; rintro e w13 ⟨rfl, b⟩; have AV13 := hid (AV12.out.step b); clear AV12 b SW12)
    | fail)
  all_goals (go_ret; first | exact ⟨rfl, BZ.out⟩ | exact ⟨rfl, AV13.out.below⟩)
/-- The walk of the law, whatever the input. -/
theorem walk5 (x : Ex) (s : Value) (n : Nat) (w : World) (hS : St w x s) (A : AEnv w) (hn : n < 256) : Calls Tryd.prog 5 #[exV x s, .int .u8 (n : Int)] w fun e w' => e = .returned (.bool true) ∧ Below w.heap.size w w' := by
  cases hc : chk x with
  | false => exact brk_no x s n w hS A hc
  | true =>
    have h7 : n % 7 < 7 := Nat.mod_lt _ (by decide)
    obtain h | h | h | h | h | h | h : n % 7 = 0 ∨ n % 7 = 1 ∨ n % 7 = 2 ∨ n % 7 = 3 ∨ n % 7 = 4 ∨ n % 7 = 5 ∨ n % 7 = 6 := by omega
    · exact brk_0 x s n w hS A hc hn h
    · exact brk_1 x s n w hS A hc hn h
    · exact brk_2 x s n w hS A hc hn h
    · exact brk_3 x s n w hS A hc hn h
    · exact brk_4 x s n w hS A hc hn h
    · exact brk_5 x s n w hS A hc hn h
    · exact brk_6 x s n w hS A hc hn h
end Go.Proofs.YtkieljleopbhoaaDoor.Lex
