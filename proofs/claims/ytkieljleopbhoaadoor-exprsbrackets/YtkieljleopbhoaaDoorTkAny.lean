/-
  Whatever may be is read where its tokens stand.
-/
import Derived.Test.YtkieljleopbhoaaDoorTk
import Derived.Test.YtkieljleopbhoaaDoorWrAny
namespace Go.Proofs.YtkieljleopbhoaaDoor.Lex
open Go.RowKit
theorem dec_dig : ∀ (u : Nat), Lib.decDigits u = dig u := by
  refine dig_ind (fun k h => ?_) (fun k h ih => ?_)
  · rw [Lib.decDigits, dif_pos h, dig_small h]; rfl
  · rw [Lib.decDigits, dif_neg h, dig_big h, ih]; rfl
theorem itoa_dig {n : Int} (h : 0 ≤ n) : Lib.itoa n = dig n.toNat := by
  unfold Lib.itoa
  rw [if_neg (by omega), dec_dig]
theorem fields_more {op : Nat} {n : Int} {nm : ByteArray} {len : Nat} (h : fieldsOk op n nm len = true) : (op ≠ 3 → nm.size = 0) ∧ (op ≠ 1 → op ≠ 2 → n = 0) := by
  unfold fieldsOk at h
  split at h
  · simp only [Bool.and_eq_true, decide_eq_true_eq] at h; exact ⟨fun _ => h.2.1, fun e => by omega⟩
  · split at h
    · simp only [Bool.and_eq_true, decide_eq_true_eq] at h; exact ⟨fun _ => h.2.1, fun _ e => by omega⟩
    · split at h
      · simp only [Bool.and_eq_true, decide_eq_true_eq] at h; exact ⟨fun e => by omega, fun _ _ => h.1⟩
      · simp only [Bool.and_eq_true, decide_eq_true_eq] at h; exact ⟨fun _ => h.2.2.1, fun _ _ => h.2.1⟩
theorem size0 {s : ByteArray} (h : s.size = 0) : s = ByteArray.empty := by
  obtain ⟨⟨l⟩⟩ := s
  have : l = [] := List.eq_nil_of_length_eq_zero h
  subst this
  rfl
theorem name_res {nm : ByteArray} (h : isName nm = true) (k : Nat) (hk : k < 17) : isMk ⟨1, nm⟩ 1 (resS k) = false := by
  cases e : isMk ⟨1, nm⟩ 1 (resS k) with
  | false => rfl
  | true =>
    have h1 := (isMk_yes e).2
    have h2 := isRes_true (s := nm) k hk (by simp only [beq_iff_eq]; exact h1.symm)
    unfold isName at h
    simp [h2] at h
theorem atom_name {ts : List Mark} {p : Nat} {nm : ByteArray} (hm : markAt ts p = ⟨1, nm⟩) (hn : isName nm = true) : atomR ts (P ts) p = .ok (⟨3, 0, nm, []⟩, p + 1) := by
  have a0 : isMk ⟨1, nm⟩ 1 (sgn [116, 114, 117, 101]) = false := name_res hn 13 (by omega)
  have a1 : isMk ⟨1, nm⟩ 1 (sgn [102, 97, 108, 115, 101]) = false := name_res hn 14 (by omega)
  have a2 : isMk ⟨1, nm⟩ 1 (sgn [110, 111, 116]) = false := name_res hn 12 (by omega)
  have a3 : isMk ⟨1, nm⟩ 1 (sgn [112, 114, 101]) = false := name_res hn 9 (by omega)
  have b0 : isMk ⟨1, nm⟩ 3 (sgn [40]) = false := mk_no _ _ _ (by show (1 : Nat) ≠ 3; omega)
  have b1 : isMk ⟨1, nm⟩ 3 (sgn [45]) = false := mk_no _ _ _ (by show (1 : Nat) ≠ 3; omega)
  unfold atomR
  simp only
  rw [hm, a0, a1, a2, a3, b0, b1]
  simp [hn]
theorem atom_num {ts : List Mark} {p : Nat} {s : ByteArray} (hm : markAt ts p = ⟨2, s⟩) (hn : numE s = 0) : atomR ts (P ts) p = .ok (⟨1, numN s, ByteArray.empty, []⟩, p + 1) := by
  have a : ∀ k t, k ≠ 2 → isMk ⟨2, s⟩ k t = false := fun k t hk => mk_no _ _ _ (fun e => hk e.symm)
  unfold atomR
  simp only
  rw [hm, a _ _ (by omega), a _ _ (by omega), a _ _ (by omega), a _ _ (by omega), a _ _ (by omega), a _ _ (by omega)]
  simp [hn]
theorem atom_bool {ts : List Mark} {p : Nat} {b : Bool} (hm : markAt ts p = ⟨1, ⟨(yesNo b).toArray⟩⟩) : atomR ts (P ts) p = .ok (⟨2, if b then 1 else 0, ByteArray.empty, []⟩, p + 1) := by
  unfold atomR
  simp only
  rw [hm]
  cases b
  · rw [if_neg (by rw [isMk_eq]; decide), if_pos (by rw [isMk_eq]; decide)]; rfl
  · rw [if_pos (by rw [isMk_eq]; decide)]; rfl
theorem atom_one {ts : List Mark} {p q op : Nat} {x : Ex} (ho : op = 4 ∨ op = 5 ∨ op = 19) (hm : markAt ts p = oneMk op) (h1 : P ts 6 (p + 1) = .ok (x, q)) : atomR ts (P ts) p = .ok (⟨op, 0, ByteArray.empty, [x]⟩, q) := by
  unfold atomR
  simp only
  rw [hm]
  rcases ho with rfl | rfl | rfl
  · rw [if_neg (by rw [isMk_eq]; decide), if_neg (by rw [isMk_eq]; decide), if_neg (by rw [isMk_eq]; decide), if_pos (by rw [isMk_eq]; decide), h1, Res.go_ok]
  · rw [if_neg (by rw [isMk_eq]; decide), if_neg (by rw [isMk_eq]; decide), if_neg (by rw [isMk_eq]; decide), if_neg (by rw [isMk_eq]; decide), if_pos (by rw [isMk_eq]; decide), h1, Res.go_ok]
  · rw [if_neg (by rw [isMk_eq]; decide), if_neg (by rw [isMk_eq]; decide), if_neg (by rw [isMk_eq]; decide), if_neg (by rw [isMk_eq]; decide), if_neg (by rw [isMk_eq]; decide), if_pos (by rw [isMk_eq]; decide), h1, Res.go_ok]
theorem oneMk_no (op : Nat) : isMk (oneMk op) 1 (sgn [105, 102]) = false := by
  unfold oneMk
  rw [isMk_eq]
  split
  · decide
  · split <;> decide
theorem no_if {m : Mark} (h : isMk m 1 (sgn [105, 102]) = false) (a : Nat) : ¬ (a = 0 ∧ isMk m 1 (sgn [105, 102]) = true) := fun hc => by rw [h] at hc; exact absurd hc.2 (by decide)
theorem T_leaf {x y : Ex} {m : Mark} (hy : y = x) (hop : jOf x.op = none) (h17 : x.op ≠ 17) (htk : tk x = [m]) (hm : isMk m 1 (sgn [105, 102]) = false) (h : ∀ ts p, markAt ts p = m → atomR ts (P ts) p = .ok (y, p + 1)) : T x := by
  subst hy
  intro ts p a _ hA _
  rw [htk] at hA ⊢
  obtain ⟨h1, _, _⟩ := hA.cons
  rw [P_atom (no_if (by rw [h1]; exact hm) a), h ts p h1, Res.go_ok, if_neg h17]
  unfold rkL
  rw [hop]
  rfl
theorem T_one {x a : Ex} (ho : x.op = 4 ∨ x.op = 5 ∨ x.op = 19) (ha : x.args = [a]) (hx : x = ⟨x.op, 0, ByteArray.empty, [a]⟩) (h : T a) : T x := by
  intro ts p r _ hA hf
  rw [tk_one ha] at hA hf ⊢
  obtain ⟨h1, _, h3⟩ := hA.cons
  have hq : p + (oneMk x.op :: tkp 6 (rkOf a.op) (tk a)).length = p + 1 + (tkp 6 (rkOf a.op) (tk a)).length := by simp; omega
  rw [hq] at hf ⊢
  have h17 : x.op ≠ 17 := by omega
  have hj : jOf x.op = none := by rcases ho with e | e | e <;> rw [e] <;> rfl
  have hstop : ∀ y r, Lp ts 6 y r (p + 1 + (tkp 6 (rkOf a.op) (tk a)).length) = .ok (y, p + 1 + (tkp 6 (rkOf a.op) (tk a)).length) := fun y r => by
    cases e : jAt (markAt ts (p + 1 + (tkp 6 (rkOf a.op) (tk a)).length)) with
    | none => exact Lp_none e
    | some j => have := JT_laws j (jAt_mem e); exact Lp_stop e (.inl (by omega))
  have hpart : P ts 6 (p + 1) = .ok (a, p + 1 + (tkp 6 (rkOf a.op) (tk a)).length) := by
    rcases h.place (by omega) (Nat.le_refl 6) h3 (fun hl j hj => by have := JT_laws j (jAt_mem hj); omega) with ⟨r, _, e⟩ | ⟨e, _⟩
    · rw [e, hstop]
    · omega
  rw [P_atom (no_if (by rw [h1]; exact oneMk_no _) r), atom_one ho h1 hpart, Res.go_ok, if_neg h17, ← hx]
  unfold rkL
  rw [hj]
theorem passR_ok {ts : List Mark} {kind : Nat} {text : ByteArray} {p : Nat} {f : Nat → Res} (h : isMk (markAt ts p) kind text = true) : passR ts kind text p f = f (p + 1) := by unfold passR; rw [if_pos h]
theorem T_three {x a b c : Ex} (ho : x.op = 17) (ha : x.args = [a, b, c]) (hx : x = ⟨17, 0, ByteArray.empty, [a, b, c]⟩) (h1 : T a) (h2 : T b) (h3 : T c) : T x := by
  intro ts p r hr hA hf
  rw [ho, rk17] at hr hf
  obtain rfl : r = 0 := by omega
  rw [tk_three ha] at hA hf ⊢
  obtain ⟨e0, _, A1⟩ := hA.cons
  obtain ⟨Aa, A2⟩ := A1.app
  obtain ⟨e1, _, A3⟩ := A2.cons
  obtain ⟨Ab, A4⟩ := A3.app
  obtain ⟨e2, _, A5⟩ := A4.cons
  have hq : p + (⟨1, sgn [105, 102]⟩ :: (tk a ++ ⟨1, sgn [116, 104, 101, 110]⟩ :: (tk b ++ ⟨1, sgn [101, 108, 115, 101]⟩ :: tk c)) : List Mark).length = p + 1 + (tk a).length + 1 + (tk b).length + 1 + (tk c).length := by simp; omega
  rw [hq] at hf ⊢
  have pa := h1.all Aa (by rw [e1, jAt_eq]; decide)
  have pb := h2.all Ab (by rw [e2, jAt_eq]; decide)
  have pc := h3.all A5 (by
    cases e : jAt (markAt ts (p + 1 + (tk a).length + 1 + (tk b).length + 1 + (tk c).length)) with
    | none => rfl
    | some j => have := hf j e; have := JT_laws j (jAt_mem e); omega)
  rw [P_if (by rw [e0, isMk_eq]; decide), if_pos ho]
  unfold choiceR
  rw [pa, Res.go_ok, passR_ok (by rw [e1, isMk_eq]; decide), pb, Res.go_ok, passR_ok (by rw [e2, isMk_eq]; decide), pc, Res.go_ok, ← hx]
theorem T_two {x a b : Ex} {j : J} (hj : jOf x.op = some j) (ha : x.args = [a, b]) (hx : x = ⟨j.op, 0, ByteArray.empty, [a, b]⟩) (h1 : T a) (h2 : T b) : T x := by
  intro ts p r hr hA hf
  obtain ⟨l1, l2, l3, l4, l5, l6, l7, l8, l9⟩ := JT_laws j (jOf_mem hj).1
  have hrk : rkOf x.op = j.rank := by unfold rkOf; rw [hj]
  have hrl : rkL x.op = j.rank := by unfold rkL; rw [hj]
  have h17 : x.op ≠ 17 := by rw [← (jOf_mem hj).2]; exact l8
  rw [hrk] at hr hf
  rw [tk_two ha, hj, Option.getD_some] at hA hf ⊢
  obtain ⟨Aa, A1⟩ := hA.app
  obtain ⟨e1, _, Ab⟩ := A1.cons
  have hq : p + (tkp j.first (rkOf a.op) (tk a) ++ jMk j :: tkp j.second (rkOf b.op) (tk b)).length = p + (tkp j.first (rkOf a.op) (tk a)).length + 1 + (tkp j.second (rkOf b.op) (tk b)).length := by simp; omega
  rw [hq] at hf ⊢
  rw [if_neg h17, hrl]
  have hpb : P ts j.second (p + (tkp j.first (rkOf a.op) (tk a)).length + 1) = .ok (b, p + (tkp j.first (rkOf a.op) (tk a)).length + 1 + (tkp j.second (rkOf b.op) (tk b)).length) := by
    rcases h2.place (by omega) (Nat.le_refl _) Ab (fun hl j' hj' => by have := hf j' hj'; have := JT_laws j' (jAt_mem hj'); omega) with ⟨r', _, e⟩ | ⟨_, e⟩
    · rw [e]
      cases e' : jAt (markAt ts (p + (tkp j.first (rkOf a.op) (tk a)).length + 1 + (tkp j.second (rkOf b.op) (tk b)).length)) with
      | none => exact Lp_none e'
      | some j' => have := hf j' e'; have := JT_laws j' (jAt_mem e'); exact Lp_stop e' (.inl (by omega))
    · exact e
  rcases h1.place (by omega) (show r ≤ j.first by omega) Aa (fun hl j' hj' => by rw [e1, l7] at hj'; cases hj'; exact hl) with ⟨r', hr', e⟩ | ⟨e, _⟩
  · rw [e, Lp_go (by rw [e1]; exact l7) hr hr', hpb, Res.go_ok, ← hx]
  · omega
theorem T_any : ∀ (d M : Nat) (x : Ex) (k : Nat) (w : World) (s : Value), sz d M x = some k → St w x s → T x
  | 0, M, x, k, w, s, h, _ => by simp [sz] at h
  | d + 1, M, x, k, w, s, h, hS => by
    obtain ⟨hM, hf, hl⟩ := sz_parts h
    obtain ⟨_, _, _, _, _, hn, _⟩ := hS.out
    obtain ⟨f1, f2⟩ := fields_more hf
    rcases fields_cases hf with ⟨h1, h2, h3⟩ | ⟨h1, h2, h3⟩ | ⟨h1, h2, h3⟩ | ⟨h1, h3⟩ | ⟨h1, h3⟩ | ⟨⟨r, hr⟩, h3⟩
    · have e := len0 h3
      have hd := num_dig ⟨(Lib.itoa x.n).toArray⟩ x.n.toNat (by omega) (by simp only; exact itoa_dig h2)
      refine T_leaf (y := ⟨1, numN ⟨(Lib.itoa x.n).toArray⟩, ByteArray.empty, []⟩) ?_ (by rw [h1]; rfl) (by omega) (by rw [tk_leaf e, if_pos h1]) (mk_no _ _ _ (by show (2 : Nat) ≠ 1; omega)) fun ts p hm => atom_num hm hd.2
      obtain ⟨o, n, nm, l⟩ := x
      simp only at h1 e f1 h2 hd ⊢
      subst h1 e
      rw [hd.1, size0 (f1 (by omega)), Int.toNat_of_nonneg h2]
    · have e := len0 h3
      refine T_leaf (y := ⟨2, if (x.n == 1) then 1 else 0, ByteArray.empty, []⟩) ?_ (by rw [h1]; rfl) (by omega) (by rw [tk_leaf e, if_neg (by omega), if_pos h1]) (by rw [isMk_eq]; cases (x.n == 1) <;> decide) fun ts p hm => atom_bool hm
      obtain ⟨o, n, nm, l⟩ := x
      simp only at h1 e f1 h2 ⊢
      subst h1 e
      rw [size0 (f1 (by omega))]
      rcases h2 with rfl | rfl <;> rfl
    · have e := len0 h3
      refine T_leaf (y := ⟨3, 0, x.name, []⟩) ?_ (by rw [h1]; rfl) (by omega) (by rw [tk_leaf e, if_neg (by omega), if_neg (by omega)]) (name_res h2 6 (by omega)) fun ts p hm => atom_name hm h2
      obtain ⟨o, n, nm, l⟩ := x
      simp only at h1 e f2 ⊢
      subst h1 e
      rw [f2 (by omega) (by omega)]
    · obtain ⟨a, e⟩ := len1 h3
      rw [e] at hl
      obtain ⟨ka, hka, _⟩ := szL_cons hl
      obtain ⟨t, ht⟩ := hS.arg0 e
      refine T_one h1 e ?_ (T_any d _ a ka w t hka ht)
      obtain ⟨o, n, nm, l⟩ := x
      simp only at h1 e f1 f2 ⊢
      subst e
      rw [f2 (by omega) (by omega), size0 (f1 (by omega))]
    · obtain ⟨a, b, c, e⟩ := len3 h3
      rw [e] at hl
      obtain ⟨ka, hka, hl⟩ := szL_cons hl
      obtain ⟨kb, hkb, hl⟩ := szL_cons hl
      obtain ⟨kc, hkc, _⟩ := szL_cons hl
      obtain ⟨ta, hta⟩ := hS.arg0 e
      obtain ⟨tb, htb⟩ := hS.arg1 e
      obtain ⟨tc, htc⟩ := hS.arg2 e
      refine T_three h1 e ?_ (T_any d _ a ka w ta hka hta) (T_any d _ b kb w tb hkb htb) (T_any d _ c kc w tc hkc htc)
      obtain ⟨o, n, nm, l⟩ := x
      simp only at h1 e f1 f2 ⊢
      subst e h1
      rw [f2 (by omega) (by omega), size0 (f1 (by omega))]
    · obtain ⟨a, b, e⟩ := len2 h3
      rw [e] at hl
      obtain ⟨ka, hka, hl⟩ := szL_cons hl
      obtain ⟨kb, hkb, _⟩ := szL_cons hl
      obtain ⟨ta, hta⟩ := hS.arg0 e
      obtain ⟨tb, htb⟩ := hS.arg1 e
      have hro := jOf_range hr
      refine T_two hr e ?_ (T_any d _ a ka w ta hka hta) (T_any d _ b kb w tb hkb htb)
      rw [(jOf_mem hr).2]
      obtain ⟨o, n, nm, l⟩ := x
      simp only at e f1 f2 hro ⊢
      subst e
      rw [f2 (by omega) (by omega), size0 (f1 (by omega))]
end Go.Proofs.YtkieljleopbhoaaDoor.Lex
