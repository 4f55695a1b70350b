/-
  What may stand in any place: the contract of atom, by the plain reader.
-/
import Derived.Test.YtkieljleopbhoaaDoorAtomC
import Derived.Test.YtkieljleopbhoaaDoorTk
namespace Go.Proofs.YtkieljleopbhoaaDoor.Lex
open Go.ChangeShapes Go.WideShapes Go.ChangeAt Go.RowKit Go.Joins Go.WideMaps Go.WideElems Go.Maps
theorem look_at {mp : Nat} {w : World} (h : AtM (fun _ => true) mp 0 w) (m : Mark) (hk : m.kind < 256) (hs : m.text.size ≤ 1048576) {k : Nat} (h8 : k < 8) (e : aKey k = mkV m) : (Instr.lookup 68 (.map (some mp)) (mkV m) true).run Tryd.prog w = .ok (.tuple #[.func (.func (aR k).2.2) #[] #[], .bool true]) w := by
  rcases h.look m hk hs with ⟨h1, _⟩ | ⟨k', h1, h2, h3⟩
  · exact (h1 k h8 e).elim
  · by_cases ek : k' = k
    · subst ek; exact h3
    · exact (aKey_ne h1 h8 ek (h2.trans e.symm)).elim
theorem look_no {mp : Nat} {w : World} (h : AtM (fun _ => true) mp 0 w) (m : Mark) (hk : m.kind < 256) (hs : m.text.size ≤ 1048576) (hn : ∀ k, k < 8 → aKey k ≠ mkV m) : (Instr.lookup 68 (.map (some mp)) (mkV m) true).run Tryd.prog w = .ok (.tuple #[.nilFunc, .bool false]) w := by
  rcases h.look m hk hs with ⟨_, h2⟩ | ⟨k', h1, h2, h3⟩
  · exact h2
  · exact (hn k' h1 h2).elim
theorem mk_key (m : Mark) (k : Nat) : isMk m (aR k).1 (aR k).2.1 = true → aKey k = mkV m := fun h => by
  rw [isMk_eq] at h
  simp only [Bool.and_eq_true, beq_iff_eq] at h
  obtain ⟨h1, h2⟩ := h
  obtain ⟨kd, ⟨⟨l⟩⟩⟩ := m
  simp only at h1 h2
  unfold aKey mkV
  simp only [h1]
  rw [show (aR k).2.1 = ⟨⟨l⟩⟩ by cases e : (aR k).2.1 with | mk d => rw [e] at h2; cases d with | mk l' => simp only at h2; rw [h2]]
theorem no_mk {m : Mark} (hn : ∀ k, k < 8 → aKey k ≠ mkV m) (k : Nat) (h8 : k < 8) : isMk m (aR k).1 (aR k).2.1 = false := by
  cases e : isMk m (aR k).1 (aR k).2.1 with
  | false => rfl
  | true => exact (hn k h8 (mk_key m k e)).elim
theorem plain55 : Plain 55 := fun _ _ => by kernel_rfl
theorem plain56 : Plain 56 := fun _ _ => by kernel_rfl
theorem plain57 : Plain 57 := fun _ _ => by kernel_rfl
theorem plain58 : Plain 58 := fun _ _ => by kernel_rfl
theorem plain59 : Plain 59 := fun _ _ => by kernel_rfl
theorem plain60 : Plain 60 := fun _ _ => by kernel_rfl
theorem plain62 : Plain 62 := fun _ _ => by kernel_rfl
theorem plain63 : Plain 63 := fun _ _ => by kernel_rfl
/-- A word that is none of the atoms by itself, and a number. -/
theorem atomR_word {ts : List Mark} {part : Nat → Nat → Res} {p : Nat} (hk : (markAt ts p).kind = 1) (h1 : isMk (markAt ts p) 1 (sgn [116, 114, 117, 101]) = false) (h2 : isMk (markAt ts p) 1 (sgn [102, 97, 108, 115, 101]) = false) (h3 : isMk (markAt ts p) 1 (sgn [110, 111, 116]) = false) (h4 : isMk (markAt ts p) 1 (sgn [112, 114, 101]) = false) :
    atomR ts part p = if isName (markAt ts p).text then .ok (⟨3, 0, (markAt ts p).text, []⟩, p + 1) else .error (5, p) := by
  have b0 : isMk (markAt ts p) 3 (sgn [40]) = false := mk_no _ _ _ (by omega)
  have b1 : isMk (markAt ts p) 3 (sgn [45]) = false := mk_no _ _ _ (by omega)
  unfold atomR
  simp only
  rw [h1, h2, h3, h4, b0, b1]
  simp [hk]
theorem atomR_num {ts : List Mark} {part : Nat → Nat → Res} {p : Nat} (hk : (markAt ts p).kind = 2) : atomR ts part p = if numE (markAt ts p).text = 0 then .ok (⟨1, numN (markAt ts p).text, ByteArray.empty, []⟩, p + 1) else .error ((numE (markAt ts p).text).toNat, p) := by
  have a : ∀ k t, k ≠ 2 → isMk (markAt ts p) k t = false := fun k t hk' => mk_no _ _ _ (by omega)
  unfold atomR
  simp only
  rw [a _ _ (by omega), a _ _ (by omega), a _ _ (by omega), a _ _ (by omega), a _ _ (by omega), a _ _ (by omega)]
  simp [hk]
/-- The contract of part, at the next place. -/
def CP (r mp : Nat) (v : Value) (ts : List Mark) (part : Nat → Nat → Res) (p : Nat) (w : World) : Prop :=
  ∀ (a : Nat), a = 0 ∨ a = 6 → ∀ W, w.grownBy W (some r) → Rdr r mp v ts (p + 1) W → Calls Tryd.prog 65 #[.pointer (some ⟨r, 0, none⟩), .int .i64 (a : Int)] W (Post r mp v ts W (part a (p + 1)))
theorem word_c {r mp : Nat} {v : Value} {ts : List Mark} {p : Nat} {w : World} (h : Rdr r mp v ts p w) (E : PEnv r mp w) (hp : p < ts.length) : Calls Tryd.prog 55 #[.pointer (some ⟨r, 0, none⟩)] w (Post r mp v ts w (if isName (markAt ts p).text then .ok (⟨3, 0, (markAt ts p).text, []⟩, p + 1) else .error (5, p))) := by
  cases hn : isName (markAt ts p).text with
  | true => exact name_ok r mp v ts p w h hp E.tabR hn
  | false => exact name_bad r mp v ts p w h E.tabR hn
theorem num_c {r mp : Nat} {v : Value} {ts : List Mark} {p : Nat} {w : World} (h : Rdr r mp v ts p w) (E : PEnv r mp w) (hp : p < ts.length) (hT : TsOk ts) : Calls Tryd.prog 58 #[.pointer (some ⟨r, 0, none⟩)] w (Post r mp v ts w (if numE (markAt ts p).text = 0 then .ok (⟨1, numN (markAt ts p).text, ByteArray.empty, []⟩, p + 1) else .error ((numE (markAt ts p).text).toNat, p))) := by
  obtain ⟨tp, pv, hv⟩ := E.var
  by_cases hn : numE (markAt ts p).text = 0
  · rw [if_pos hn]; exact number_ok r mp v ts p w h hp tp pv hv (hT.at p).2 hn
  · rw [if_neg hn]; exact number_bad r mp v ts p w h tp pv hv (hT.at p).2 hn
theorem brackets_c {r mp : Nat} {v : Value} {ts : List Mark} {part : Nat → Nat → Res} {p : Nat} {w : World} (h : Rdr r mp v ts p w) (hp : p < ts.length) (cp : CP r mp v ts part p w) : Calls Tryd.prog 59 #[.pointer (some ⟨r, 0, none⟩)] w (Post r mp v ts w ((part 0 (p + 1)).go fun x q => passR ts 3 (sgn [41]) q fun q => .ok (x, q))) := by
  have c0 := cp 0 (.inl rfl)
  cases e : part 0 (p + 1) with
  | error nq =>
    obtain ⟨n, q⟩ := nq
    rw [e] at c0
    rw [Res.go_error]
    exact brackets_bad r mp v ts p n q w h hp c0
  | ok xq =>
    obtain ⟨x, q⟩ := xq
    rw [e] at c0
    rw [Res.go_ok]
    unfold passR
    cases hm : isMk (markAt ts q) 3 (sgn [41]) with
    | true => exact brackets_ok r mp v ts p q x w h hp c0 hm
    | false => exact brackets_open r mp v ts p q x w h hp c0 hm
theorem one_c {r mp : Nat} {v : Value} {ts : List Mark} {part : Nat → Nat → Res} {p : Nat} {w : World} (h : Rdr r mp v ts p w) (hp : p < ts.length) (cp : CP r mp v ts part p w) (F op : Nat) (hF : (F = 60 ∧ op = 4) ∨ (F = 62 ∧ op = 5) ∨ (F = 63 ∧ op = 19)) : Calls Tryd.prog F #[.pointer (some ⟨r, 0, none⟩)] w (Post r mp v ts w ((part 6 (p + 1)).go fun x q => .ok (⟨op, 0, ByteArray.empty, [x]⟩, q))) := by
  have c0 := fun W (hW : Below w.heap.size w W) W' (g : W.grownBy W' (some r)) => cp 6 (.inr rfl) W' (grown_on (grown_below hW _) g)
  cases e : part 6 (p + 1) with
  | error nq =>
    obtain ⟨n, q⟩ := nq
    rw [e] at c0
    rw [Res.go_error]
    have c1 := fun W hW => one_bad r mp v ts p op n q W (h.step hW) hp (c0 W hW)
    rcases hF with ⟨rfl, rfl⟩ | ⟨rfl, rfl⟩ | ⟨rfl, rfl⟩
    · exact neg_bad r mp v ts n q w c1
    · exact not_bad r mp v ts n q w c1
    · exact pre_bad r mp v ts n q w c1
  | ok xq =>
    obtain ⟨x, q⟩ := xq
    rw [e] at c0
    rw [Res.go_ok]
    have c1 := fun W hW => one_ok r mp v ts p op q x W (h.step hW) hp (by omega) (c0 W hW)
    rcases hF with ⟨rfl, rfl⟩ | ⟨rfl, rfl⟩ | ⟨rfl, rfl⟩
    · exact neg_ok r mp v ts p q _ w h c1
    · exact not_ok r mp v ts p q _ w h c1
    · exact pre_ok r mp v ts p q _ w h c1
theorem CP.below {r mp : Nat} {v : Value} {ts : List Mark} {part : Nat → Nat → Res} {p : Nat} {w W : World} (h : CP r mp v ts part p w) (b : Below w.heap.size w W) : CP r mp v ts part p W := fun a ha W' g => h a ha W' (grown_on (grown_below b _) g)
/-- atom. -/
theorem atom_at {r mp : Nat} {v : Value} {ts : List Mark} {part : Nat → Nat → Res} {p : Nat} {w : World} (h : Rdr r mp v ts p w) (E : PEnv r mp w) (hT : TsOk ts) (cp : CP r mp v ts part p w) : Calls Tryd.prog 84 #[.pointer (some ⟨r, 0, none⟩)] w (Post r mp v ts w (atomR ts part p)) := by
  obtain ⟨hk, hs⟩ := hT.at p
  by_cases hx : ∃ k, k < 8 ∧ aKey k = mkV (markAt ts p)
  · obtain ⟨k, h8, ek⟩ := hx
    have hl := fun W (g : w.grownBy W (some r)) => look_at (E.grown g).am (markAt ts p) hk hs h8 ek
    obtain ⟨e1, e2⟩ := aKey_mk ek
    have hp : p < ts.length := markAt_lt h.le (by rw [← e1]; rcases cases8 h8 with rfl | rfl | rfl | rfl | rfl | rfl | rfl | rfl <;> decide)
    have hm : markAt ts p = ⟨(aR k).1, (aR k).2.1⟩ := by rw [e1, e2]
    clear ek e1 e2
    rcases cases8 h8 with rfl | rfl | rfl | rfl | rfl | rfl | rfl | rfl
    · refine atom_first 55 plain55 r mp v ts p w h _ hl fun W b => ?_
      rw [atomR_word (by rw [hm]; rfl) (by rw [hm, isMk_eq]; decide) (by rw [hm, isMk_eq]; decide) (by rw [hm, isMk_eq]; decide) (by rw [hm, isMk_eq]; decide)]
      exact word_c (h.step b) (E.below b) hp
    · refine atom_first 56 plain56 r mp v ts p w h _ hl fun W b => ?_
      have e : atomR ts part p = .ok (⟨2, 1, ByteArray.empty, []⟩, p + 1) := by
        unfold atomR
        simp only
        rw [hm, if_pos (by rw [isMk_eq]; decide)]
      rw [e]
      exact yes_at r mp v ts p W (h.step b) hp
    · refine atom_first 57 plain57 r mp v ts p w h _ hl fun W b => ?_
      have e : atomR ts part p = .ok (⟨2, 0, ByteArray.empty, []⟩, p + 1) := by
        unfold atomR
        simp only
        rw [hm, if_neg (by rw [isMk_eq]; decide), if_pos (by rw [isMk_eq]; decide)]
      rw [e]
      exact no_at r mp v ts p W (h.step b) hp
    · refine atom_first 58 plain58 r mp v ts p w h _ hl fun W b => ?_
      rw [atomR_num (by rw [hm]; rfl)]
      exact num_c (h.step b) (E.below b) hp hT
    · refine atom_first 59 plain59 r mp v ts p w h _ hl fun W b => ?_
      have e : atomR ts part p = (part 0 (p + 1)).go fun x q => passR ts 3 (sgn [41]) q fun q => .ok (x, q) := by
        unfold atomR
        simp only
        rw [hm, if_neg (by rw [isMk_eq]; decide), if_neg (by rw [isMk_eq]; decide), if_pos (by rw [isMk_eq]; decide)]
      rw [e]
      exact brackets_c (h.step b) hp (cp.below b)
    · refine atom_first 60 plain60 r mp v ts p w h _ hl fun W b => ?_
      have e : atomR ts part p = (part 6 (p + 1)).go fun x q => .ok (⟨4, 0, ByteArray.empty, [x]⟩, q) := by
        unfold atomR
        simp only
        rw [hm, if_neg (by rw [isMk_eq]; decide), if_neg (by rw [isMk_eq]; decide), if_neg (by rw [isMk_eq]; decide), if_pos (by rw [isMk_eq]; decide)]
      rw [e]
      exact one_c (h.step b) hp (cp.below b) 60 4 (.inl ⟨rfl, rfl⟩)
    · refine atom_first 62 plain62 r mp v ts p w h _ hl fun W b => ?_
      have e : atomR ts part p = (part 6 (p + 1)).go fun x q => .ok (⟨5, 0, ByteArray.empty, [x]⟩, q) := by
        unfold atomR
        simp only
        rw [hm, if_neg (by rw [isMk_eq]; decide), if_neg (by rw [isMk_eq]; decide), if_neg (by rw [isMk_eq]; decide), if_neg (by rw [isMk_eq]; decide), if_pos (by rw [isMk_eq]; decide)]
      rw [e]
      exact one_c (h.step b) hp (cp.below b) 62 5 (.inr (.inl ⟨rfl, rfl⟩))
    · refine atom_first 63 plain63 r mp v ts p w h _ hl fun W b => ?_
      have e : atomR ts part p = (part 6 (p + 1)).go fun x q => .ok (⟨19, 0, ByteArray.empty, [x]⟩, q) := by
        unfold atomR
        simp only
        rw [hm, if_neg (by rw [isMk_eq]; decide), if_neg (by rw [isMk_eq]; decide), if_neg (by rw [isMk_eq]; decide), if_neg (by rw [isMk_eq]; decide), if_neg (by rw [isMk_eq]; decide), if_pos (by rw [isMk_eq]; decide)]
      rw [e]
      exact one_c (h.step b) hp (cp.below b) 63 19 (.inr (.inr ⟨rfl, rfl⟩))
  · have hn : ∀ k, k < 8 → aKey k ≠ mkV (markAt ts p) := fun k h8 e => hx ⟨k, h8, e⟩
    have hl := fun W (g : w.grownBy W (some r)) => look_no (E.grown g).am (markAt ts p) hk hs hn
    have n1 : isMk (markAt ts p) 1 (sgn [116, 114, 117, 101]) = false := no_mk hn 1 (by omega)
    have n2 : isMk (markAt ts p) 1 (sgn [102, 97, 108, 115, 101]) = false := no_mk hn 2 (by omega)
    have n4 : isMk (markAt ts p) 3 (sgn [40]) = false := no_mk hn 4 (by omega)
    have n5 : isMk (markAt ts p) 3 (sgn [45]) = false := no_mk hn 5 (by omega)
    have n6 : isMk (markAt ts p) 1 (sgn [110, 111, 116]) = false := no_mk hn 6 (by omega)
    have n7 : isMk (markAt ts p) 1 (sgn [112, 114, 101]) = false := no_mk hn 7 (by omega)
    by_cases k1 : (markAt ts p).kind = 1
    · have hp : p < ts.length := markAt_lt h.le (by omega)
      refine atom_second 55 plain55 r mp v ts p w h _ hl (fun W g => look_at (E.grown g).am ⟨(markAt ts p).kind, ⟨#[]⟩⟩ hk (by show (⟨#[]⟩ : ByteArray).size ≤ 1048576; decide) (k := 0) (by omega) (by rw [k1]; rfl)) fun W b => ?_
      rw [atomR_word k1 n1 n2 n6 n7]
      exact word_c (h.step b) (E.below b) hp
    · by_cases k2 : (markAt ts p).kind = 2
      · have hp : p < ts.length := markAt_lt h.le (by omega)
        refine atom_second 58 plain58 r mp v ts p w h _ hl (fun W g => look_at (E.grown g).am ⟨(markAt ts p).kind, ⟨#[]⟩⟩ hk (by show (⟨#[]⟩ : ByteArray).size ≤ 1048576; decide) (k := 3) (by omega) (by rw [k2]; rfl)) fun W b => ?_
        rw [atomR_num k2]
        exact num_c (h.step b) (E.below b) hp hT
      · have e : atomR ts part p = .error (5, p) := by
          unfold atomR
          simp only
          rw [n1, n2, n4, n5, n6, n7]
          simp [k1, k2]
        rw [e]
        refine atom_none r mp v ts p w h hl fun W g => look_no (E.grown g).am ⟨(markAt ts p).kind, ⟨#[]⟩⟩ hk (by show (⟨#[]⟩ : ByteArray).size ≤ 1048576; decide) fun k h8 ek => ?_
        obtain ⟨e1, e2⟩ := aKey_mk ek
        simp only at e1 e2
        have e3 := congrArg (fun s => s.data.toList) e2
        rcases cases8 h8 with rfl | rfl | rfl | rfl | rfl | rfl | rfl | rfl <;> first | exact absurd e3 (by decide) | exact k1 e1.symm | exact k2 e1.symm
end Go.Proofs.YtkieljleopbhoaaDoor.Lex
