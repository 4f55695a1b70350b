/-
  Some answers that the document fixes: closed facts of the plain functions.
-/
import Derived.Test.YtkieljleopbhoaaDoorIs
import Derived.Test.YtkieljleopbhoaaDoorSameR
namespace Go.Proofs.YtkieljleopbhoaaDoor.Lex
open Go.RowKit
theorem isRes_eq (s : ByteArray) : isRes s = resL.any fun x => x.data.toList == s.data.toList := by
  unfold isRes
  simp only [ByteArray.toList_eq]
/-- A name, by its bytes alone. -/
def isNameD (s : ByteArray) : Bool := decide (0 < s.size) && (decide (s.size ≤ 40) && (decide (wordLen s.data.toList = s.size) && !resL.any fun x => x.data.toList == s.data.toList))
theorem isName_eq (s : ByteArray) : isName s = isNameD s := by unfold isName isNameD; rw [isRes_eq]
def fieldsD (op : Nat) (n : Int) (nm : ByteArray) (len : Nat) : Bool :=
  if op = 1 then decide (0 ≤ n) && (decide (nm.size = 0) && decide (len = 0))
  else if op = 2 then (decide (n = 0) || decide (n = 1)) && (decide (nm.size = 0) && decide (len = 0))
  else if op = 3 then decide (n = 0) && (isNameD nm && decide (len = 0))
  else decide (0 < parts op) && (decide (n = 0) && (decide (nm.size = 0) && decide (len = parts op)))
theorem fields_eq (op : Nat) (n : Int) (nm : ByteArray) (len : Nat) : fieldsOk op n nm len = fieldsD op n nm len := by unfold fieldsOk fieldsD; rw [isName_eq]
def szD : Nat → Nat → Ex → Option Nat
  | 0, _, _ => none
  | d + 1, most, x => if most = 0 ∨ fieldsD x.op x.n x.name x.args.length = false then none else szL (szD d) most 1 x.args
theorem szD_eq : ∀ (d : Nat), sz d = szD d
  | 0 => rfl
  | d + 1 => by
    funext most x
    rw [sz, szD, szD_eq d, fields_eq]
theorem chk_eq (x : Ex) : chk x = (szD 32 200 x).isSome := by unfold chk; rw [szD_eq]
theorem read_wr {x : Ex} {w : World} {s : Value} (h : chk x = true) (hS : St w x s) : readX (wr x) = some x := by
  obtain ⟨ts, e1, e2⟩ := back h hS
  unfold readX
  rw [e1]
  simp only
  rw [e2]
  simp [h]
abbrev nmE (c : UInt8) : Ex := ⟨3, 0, ⟨#[c]⟩, []⟩
abbrev opE (op : Nat) (l : List Ex) : Ex := ⟨op, 0, ByteArray.empty, l⟩
abbrev exA : Ex := nmE 97
abbrev exB : Ex := nmE 98
abbrev exC : Ex := nmE 99
abbrev e1X : Ex := opE 18 [exA, opE 18 [exB, exC]]
abbrev e2X : Ex := opE 7 [opE 7 [exA, exB], exC]
abbrev e3X : Ex := opE 4 [opE 4 [exA]]
abbrev e4X : Ex := opE 8 [exA, opE 6 [exB, ⟨1, 1, ByteArray.empty, []⟩]]
abbrev e5X : Ex := opE 17 [exA, exB, opE 18 [exC, exA]]
theorem chk1 : chk e1X = true := by rw [chk_eq]; decide +kernel
theorem chk2 : chk e2X = true := by rw [chk_eq]; decide +kernel
theorem chk3 : chk e3X = true := by rw [chk_eq]; decide +kernel
theorem chk4 : chk e4X = true := by rw [chk_eq]; decide +kernel
theorem chk5 : chk e5X = true := by rw [chk_eq]; decide +kernel
theorem itoa1 : Lib.itoa 1 = [49] := by rw [itoa_dig (by omega)]; decide
theorem wr1 : wr e1X = [97, 32, 45, 62, 32, 98, 32, 45, 62, 32, 99] := by decide +kernel
theorem wr2 : wr e2X = [97, 32, 45, 32, 98, 32, 45, 32, 99] := by decide +kernel
theorem wr3 : wr e3X = [45, 32, 45, 97] := by decide +kernel
theorem wr4 : wr e4X = [97, 32, 42, 32, 40, 98, 32, 43, 32, 49, 41] := by
  have h : wr ⟨1, 1, ByteArray.empty, []⟩ = [49] := by rw [wr_leaf rfl, if_pos rfl]; exact itoa1
  rw [wr_two (a := exA) (b := opE 6 [exB, ⟨1, 1, ByteArray.empty, []⟩]) rfl, wr_two (x := opE 6 [exB, ⟨1, 1, ByteArray.empty, []⟩]) (a := exB) (b := ⟨1, 1, ByteArray.empty, []⟩) rfl, h]
  decide +kernel
theorem wr5 : wr e5X = [105, 102, 32, 97, 32, 116, 104, 101, 110, 32, 98, 32, 101, 108, 115, 101, 32, 99, 32, 45, 62, 32, 97] := by decide +kernel
/-- Of one part an addition may not be; a number below nought neither. -/
theorem chkN1 : chk (opE 6 [exA]) = false := by rw [chk_eq]; decide +kernel
theorem chkN2 : chk ⟨1, -1, ByteArray.empty, []⟩ = false := by rw [chk_eq]; decide +kernel
theorem nameA (c : UInt8) (h : c = 97 ∨ c = 98 ∨ c = 99) : isName ⟨#[c]⟩ = true := by rw [isName_eq]; rcases h with rfl | rfl | rfl <;> decide +kernel
/-- a < b < c is not all read. -/
theorem noLt : readX [97, 32, 60, 32, 98, 32, 60, 32, 99] = none := by
  have ht : toks 0 [97, 32, 60, 32, 98, 32, 60, 32, 99] = .ok [⟨1, [97], 0⟩, ⟨3, [60], 2⟩, ⟨1, [98], 4⟩, ⟨3, [60], 6⟩, ⟨1, [99], 8⟩] := by
    rw [toks_some (k := 1) (n := 1) (by simp) (by decide), toks_some (k := 0) (n := 1) (by simp) (by decide), toks_some (k := 3) (n := 1) (by simp) (by decide), toks_some (k := 0) (n := 1) (by simp) (by decide), toks_some (k := 1) (n := 1) (by simp) (by decide), toks_some (k := 0) (n := 1) (by simp) (by decide), toks_some (k := 3) (n := 1) (by simp) (by decide), toks_some (k := 0) (n := 1) (by simp) (by decide), toks_some (k := 1) (n := 1) (by simp) (by decide)]
    simp [toks_nil, ahead]
  have j13 : (jR 5).op = 13 := rfl
  have ja : jAt ⟨3, sgn [60]⟩ = some (jR 5) := by rw [jAt_eq]; rfl
  let ts : List Mark := [⟨1, sgn [97]⟩, ⟨3, sgn [60]⟩, ⟨1, sgn [98]⟩, ⟨3, sgn [60]⟩, ⟨1, sgn [99]⟩]
  have hb : P ts 4 2 = .ok (exB, 3) := by
    rw [P_atom (by intro h; omega), atom_name (ts := ts) (p := 2) (nm := ⟨#[98]⟩) rfl (nameA 98 (.inr (.inl rfl))), Res.go_ok]
    exact Lp_stop (j := jR 5) ja (.inl (by decide))
  have hp : P ts 0 0 = .ok (opE 13 [exA, exB], 3) := by
    rw [P_atom (by rw [isMk_eq]; decide), atom_name (ts := ts) (p := 0) (nm := ⟨#[97]⟩) rfl (nameA 97 (.inl rfl)), Res.go_ok, Lp_go (ts := ts) (a := 0) (r := 7) (p := 0 + 1) (j := jR 5) ja (by decide) (by decide)]
    rw [show (jR 5).second = 4 from rfl, hb, Res.go_ok]
    exact Lp_stop (j := jR 5) ja (.inr (by decide))
  unfold readX
  rw [ht]
  simp only
  rw [show List.map tokM _ = ts from rfl, hp]
  simp
/-- 1 + is nothing. -/
theorem noPlus : P [⟨2, sgn [49]⟩, ⟨3, sgn [43]⟩] 0 0 = .error (5, 2) := by
  have ja : jAt ⟨3, sgn [43]⟩ = some (jR 7) := by rw [jAt_eq]; rfl
  have h2 : P [⟨2, sgn [49]⟩, ⟨3, sgn [43]⟩] 5 2 = .error (5, 2) := by
    rw [P_atom (by intro h; omega)]
    have a : ∀ k t, k ≠ 0 → isMk (markAt [⟨2, sgn [49]⟩, ⟨3, sgn [43]⟩] 2) k t = false := fun k t hk => mk_no _ _ _ (by show (0 : Nat) ≠ k; omega)
    unfold atomR
    simp only
    rw [a _ _ (by omega), a _ _ (by omega), a _ _ (by omega), a _ _ (by omega), a _ _ (by omega), a _ _ (by omega)]
    rfl
  have hn := num_dig (sgn [49]) 1 (by omega) (by decide)
  rw [P_atom (by rw [isMk_eq]; decide), atom_num (s := sgn [49]) rfl hn.2, Res.go_ok, Lp_go (ts := [⟨2, sgn [49]⟩, ⟨3, sgn [43]⟩]) (a := 0) (r := 7) (p := 0 + 1) (j := jR 7) ja (by decide) (by decide)]
  rw [show (jR 7).second = 5 from rfl, h2]
  rfl
abbrev eR : Ex := opE 6 [exA, opE 19 [opE 6 [exA, opE 19 [exB]]]]
theorem gatR : gat 6 eR 0 [] = [(⟨#[97]⟩, 0), (⟨#[97]⟩, 1), (⟨#[98]⟩, 2)] := by rfl
theorem cntR : cnt 6 eR ≤ 1099511627776 := by decide
theorem nmR : NmOk 6 eR := by
  simp [NmOk]
  decide
end Go.Proofs.YtkieljleopbhoaaDoor.Lex
