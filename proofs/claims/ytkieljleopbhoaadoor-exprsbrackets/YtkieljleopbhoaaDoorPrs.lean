/-
  The reader as a plain function of the tokens: what a part is, and how it goes on.
-/
import Derived.Test.YtkieljleopbhoaaDoorKey
namespace Go.Proofs.YtkieljleopbhoaaDoor.Lex
open Go.ChangeShapes Go.WideShapes Go.ChangeAt Go.RowKit Go.Joins
/-- What comes behind what was read. -/
def Res.go (r : Res) (f : Ex → Nat → Res) : Res := match r with | .ok (x, q) => f x q | .error e => .error e
theorem Res.go_ok (x : Ex) (q : Nat) (f : Ex → Nat → Res) : Res.go (.ok (x, q)) f = f x q := rfl
theorem Res.go_error (e : Nat × Nat) (f : Ex → Nat → Res) : Res.go (.error e) f = .error e := rfl
/-- A token that must stand there. -/
def passR (ts : List Mark) (kind : Nat) (text : ByteArray) (p : Nat) (f : Nat → Res) : Res := if isMk (markAt ts p) kind text then f (p + 1) else .error (5, p)
abbrev sgn (l : List UInt8) : ByteArray := ⟨l.toArray⟩
/-- What may stand in any place; 'part' reads what stands inside of it. -/
def atomR (ts : List Mark) (part : Nat → Nat → Res) (p : Nat) : Res :=
  let m := markAt ts p
  if isMk m 1 (sgn [116, 114, 117, 101]) then .ok (⟨2, 1, ByteArray.empty, []⟩, p + 1)
  else if isMk m 1 (sgn [102, 97, 108, 115, 101]) then .ok (⟨2, 0, ByteArray.empty, []⟩, p + 1)
  else if isMk m 3 (sgn [40]) then (part 0 (p + 1)).go fun x q => passR ts 3 (sgn [41]) q fun q => .ok (x, q)
  else if isMk m 3 (sgn [45]) then (part 6 (p + 1)).go fun x q => .ok (⟨4, 0, ByteArray.empty, [x]⟩, q)
  else if isMk m 1 (sgn [110, 111, 116]) then (part 6 (p + 1)).go fun x q => .ok (⟨5, 0, ByteArray.empty, [x]⟩, q)
  else if isMk m 1 (sgn [112, 114, 101]) then (part 6 (p + 1)).go fun x q => .ok (⟨19, 0, ByteArray.empty, [x]⟩, q)
  else if m.kind = 1 then (if isName m.text then .ok (⟨3, 0, m.text, []⟩, p + 1) else .error (5, p))
  else if m.kind = 2 then (if numE m.text = 0 then .ok (⟨1, numN m.text, ByteArray.empty, []⟩, p + 1) else .error ((numE m.text).toNat, p))
  else .error (5, p)
def choiceR (ts : List Mark) (part : Nat → Nat → Res) (p : Nat) : Res :=
  (part 0 (p + 1)).go fun x q => passR ts 1 (sgn [116, 104, 101, 110]) q fun q => (part 0 q).go fun y q => passR ts 1 (sgn [101, 108, 115, 101]) q fun q => (part 0 q).go fun z q => .ok (⟨17, 0, ByteArray.empty, [x, y, z]⟩, q)
/-- A part for a place that asks for a rank (none), or how it goes on behind what has a rank (some): so many steps at most. -/
def prs (ts : List Mark) : Nat → Nat → Option (Ex × Nat) → Nat → Res
  | 0, _, _, p => .error (0, p)
  | k + 1, asked, none, p =>
    if asked = 0 ∧ isMk (markAt ts p) 1 (sgn [105, 102]) = true then choiceR ts (fun a q => prs ts k a none q) p
    else (atomR ts (fun a q => prs ts k a none q) p).go fun x q => prs ts k asked (some (x, 7)) q
  | k + 1, asked, some (x, rank), p => match jAt (markAt ts p) with
    | none => .ok (x, p)
    | some j => if j.rank < asked ∨ rank < j.first then .ok (x, p)
      else (prs ts k j.second none (p + 1)).go fun y q => prs ts k asked (some (⟨j.op, 0, ByteArray.empty, [x, y]⟩, j.rank)) q
end Go.Proofs.YtkieljleopbhoaaDoor.Lex
