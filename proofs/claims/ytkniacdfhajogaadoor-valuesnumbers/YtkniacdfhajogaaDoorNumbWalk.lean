/-
  The walk of the law ValuesNumbers.
-/
import Derived.Test.YtkniacdfhajogaaDoorNumbZ
import Derived.Test.YtkniacdfhajogaaDoorNumbR0
import Derived.Test.YtkniacdfhajogaaDoorNumbPM
import Derived.Test.YtkniacdfhajogaaDoorNumbPN
import Derived.Test.YtkniacdfhajogaaDoorNumbPP
import Derived.Test.YtkniacdfhajogaaDoorNumbNN
import Derived.Test.YtkniacdfhajogaaDoorNumbNP
namespace Go.Proofs.YtkniacdfhajogaaDoor.Val
open Go.ChangeShapes Go.WideShapes Go.ChangeAt Go.RowKit Go.Joins
theorem nE4 (a b : Int) (ha : -9223372036854775808 ≤ a ∧ a ≤ 9223372036854775807) : doE 7 [numV (wr (a + b)), numV b] = numV a := (show doE 7 [numV (wr (a + b)), numV b] = numV (wr (wr (a + b) - b)) from rfl).trans (congrArg numV (by unfold wr wrap64; omega))
theorem nE6 (a b : Int) (ha : -9223372036854775808 ≤ a ∧ a ≤ 9223372036854775807) : doE 6 [numV (wr (a - b)), numV b] = numV a := (show doE 6 [numV (wr (a - b)), numV b] = numV (wr (wr (a - b) + b)) from rfl).trans (congrArg numV (by unfold wr wrap64; omega))
theorem nE7 (a : Int) : doE 7 [numV 0, numV a] = numV (wr (-a)) := (show doE 7 [numV 0, numV a] = numV (wr (0 - a)) from rfl).trans (congrArg numV (by rw [Int.zero_sub]))
theorem nE9 (a : Int) : doE 8 [numV a, numV (-1)] = numV (wr (-a)) := (show doE 8 [numV a, numV (-1)] = numV (wr (a * (-1))) from rfl).trans (congrArg numV (by rw [Int.mul_neg, Int.mul_one]))
theorem nE11 (a b : Int) (ha : -9223372036854775808 ≤ a ∧ a ≤ 9223372036854775807) (h : b ≠ 0) : doE 6 [numV (wr (quoV a b * b)), numV (remV a b)] = numV a := (show doE 6 [numV (wr (quoV a b * b)), numV (remV a b)] = numV (wr (wr (quoV a b * b) + remV a b)) from rfl).trans (congrArg numV (back a b ha h))
theorem walk4 (a b : Int) (w : World) (ha : -9223372036854775808 ≤ a ∧ a ≤ 9223372036854775807) (hb : -9223372036854775808 ≤ b ∧ b ≤ 9223372036854775807) (hT : TabP w) : Calls Tryd.prog 4 #[.int .i64 a, .int .i64 b] w fun e w' => e = .returned (.bool true) ∧ Below w.heap.size w w' := by
  by_cases h0 : b = 0
  · subst h0
    exact walk4z a (wr (a + 0)) (wr (a - 0)) (wr (-a)) w rfl rfl rfl (nE4 a 0 ha) rfl (nE6 a 0 ha) (nE7 a) rfl (nE9 a) hT
  have hn := near_rem a b h0
  have e11 := nE11 a b ha h0
  have e3 : doE 10 [numV a, numV b] = numV (remV a b) := rfl
  have e2 : doE 9 [numV a, numV b] = numV (quoV a b) := rfl
  have e10 : doE 8 [numV (quoV a b), numV b] = numV (wr (quoV a b * b)) := rfl
  unfold NearP at hn
  generalize remV a b = rv at *
  generalize wr (quoV a b * b) = pv at *
  generalize quoV a b = qv at *
  by_cases r0 : rv = 0
  · subst r0
    exact walk4r0 a (wr (a + b)) (wr (a - b)) (wr (-a)) b qv pv w h0 rfl e2 e3 (nE4 a b ha) rfl (nE6 a b ha) (nE7 a) rfl (nE9 a) e10 e11 hT
  by_cases r1 : 0 < rv
  · obtain ⟨a1, h2, h3⟩ := hn.1 r1
    by_cases b1 : b < 0
    · by_cases bm : b = -9223372036854775808
      · subst bm
        exact walk4pm a (wr (a + (-9223372036854775808))) (wr (a - (-9223372036854775808))) (wr (-a)) qv rv pv w r1 a1 rfl e2 e3 (nE4 a _ ha) rfl (nE6 a _ ha) (nE7 a) rfl (nE9 a) e10 e11 hT
      · exact walk4pn a (wr (a + b)) (wr (a - b)) (wr (-a)) b qv rv pv w r1 a1 b1 bm hb.1 (h2 b1) rfl e2 e3 (nE4 a b ha) rfl (nE6 a b ha) (nE7 a) rfl (nE9 a) e10 e11 hT
    · exact walk4pp a (wr (a + b)) (wr (a - b)) (wr (-a)) b qv rv pv w r1 a1 (by omega) (h3 (by omega)) rfl e2 e3 (nE4 a b ha) rfl (nE6 a b ha) (nE7 a) rfl (nE9 a) e10 e11 hT
  · obtain ⟨a1, h2, h3⟩ := hn.2 (by omega)
    by_cases b1 : b < 0
    · exact walk4nn a (wr (a + b)) (wr (a - b)) (wr (-a)) b qv rv pv w (by omega) a1 b1 (h3 b1) rfl e2 e3 (nE4 a b ha) rfl (nE6 a b ha) (nE7 a) rfl (nE9 a) e10 e11 hT
    · exact walk4np a (wr (a + b)) (wr (a - b)) (wr (-a)) b qv rv pv w (by omega) a1 (by omega) hb.2 (h2 (by omega)) rfl e2 e3 (nE4 a b ha) rfl (nE6 a b ha) (nE7 a) rfl (nE9 a) e10 e11 hT
end Go.Proofs.YtkniacdfhajogaaDoor.Val
