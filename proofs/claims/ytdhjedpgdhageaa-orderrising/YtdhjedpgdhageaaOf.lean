/-
  The contract of order.Of.
-/
import Derived.Test.YtdhjedpgdhageaaTa
namespace Go.Proofs.Ytdhjedpgdhageaa.Ord
open Go.ChangeShapes Go.WideShapes Go.ChangeAt Go.RowKit Go.Joins
/-- The order, as it is answered. -/
def OfE (W : World) (l : List (List Int)) (e : Ending) (w' : World) : Prop := ∃ v, e = .returned (.tuple #[v, .int .i64 (ofV l).2]) ∧ Row w' W.heap.size v (ofV l).1 ∧ Below W.heap.size W w'
theorem Row.down {W : World} {base lo : Nat} {v : Value} {l : List Int} (h : Row W base v l) (hl : lo ≤ base) : Row W lo v l := ownsRow_mono h hl
set_option maxRecDepth 100000 in
set_option maxHeartbeats 1000000 in
theorem of_at (W : World) (vl : Value) (l : List (List Int)) (h : LL W W.heap.size vl l) (hn : l.length ≤ 1048576) : Calls Try.prog 10 #[vl] W (OfE W l) := by
  have HL := hid h
  obtain ⟨ao, c, rfl, _⟩ := h
  show Calls Try.prog 10 _ W fun e w' => OfE W l e w'
  have HE : Hid (∀ e w', OfE W l e w' ↔ ∃ v, e = .returned (.tuple #[v, .int .i64 (ofV l).2]) ∧ Row w' W.heap.size v (ofV l).1 ∧ Below W.heap.size W w') := hid (fun _ _ => Iff.rfl)
  cases ht : there l with
  | false =>
    have HV : Hid (ofV l = ([], 1)) := hid (by unfold ofV; rw [if_pos ht])
    have HT := hid ht
    clear ht
    go_enter Try.func10, Try.ntmps10
    go_wp2_with (fail)
    refine (there_at W _ _ l HL.out).mono ?_
    rintro e w1 ⟨rfl, rfl⟩
    rw [HT.out]
    go_wp2_with (fail)
    go_ret2
    refine ⟨_, by rw [HV.out]; rfl, ?_, Below.refl _ _⟩
    rw [HV.out]
    exact Row.none0 _ _
  | true =>
    have HT := hid ht
    clear ht
    go_enter Try.func10, Try.ntmps10
    go_wp2_with (fail)
    refine (there_at W _ _ l HL.out).mono ?_
    rintro e w1 ⟨rfl, rfl⟩
    rw [HT.out]
    go_wp2_with (fail)
    refine (newq_at w1 _ l HL.out hn HT.out).mono ?_
    rintro e w2 ⟨base, qb, mb, lv, tv, rfl, hNQ⟩
    have HN := hid hNQ
    have hlo : w1.heap.size ≤ base := by
      obtain ⟨⟨v, xs, V, L, F, R, hQ, _⟩, _⟩ := hNQ
      exact hQ.lob.1
    clear hNQ
    go_wp2_with (fail)
    refine (tell_at w1 w2 l base qb mb lv tv HN.out hn HT.out).mono ?_
    rintro e w3 ⟨lr, rfl, hrow, hb⟩
    obtain ⟨la, lc, rfl, _⟩ := hrow.at
    have HR := hid (hrow.down hlo)
    have HB := hid hb
    clear hrow hb
    have HV : Hid (ofV l = if (ord l).length < l.length then ([], 8) else (ord l, 0)) := hid (by unfold ofV; rw [if_neg (by rw [HT.out]; simp)])
    by_cases hlt : (ord l).length < l.length
    · have hlt' : ((ord l).length : Int) < (l.length : Int) := by omega
      rw [if_pos hlt] at HV
      go_wp2_with (fail)
      go_ret2
      refine ⟨_, by rw [HV.out]; rfl, ?_, HB.out⟩
      rw [HV.out]
      exact Row.none0 _ _
    · have hlt' : ¬ ((ord l).length : Int) < (l.length : Int) := by omega
      rw [if_neg hlt] at HV
      go_wp2_with (fail)
      go_ret2
      refine ⟨_, by rw [HV.out]; rfl, ?_, HB.out⟩
      rw [HV.out]
      exact HR.out
end Go.Proofs.Ytdhjedpgdhageaa.Ord
