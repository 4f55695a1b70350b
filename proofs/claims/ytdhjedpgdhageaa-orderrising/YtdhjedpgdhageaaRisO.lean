/-
  Lists of bytes that came in.
-/
import Derived.Test.YtdhjedpgdhageaaOpn
import Derived.Test.YtdhjedpgdhageaaRisW
namespace Go.Proofs.Ytdhjedpgdhageaa.Ord
open Go.ChangeShapes Go.WideShapes Go.ChangeAt Go.RowKit Go.Joins
theorem view_bytes {H : Type} {enc : TypeId × Value → H} {W : World} {n : Nat} {c : Value} {y : DataW H × List MemPlace} (h : Trd enc W n 33 [c] y) (hw : ∀ v ∈ y.1.weights Try.prog 33, v ≤ reachBytes) : ∃ r : List Nat, RU W W.heap.size c r := by
  obtain ⟨ao, len, cap, rfl, h2, h3, h4, u, hcs, hel⟩ := view_one Try.underlying33 ce5 h hw
  rw [by5] at h4
  have each : ∀ i, ∃ z : Nat, i < len → u i = .int .u8 (z : Int) ∧ z < 256 := fun i => by
    by_cases hi : i < len
    · obtain ⟨d, m, ht, _⟩ := hel i hi
      obtain ⟨k, e, e2⟩ := DataW.trod_int Try.underlying5 ht
      simp only [List.cons.injEq, and_true] at e
      obtain ⟨z, hz, rfl⟩ := nat_c e2.2
      exact ⟨z, fun _ => ⟨e, hz⟩⟩
    · exact ⟨0, fun h => absurd h hi⟩
  obtain ⟨f, hf⟩ := Classical.axiomOfChoice each
  have hm : maxLen = 9223372036854775807 := rfl
  have hl : ((List.range len).map f).length = len := by simp
  unfold reachBytes at h4
  refine ⟨(List.range len).map f, ao, cap, by rw [hl], ⟨by omega, by omega, by omega⟩, ?_⟩
  rcases hcs with e | ⟨b, o, e, hb, hc⟩
  · exact .inl (by rw [e]; rfl)
  · refine .inr ⟨b, o, e, hb, fun i hi => ?_⟩
    rw [hl] at hi
    have : ((List.range len).map f).getD i 0 = f i := by simp [hi]
    rw [this]
    exact ⟨by rw [hc i hi, (hf i hi).1], (hf i hi).2⟩
theorem view_rows {H : Type} {enc : TypeId × Value → H} {W : World} {n : Nat} {c : Value} {y : DataW H × List MemPlace} (h : Trd enc W n 32 [c] y) (hw : ∀ v ∈ y.1.weights Try.prog 32, v ≤ reachBytes) : ∃ l : List (List Nat), LU W W.heap.size c l := by
  obtain ⟨ao, len, cap, rfl, h2, h3, h4, u, hcs, hel⟩ := view_one Try.underlying32 ce33 h hw
  rw [by33] at h4
  have each : ∀ i, ∃ r : List Nat, i < len → RU W W.heap.size (u i) r := fun i => by
    by_cases hi : i < len
    · obtain ⟨d, m, ht, hwt⟩ := hel i hi
      obtain ⟨r, hr⟩ := view_bytes ht hwt
      exact ⟨r, fun _ => hr⟩
    · exact ⟨[], fun h => absurd h hi⟩
  obtain ⟨f, hf⟩ := Classical.axiomOfChoice each
  have hm : maxLen = 9223372036854775807 := rfl
  have hl : ((List.range len).map f).length = len := by simp
  unfold reachBytes at h4
  refine ⟨(List.range len).map f, ao, cap, by rw [hl], ⟨by omega, by omega, by omega⟩, u, ?_, fun i hi => ?_⟩
  · rcases hcs with e | ⟨b, o, e, hb, hc⟩
    · exact .inl (by omega)
    · exact .inr ⟨b, o, e, hb, fun i hi => hc i (by omega)⟩
  · rw [hl] at hi
    have : ((List.range len).map f).getD i [] = f i := by simp [hi]
    rw [this]
    exact hf i hi
/-- Lists of bytes that came in, as an argument. -/
theorem viewU {H : Type} {enc : TypeId × Value → H} {W : World} {base : Nat} {v : Value} {d : DataW H} {p : List MemPlace} {ts : List TypeId} {ds : List (DataW H)} {j : Nat}
    (hv : Value.okWide Try.prog W .any base 32 v) (hd : DataW.Trod enc Try.prog W 0 (fun _ => true) true 32 v d p) (hsz : (DataW.weightsEach Try.prog ts ds).all (· ≤ reachBytes) = true) (ht : ts[j]? = some 32) (hdj : ds[j]? = some d) : ∃ l : List (List Nat), LU W W.heap.size v l := by
  obtain ⟨a, len, cap, rfl⟩ := okWide_slice Try.underlying32 hv
  obtain ⟨fuel, hf⟩ := hd
  exact view_rows (show Trd enc W fuel 32 [.slice a len cap] (d, p) from hf) (fun u hu => by
    have := List.all_eq_true.1 hsz _ (DataW.weights_mem_each ht hdj u hu)
    simpa using this)
end Go.Proofs.Ytdhjedpgdhageaa.Ord
