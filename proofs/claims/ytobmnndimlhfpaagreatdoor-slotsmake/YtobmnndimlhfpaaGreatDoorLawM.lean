/-
  The table that is made fits; one of a guard fits where the guard will do; the chapter's setup.
-/
import Derived.Test.YtobmnndimlhfpaaGreatDoorFits
import Derived.Test.YtobmnndimlhfpaaGreatDoorRTab
namespace Go.Proofs.YtobmnndimlhfpaaGreatDoor.Slo
open Go.ChangeShapes Go.WideShapes Go.ChangeAt Go.RowKit Go.Joins
theorem slr_row {w : World} {b : Nat} {s : Su} {r : List Int} {g : Int} (h : w.heap[b]? = some (.cells (tbA s r g).toArray 64 (0, 0))) (h8 : r.length ≤ 8) : SlR w w.heap.size (.slice (some ⟨b, 0, none⟩) r.length r.length) (tgL s r g r.length) := by
  have hlt := (Array.getElem?_eq_some_iff.1 h).1
  have key : ∀ j, j < r.length * 3 → w.cell? ⟨b, j, none⟩ = some (.int .i64 (plZ s r r.length g r.length j)) := fun j hj => by
    rw [cell_of_row _ _ _ _ 64 (0, 0) h, ← tbA_at s r g hj]
    simp
  refine ⟨_, r.length, by rw [tgL_len], by rw [tgL_len]; omega, by rw [tgL_len]; omega, .inr ⟨b, 0, rfl, hlt, fun i hi => ?_⟩⟩
  rw [tgL_len] at hi
  rw [tgL_O hi, tgL_S hi, tgL_H hi]
  have e1 : 0 + i * 3 = i * 3 := by omega
  rw [e1]
  refine ⟨?_, ?_, ?_⟩
  · rw [key _ (by omega)]
    have h1 : i * 3 / 3 = i := by omega
    have h2 : i * 3 % 3 = 0 := by omega
    simp only [plZ, h1, h2]
    rw [if_pos (by omega), if_pos hi, if_pos trivial]
  · rw [key _ (by omega)]
    have h1 : (i * 3 + 1) / 3 = i := by omega
    have h2 : (i * 3 + 1) % 3 = 1 := by omega
    simp only [plZ, h1, h2]
    rw [if_pos (by omega), if_pos hi, if_neg (by omega), if_pos trivial]
  · rw [key _ (by omega)]
    have h1 : (i * 3 + 2) / 3 = i := by omega
    have h2 : (i * 3 + 2) % 3 = 2 := by omega
    simp only [plZ, h1, h2]
    rw [if_pos (by omega), if_pos hi, if_neg (by omega), if_neg (by omega)]
theorem fit_iff {s : Su} {r : List Int} {g : Int} (hm : mayF s r = true) (hg : 0 ≤ g ∧ g ≤ 1073741824) : FitP s r (tgL s r g r.length) (RD s r g) g ↔ Fine s r g := by
  refine ⟨fun h => h.sk, fun h => ?_⟩
  obtain ⟨hs, hl, hr⟩ := mayF_iff.1 hm
  have h8 : r.length ≤ 8 := by have := (wi_iff.1 hl).2; omega
  have hR := RD_le hm hg
  have hb : ∀ k, k ≤ r.length → 0 ≤ rdN s r g k ∧ rdN s r g k ≤ 900000000000 := fun k hk => by
    have h1 := rdN_le (T := 112500000000) hs hr hg.1 (by omega) k hk
    have h2 : (k : Int) * 112500000000 ≤ 900000000000 := by omega
    omega
  refine ⟨hm, tgL_len _ _ _ _, ⟨hg.1, by omega⟩, hR, h, fun k hk => ?_, by rw [tgL_len, tgL_pv _ (Nat.le_refl _)]; exact Int.le_refl _⟩
  rw [tgL_len] at hk
  have h1 := hb k (by omega)
  have h2 := hb (k + 1) (by omega)
  have e : rdN s r g (k + 1) = rdN s r g k + g + ga r k * s.b + s.f + g := rfl
  exact ⟨by rw [tgL_O hk]; omega, by rw [tgL_S hk]; omega, by rw [tgL_H hk]; omega, by rw [tgL_pv _ (by omega), tgL_O hk]; exact Int.le_refl _, by rw [tgL_O hk, tgL_S hk]; exact Int.le_refl _, by rw [tgL_S hk, tgL_H hk, e]; exact Int.le_refl _⟩
/-- The chapter's setup and frames. -/
def sL : Su := ⟨10, 2, 5, 100, 1⟩
abbrev r4 : List Int := [100, 100, 100, 100]
abbrev r3 : List Int := [100, 100, 100]
theorem may_4 : mayF sL r4 = true := by decide
theorem may_3 : mayF sL r3 = false := by decide
theorem rd_4 (g : Int) : RD sL r4 g = 8 * g + 4020 := by
  show 0 + g + 100 * 10 + 5 + g + g + 100 * 10 + 5 + g + g + 100 * 10 + 5 + g + g + 100 * 10 + 5 + g = _
  omega
theorem sk_4 (x : Int) (h : 0 ≤ x ∧ x ≤ 1099511627776) : sk sL x = 20 + 8 * ru (100 * x) := by
  unfold sk
  rw [if_pos ⟨by decide, wi_iff.2 h⟩]
  show 4 * (5 - 2) + 8 + 8 * ru (100 * x) = _
  omega
theorem fine_28 : Fine sL r4 28 := by
  unfold Fine
  rw [rd_4, sk_4 _ (by omega)]
  unfold ru
  omega
theorem lea_28 {g : Int} (h : Lea sL r4 g) : g = 28 := by
  have h1 := h.lb 28 (by omega) (by omega) fine_28
  have h2 := h.fine
  have h3 := h.lo
  unfold Fine at h2
  rw [rd_4, sk_4 _ (by omega)] at h2
  unfold ru at h2
  omega
theorem nog_4 (h : NoG sL r4) : False := h 28 (by omega) (by omega) fine_28
theorem rd_28 : RD sL r4 28 = 4244 := by rw [rd_4]; rfl
theorem sk_0 : sk sL 0 = 20 := by decide
theorem sk_m : sk sL 1000000 = 820 := by decide
theorem fit_28 : FitP sL r4 (tgL sL r4 28 4) 4244 28 := by
  have h := (fit_iff (s := sL) (r := r4) may_4 (g := 28) (by omega)).2 fine_28
  rw [rd_28] at h
  exact h
theorem tg_1 : sO (tgL sL r4 28 4) 1 = 1061 ∧ sS (tgL sL r4 28 4) 1 = 1089 ∧ sH (tgL sL r4 28 4) 1 = 2122 := by
  rw [tgL_O (by omega), tgL_S (by omega), tgL_H (by omega)]
  exact ⟨by decide, by decide, by decide⟩
end Go.Proofs.YtobmnndimlhfpaaGreatDoor.Slo
