/-
  Lists of types in memory of the call's own; numbers of types, put and got.
-/
import Derived.Test.YtmbkdalmnfcbfabDoorAll
import Derived.Test.YtmbkdalmnfcbfabDoorOpen
import Derived.OwnWalk
namespace Go.Proofs.YtmbkdalmnfcbfabDoor.Bits
open Go.ChangeShapes Go.WideShapes Go.ChangeAt Go.RowKit Go.Shelf Go.Maps
theorem info43 : (Tryd.prog.info? 43).map (fun i => (i.zero, i.size, i.bytes)) = some (some (.int .u8 0), 1, 1) := by kernel_rfl
theorem own_ge' {w : World} {base : Nat} {e : TypeId} {size : Nat} {v : Value} {n : Nat} {xs : List Value} (h : w.ownsRow base e size v n xs) : ∀ k, v.ownBlock = some k → base ≤ k := by
  intro k hk
  obtain ⟨_, h2⟩ := h
  rcases h2 with ⟨rfl, _⟩ | ⟨g, cap, cur, rfl, hg, _⟩
  · cases hk
  · cases hk; exact hg
/-- What is owned, as a slice of bytes. -/
theorem own_formT {w : World} {base : Nat} {e : TypeId} {v : Value} {n : Nat} {l : List Int} (h : w.ownsRow base e 1 v n (l.map (Value.int .u8))) (hn : n ≤ 1048576) (hb : Byte l) :
    ∃ ao cap, v = .slice ao n cap ∧ Elems w ao n l := by
  obtain ⟨h1, h2⟩ := h
  have hl : l.length = n := by simpa using h1
  rcases h2 with ⟨rfl, rfl⟩ | ⟨g, cap, cur, rfl, hg, hh, hc, hm, hs, ht⟩
  · exact ⟨none, 0, rfl, hl, hn, fun i _ => byte_getD hb i, .inl rfl⟩
  · refine ⟨_, cap, rfl, hl, hn, fun i _ => byte_getD hb i, .inr ⟨g, 0, rfl, fun i hi => ?_⟩⟩
    rw [Nat.zero_add, cell_of_row w g i cur e (0, 0) hh]
    have e : (cur.toList.take (n * 1))[i]? = some (.int .u8 (l.getD i 0)) := by rw [ht]; simp [hi, hl]
    rw [List.getElem?_take] at e
    split at e
    · simpa using e
    · cases e
/-! ### Numbers of so many bits each -/
theorem upTo_part (B : List Int) (K : Nat → Nat) (j : Nat) : upTo K (fun i => val (part B (tot K i) (K i))) j = part B 0 (tot K j) := by
  induction j with
  | zero => rfl
  | succ j ih =>
    rw [upTo, ih, bitsOf_val' _ _ (part_length _ _ _), tot, part_add, Nat.zero_add]
theorem un_si (n : Nat) (h : n < 2 ^ 64) : un (si n) = n := by
  unfold un si
  split <;> omega
theorem upTo_congr (K N M : Nat → Nat) (j : Nat) (h : ∀ i, i < j → N i = M i) : upTo K N j = upTo K M j := by
  induction j with
  | zero => rfl
  | succ j ih => rw [upTo, upTo, ih fun i hi => h i (by omega), h j (by omega)]
theorem upTo_congrK (K J N : Nat → Nat) (j : Nat) (h : ∀ i, i < j → K i = J i) : upTo K N j = upTo J N j := by
  induction j with
  | zero => rfl
  | succ j ih => rw [upTo, upTo, ih fun i hi => h i (by omega), h j (by omega)]
theorem tot_congr (K J : Nat → Nat) (j : Nat) (h : ∀ i, i < j → K i = J i) : tot K j = tot J j := by
  induction j with
  | zero => rfl
  | succ j ih => rw [tot, tot, ih fun i hi => h i (by omega), h j (by omega)]
theorem upTo_split (K N : Nat → Nat) (i j : Nat) (h : i < j) : ∃ r, upTo K N j = upTo K N i ++ bitsOf (N i) (K i) ++ r := by
  induction j with
  | zero => omega
  | succ j ih =>
    by_cases e : i = j
    · subst e; exact ⟨[], by rw [upTo, List.append_nil]⟩
    · obtain ⟨r, hr⟩ := ih (by omega)
      exact ⟨r ++ bitsOf (N j) (K j), by rw [upTo, hr, List.append_assoc]⟩
/-- What is put is got. -/
theorem part_upTo (K N : Nat → Nat) (i j : Nat) (h : i < j) : part (pack (upTo K N j)) (tot K i) (K i) = bitsOf (N i) (K i) := by
  obtain ⟨r, hr⟩ := upTo_split K N i j h
  have := part_pack (upTo K N i) (bitsOf (N i) (K i)) r
  rw [upTo_len, bitsOf_length, ← hr] at this
  exact this
/-! ### Types: so many numbers, then so many bits -/
def TT (k n : Nat) : List Int := List.replicate k 1 ++ List.replicate n 2
theorem TT_length (k n : Nat) : (TT k n).length = k + n := by simp [TT]
theorem TT_byte (k n : Nat) : Byte (TT k n) := fun z hz => by
  rcases List.mem_append.1 hz with h | h <;> rw [List.eq_of_mem_replicate h] <;> decide
theorem TT_one (k : Nat) : TT k 0 ++ [1] = TT (k + 1) 0 := by
  unfold TT; rw [List.replicate_zero, List.append_nil, List.append_nil, ← List.replicate_succ']
theorem TT_two (k n : Nat) : TT k n ++ [2] = TT k (n + 1) := by
  unfold TT; rw [List.append_assoc, ← List.replicate_succ']
theorem TT_getD (k n i : Nat) (h : i < k + n) : (TT k n).getD i 0 = if i < k then 1 else 2 := by
  unfold TT
  rw [iappend_getD, List.length_replicate]
  split
  · simp [*]
  · rw [List.getD_eq_getElem?_getD, List.getElem?_replicate, if_pos (by omega)]; rfl
theorem KT_TT (k n i : Nat) (h : i < k + n) : KT (TT k n) i = if i < k then 64 else 1 := by
  unfold KT
  rw [TT_getD k n i h]
  split <;> rfl
theorem tot_TT (k n j : Nat) (h : j ≤ k + n) : tot (KT (TT k n)) j = if j ≤ k then 64 * j else 64 * k + (j - k) := by
  induction j with
  | zero => rfl
  | succ j ih =>
    rw [tot, ih (by omega), KT_TT k n j (by omega)]
    split <;> split <;> split <;> omega
end Go.Proofs.YtmbkdalmnfcbfabDoor.Bits
