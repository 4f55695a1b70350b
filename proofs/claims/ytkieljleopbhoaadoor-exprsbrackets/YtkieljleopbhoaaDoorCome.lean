/-
  How far Read has come in a text.
-/
import Derived.Test.YtkieljleopbhoaaDoorRd
import Derived.WalkMore
namespace Go.Proofs.YtkieljleopbhoaaDoor.Lex
open Go.RowKit
/-- What Read hands back of a text that is not too long. -/
def Gave (w : World) (L : List UInt8) (e : Ending) (w' : World) : Prop :=
  Below w.heap.size w w' ∧ ((∃ a : Nat, toks 0 L = .error a ∧ e = .returned (.tuple #[.slice none 0 0, .int .i64 (a : Int), .int .i64 5])) ∨
    ∃ ts v, toks 0 L = .ok ts ∧ e = .returned (.tuple #[v, .int .i64 0, .int .i64 0]) ∧ w'.ownsRow w.heap.size 45 3 v ts.length (toksV ts))
theorem bytes_drop (s : ByteArray) (i : Nat) : (s.extract i s.size).data.toList = s.data.toList.drop i := by
  have := Lib.size_eq s
  simp [ByteArray.data_extract]
  exact List.take_of_length_le (by simp [← this])
theorem bytes_part (s : ByteArray) (i n : Nat) : (s.extract i (i + n)) = ⟨((s.data.toList.drop i).take n).toArray⟩ := by
  apply ByteArray.ext
  apply Array.toList_inj.1
  simp [ByteArray.data_extract]
def lenK : Nat → List UInt8 → Nat
  | 0, l => silLen l
  | 1, l => wordLen l
  | 2, l => numLen l
  | _, l => signLen l
theorem step_at {l : List UInt8} {k : Nat} (hk : k < 4) (h : ∀ j, j < k → lenK j l = 0) (hn : lenK k l ≠ 0) : step l = some (k, lenK k l) := by
  have h0 := h 0
  have h1 := h 1
  have h2 := h 2
  simp only [lenK] at h0 h1 h2
  unfold step
  obtain rfl | rfl | rfl | rfl : k = 0 ∨ k = 1 ∨ k = 2 ∨ k = 3 := by omega
  · simp only [lenK] at hn ⊢; simp [hn]
  · simp only [lenK] at hn ⊢; simp [hn, h0]
  · simp only [lenK] at hn ⊢; simp [hn, h0, h1]
  · simp only [lenK] at hn ⊢; simp [hn, h0, h1, h2]
theorem step_zero {l : List UInt8} (h : ∀ j, j < 4 → lenK j l = 0) : step l = none := by
  have h0 := h 0
  have h1 := h 1
  have h2 := h 2
  have h3 := h 3
  simp only [lenK] at h0 h1 h2 h3
  unfold step
  simp [h0, h1, h2, h3]
theorem ahead_nil (r : Except Nat (List Tok)) : ahead [] r = r := by cases r <;> rfl
/-- How far Read has come. -/
structure Come (L : List UInt8) (pos next : Nat) (ts : List Tok) : Prop where
  so : toks 0 L = ahead ts (toks next (L.drop next))
  edge : pos = next ∨ next = L.length ∨ (L.getD next 0).toNat < 128 ∨ (L.getD (next - 1) 0).toNat < 128
  few : ts.length ≤ next
theorem Come.start (L : List UInt8) : Come L 0 0 [] := ⟨by rw [ahead_nil, List.drop_zero], .inl rfl, Nat.le_refl _⟩
/-- A rune within what is gone by ends within it. -/
theorem Come.skip {s : ByteArray} {pos next : Nat} {ts : List Tok} (h : Come s.data.toList pos next ts) (hlt : pos < next) (hle : next ≤ s.size) :
    pos + (Utf8.decode s pos).2 ≤ next ∧ Come s.data.toList (pos + (Utf8.decode s pos).2) next ts := by
  have hp : pos < s.size := by omega
  have hg := getD_get s pos hp
  have key : pos + (Utf8.decode s pos).2 ≤ next := by
    by_cases hc : (s[pos]'hp).toNat < 128
    · rw [decode_ascii s pos hp hc]; show pos + 1 ≤ next; omega
    · have hc' : 128 ≤ (s.data.toList.getD pos 0).toNat := by rw [hg]; omega
      have hr := fun i hi hl => decode_range s pos i hp hc' hi hl
      by_cases hk : pos + (Utf8.decode s pos).2 ≤ next
      · exact hk
      · exfalso
        have h1 := hr next (by omega) (by omega)
        have h2 := hr (next - 1) (by omega) (by omega)
        rcases h.edge with e | e | e | e
        · omega
        · rw [← Lib.size_eq] at e; omega
        · omega
        · omega
  exact ⟨key, h.so, .inr (h.edge.resolve_left (by omega)), h.few⟩
/-- A step. -/
theorem Come.go {s : ByteArray} {pos : Nat} {ts : List Tok} (h : Come s.data.toList pos pos ts) (hp : pos < s.size) {k n : Nat} (hs : step (s.data.toList.drop pos) = some (k, n)) :
    pos + (Utf8.decode s pos).2 ≤ pos + n ∧ pos + n ≤ s.size ∧ 1 ≤ n ∧ Come s.data.toList (pos + (Utf8.decode s pos).2) (pos + n) (ts ++ if k = 0 then [] else [⟨k, (s.data.toList.drop pos).take n, pos⟩]) := by
  have hL : s.data.toList.length = s.size := (Lib.size_eq s).symm
  obtain ⟨h1, h2, h3⟩ := step_le hs
  rw [List.length_drop, hL] at h2
  have hg := getD_get s pos hp
  have hlow : (s[pos]'hp).toNat < 128 := by
    by_cases hc : (s[pos]'hp).toNat < 128
    · exact hc
    · have := step_high (l := s.data.toList.drop pos) (by rw [drop_getD, Nat.add_zero, hg]; omega)
      rw [this] at hs
      cases hs
  have hd : (Utf8.decode s pos).2 = 1 := by rw [decode_ascii s pos hp hlow]
  refine ⟨by omega, by omega, h1, ?_, ?_, ?_⟩
  · rw [h.so, toks_some (fun e => by have := congrArg List.length e; simp [hL] at this; omega) hs, ahead_app, List.drop_drop]
  · have he := step_end hs
    rw [drop_getD, drop_getD, List.length_drop, hL] at he
    right
    rcases he with e | e | e
    · left; omega
    · exact .inr (.inl e)
    · refine .inr (.inr ?_)
      rw [show pos + n - 1 = pos + (n - 1) by omega]
      exact e
  · have := h.few
    rw [List.length_append]
    split
    · simp; omega
    · simp; omega
theorem Come.stop {s : ByteArray} {pos : Nat} {ts : List Tok} (h : Come s.data.toList pos pos ts) (hp : pos < s.size) (hs : step (s.data.toList.drop pos) = none) : toks 0 s.data.toList = .error pos := by
  have hL : s.data.toList.length = s.size := (Lib.size_eq s).symm
  rw [h.so, toks_none (fun e => by have := congrArg List.length e; simp [hL] at this; omega) hs]
  rfl
theorem Come.done {s : ByteArray} {pos : Nat} {ts : List Tok} (h : Come s.data.toList pos s.size ts) : toks 0 s.data.toList = .ok ts := by
  have hL : s.data.toList.length = s.size := (Lib.size_eq s).symm
  rw [h.so, List.drop_eq_nil_of_le (by omega), toks_nil]
  simp [ahead]
theorem len_index_0 (w : World) : (Instr.index 64 (.agg lenF) (.int .i64 0)).run Tryd.prog w = .ok (.func (.func 51) #[] #[]) w := by kernel_rfl
theorem len_index_1 (w : World) : (Instr.index 64 (.agg lenF) (.int .i64 1)).run Tryd.prog w = .ok (.func (.func 52) #[] #[]) w := by kernel_rfl
theorem len_index_2 (w : World) : (Instr.index 64 (.agg lenF) (.int .i64 2)).run Tryd.prog w = .ok (.func (.func 53) #[] #[]) w := by kernel_rfl
theorem len_index_3 (w : World) : (Instr.index 64 (.agg lenF) (.int .i64 3)).run Tryd.prog w = .ok (.func (.func 54) #[] #[]) w := by kernel_rfl
theorem info32' : (Tryd.prog.info? 45).map (fun i => (i.zero, i.size, i.bytes)) = some (some (.agg #[.int .u8 0, .string ByteArray.empty, .int .i64 0]), 3, 32) := by kernel_rfl
end Go.Proofs.YtkieljleopbhoaaDoor.Lex
