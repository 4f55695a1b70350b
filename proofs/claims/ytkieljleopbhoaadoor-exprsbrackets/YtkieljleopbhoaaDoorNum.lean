/-
  Numbers of digits: what Number answers, on both sides.
-/
import Derived.Test.YtkieljleopbhoaaDoorNames
import Derived.Test.YtkieljleopbhoaaDoorShelf
import Derived.Lib.ParseIntBTie
namespace Go.Proofs.YtkieljleopbhoaaDoor.Lex
open Go.RowKit
/-- What digits spell behind what others before them did, if it is no more than may be. -/
def mag (acc : Nat) : List UInt8 → Option Nat
  | [] => some acc
  | c :: r => if 9223372036854775807 < acc * 10 + (c.toNat - 48) then none else mag (acc * 10 + (c.toNat - 48)) r
theorem mag_le : ∀ (l : List UInt8) (acc v : Nat), mag acc l = some v → acc ≤ v
  | [], acc, v, h => by simp only [mag] at h; injection h with h; omega
  | c :: r, acc, v, h => by
    simp only [mag] at h
    split at h
    · cases h
    · have := mag_le r _ v h; omega
theorem parse_some : ∀ (l : List UInt8) (acc v : Nat), (∀ c ∈ l, digit c = true) → mag acc l = some v → Lib.parseUint10 acc l = .ok v
  | [], acc, v, _, h => by simp only [mag] at h; injection h with h; rw [h]; rfl
  | c :: r, acc, v, hd, h => by
    have hc := hd c (List.mem_cons_self ..)
    unfold digit at hc
    simp at hc
    simp only [mag] at h
    split at h
    · cases h
    · next hn =>
      simp only [Lib.parseUint10]
      rw [if_pos hc, if_neg (by omega), if_neg (by omega)]
      exact parse_some r _ v (fun x hx => hd x (List.mem_cons_of_mem _ hx)) h
theorem parse_ge : ∀ (l : List UInt8) (acc u : Nat), Lib.parseUint10 acc l = .ok u → acc ≤ u
  | [], acc, u, h => by simp only [Lib.parseUint10] at h; injection h with h; omega
  | c :: r, acc, u, h => by
    simp only [Lib.parseUint10] at h
    split at h
    · split at h
      · cases h
      · split at h
        · cases h
        · have := parse_ge r _ u h; omega
    · cases h
theorem nosyn : ∀ (l : List UInt8) (acc : Nat), (∀ c ∈ l, digit c = true) → (∃ u, Lib.parseUint10 acc l = .ok u) ∨ Lib.parseUint10 acc l = .range
  | [], acc, _ => .inl ⟨acc, by simp [Lib.parseUint10]⟩
  | c :: r, acc, hd => by
    have hc := hd c (List.mem_cons_self ..)
    unfold digit at hc
    simp at hc
    simp only [Lib.parseUint10]
    rw [if_pos hc]
    split
    · exact .inr rfl
    · split
      · exact .inr rfl
      · exact nosyn r _ fun x hx => hd x (List.mem_cons_of_mem _ hx)
theorem parse_none : ∀ (l : List UInt8) (acc : Nat), (∀ c ∈ l, digit c = true) → mag acc l = none → Lib.parseUint10 acc l = .range ∨ ∃ u, Lib.parseUint10 acc l = .ok u ∧ 9223372036854775808 ≤ u
  | [], acc, _, h => by simp only [mag] at h; cases h
  | c :: r, acc, hd, h => by
    have hc := hd c (List.mem_cons_self ..)
    have hr : ∀ x ∈ r, digit x = true := fun x hx => hd x (List.mem_cons_of_mem _ hx)
    unfold digit at hc
    simp at hc
    simp only [mag] at h
    simp only [Lib.parseUint10]
    rw [if_pos hc]
    split at h
    · next hn =>
      by_cases h1 : 1844674407370955162 ≤ acc
      · left; rw [if_pos h1]
      · rw [if_neg h1]
        by_cases h2 : 18446744073709551616 ≤ acc * 10 + (c.toNat - 48)
        · left; rw [if_pos h2]
        · rw [if_neg h2]
          rcases nosyn r (acc * 10 + (c.toNat - 48)) hr with ⟨u, hp⟩ | hp
          · rw [hp]; exact .inr ⟨u, rfl, by have := parse_ge r _ u hp; omega⟩
          · rw [hp]; exact .inl rfl
    · next hn =>
      rw [if_neg (by omega), if_neg (by omega)]
      exact parse_none r _ hr h
theorem mag_top : ∀ (l : List UInt8) (acc v : Nat), acc ≤ 9223372036854775807 → mag acc l = some v → v ≤ 9223372036854775807
  | [], acc, v, ha, h => by simp only [mag] at h; injection h with h; omega
  | c :: r, acc, v, ha, h => by
    simp only [mag] at h
    split at h
    · cases h
    · exact mag_top r _ v (by omega) h
theorem atoi_digits (l : List UInt8) (hn : l ≠ []) (hd : ∀ c ∈ l, digit c = true) : Lib.parseIntB 64 l = match mag 0 l with | none => .range | some v => .ok (v : Int) := by
  rw [Lib.parseIntB_64]
  cases l with
  | nil => exact (hn rfl).elim
  | cons c r =>
    have hc := hd c (List.mem_cons_self ..)
    unfold digit at hc
    simp at hc
    have hm : Lib.parseMag (c :: r) = Lib.parseUint10 0 (c :: r) := by unfold Lib.parseMag; rw [if_neg (by simp)]
    unfold Lib.atoiAll
    simp only
    rw [if_neg (by omega), hm]
    cases hg : mag 0 (c :: r) with
    | some v =>
      have hv : v < 9223372036854775808 := by
        have := mag_top (c :: r) 0 v (by omega) hg; omega
      rw [parse_some _ _ _ hd hg]
      simp only
      rw [if_neg (by omega), if_neg (by omega), if_neg (by omega)]
    | none =>
      rcases parse_none _ _ hd hg with h | ⟨u, h, hu⟩
      · rw [h]
      · rw [h]
        simp only
        rw [if_pos ⟨by omega, hu⟩]
/-- Where a whole text is a number, its bytes are digits. -/
theorem digits_of_numLen {l : List UInt8} (h0 : l ≠ []) (h : numLen l = l.length) : ∀ c ∈ l, digit c = true := by
  have hp : 0 < l.length := List.length_pos_iff.2 h0
  have hs : span digit l = l.length := by
    unfold numLen at h
    split at h
    · omega
    · exact h
  intro c hc
  obtain ⟨i, hi, rfl⟩ := List.mem_iff_getElem.1 hc
  have := span_at digit l i (by omega)
  simpa [List.getD, List.getElem?_eq_getElem hi] using this
/-- What Number answers. -/
def outE : Option Nat → Int | none => 3 | some _ => 0
def outN : Option Nat → Int | none => 0 | some v => (v : Int)
def numE (s : ByteArray) : Int := if s.size = 0 ∨ numLen s.data.toList ≠ s.size then 5 else outE (mag 0 s.data.toList)
def numN (s : ByteArray) : Int := if s.size = 0 ∨ numLen s.data.toList ≠ s.size then 0 else outN (mag 0 s.data.toList)
theorem gRange : Tryd.prog.globalNamed "strconv.ErrRange" = some 7 := by kernel_rfl
theorem varAt {w W : World} {x : Array Value} (h : w.var? Tryd.prog "strconv.ErrRange" = some x) (hb : Below w.heap.size w W) : W.var? Tryd.prog "strconv.ErrRange" = some x := by
  unfold World.var? at h ⊢
  rw [gRange] at h ⊢
  simp only [Option.bind_some] at h ⊢
  by_cases hl : 7 < w.heap.size
  · rw [hb.block 7 hl]; exact h
  · rw [Array.getElem?_eq_none (by omega)] at h; cases h
theorem list_ne {s : ByteArray} (h : ¬ s.size = 0) : s.data.toList ≠ [] := by
  intro e
  have := Lib.size_eq s
  rw [e] at this
  exact h this
theorem number (s : ByteArray) (w : World) (hs : s.size ≤ 1048576) (tp : TypeId) (p : Value) (hvar : w.var? Tryd.prog "strconv.ErrRange" = some #[.iface tp p]) : Calls Tryd.prog 81 #[.string s] w fun e w' => e = .returned (.tuple #[.int .i64 (numN s), .int .i64 (numE s)]) ∧ Below w.heap.size w w' := by
  have hw := numberLength s w
  unfold numN numE
  by_cases h0 : s.size = 0
  · have he : s.toList.isEmpty = true := empty_yes h0
    rw [if_pos (.inl h0), if_pos (.inl h0)]
    clear h0 hw
    go_enter Tryd.func81, Tryd.ntmps81
    go_wp2
    refine bodyPost_ret (results_tmp2 rfl _ _ _) rfl ?_
    exact ⟨rfl, Below.refl _ _⟩
  · have he : s.toList.isEmpty = false := empty_no h0
    by_cases hn : numLen s.data.toList = s.size
    · rw [if_neg (fun h => h.elim h0 (fun k => k hn)), if_neg (fun h => h.elim h0 (fun k => k hn))]
      have hd := digits_of_numLen (list_ne h0) (hn.trans (Lib.size_eq s))
      have ha := atoi_digits _ (list_ne h0) hd
      have hn' : ((numLen s.data.toList : Int) != (s.size : Int)) = false := by simp [hn]
      generalize numLen s.data.toList = n at hw hn'
      have hb : s.size ≤ 281474976710656 := by omega
      have hb' : s.size ≤ 9223372036854775806 := by omega
      cases hm : mag 0 s.data.toList with
      | some v =>
        rw [hm] at ha
        have e1 : outN (some v) = (v : Int) := rfl
        rw [e1]
        have hp := fun W => Tryd.strconv_ParseInt_10_at64_ok s hb' (v : Int) ha W
        generalize (v : Int) = V at hp ⊢
        clear ha hd h0 hn hb hb' hm hvar hs
        go_enter Tryd.func81, Tryd.ntmps81
        go_wp2_with (first
          | (go_at_call 53; refine hw.mono ?_; rintro e w2 ⟨rfl, hk2⟩)
          | (go_at_call 94; refine (hp w2).mono ?_; rintro e w3 ⟨rfl, h3⟩))
        refine bodyPost_ret (results_tmp2 rfl _ _ _) rfl ?_
        refine ⟨rfl, ?_⟩
        rcases h3 with h | ⟨t, h⟩
        · rw [h]; exact hk2
        · rw [h]; exact bstep hk2 (Lib.bytesWorld_below _ _ _)
      | none =>
        rw [hm] at ha
        have hp := fun W h => Tryd.strconv_ParseInt_10_at64_range_var s hb ha tp p W h
        generalize Lib.intSat 64 s.data.toList = V at hp
        have hV : ∀ W, Below w.heap.size w W → W.var? Tryd.prog "strconv.ErrRange" = some #[.iface tp p] := fun W h => varAt hvar h
        clear ha hd h0 hn hb hb' hm hvar hs
        go_enter Tryd.func81, Tryd.ntmps81
        go_wp2_with (first
          | (go_at_call 53; refine hw.mono ?_; rintro e w2 ⟨rfl, hk2⟩)
          | (go_at_call 94; refine (hp w2 (hV w2 hk2)).mono ?_; rintro e w3 ⟨N, rfl, hN, hcell, h3⟩))
        refine bodyPost_ret (results_tmp2 rfl _ _ _) rfl ?_
        exact ⟨rfl, bstep hk2 h3⟩
    · rw [if_pos (.inr hn), if_pos (.inr hn)]
      have hn' : ((numLen s.data.toList : Int) != (s.size : Int)) = true := by simp; omega
      generalize numLen s.data.toList = n at hw hn'
      clear h0 hn hvar hs
      go_enter Tryd.func81, Tryd.ntmps81
      go_wp2_with (go_at_call 53; refine hw.mono ?_; rintro e w2 ⟨rfl, hk2⟩)
      refine bodyPost_ret (results_tmp2 rfl _ _ _) rfl ?_
      exact ⟨rfl, hk2⟩
theorem wrap_in {a : Int} (h1 : -9223372036854775808 ≤ a) (h2 : a ≤ 9223372036854775807) : wrap64 a = a := by
  unfold wrap64; omega
theorem mag_step {l : List UInt8} {k a : Nat} (hk : k < l.length) : mag a (l.drop k) = if 9223372036854775807 < a * 10 + ((l.getD k 0).toNat - 48) then none else mag (a * 10 + ((l.getD k 0).toNat - 48)) (l.drop (k + 1)) := by
  rw [List.drop_eq_getElem_cons hk]
  have : l.getD k 0 = l[k] := by simp [List.getD, List.getElem?_eq_getElem hk]
  rw [this]
  rfl
end Go.Proofs.YtkieljleopbhoaaDoor.Lex
