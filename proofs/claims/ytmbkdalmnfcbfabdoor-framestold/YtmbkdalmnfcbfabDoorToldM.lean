/-
  Values by numbers and by yes and no; what is put of them and got; the noughts behind; how a []int64 and a []bool that came in are opened.
-/
import Derived.Test.YtmbkdalmnfcbfabDoorSv
import Derived.Lib.OwnKind
namespace Go.Proofs.YtmbkdalmnfcbfabDoor.Bits
open Go.ChangeShapes Go.WideShapes Go.ChangeAt Go.RowKit Go.Shelf Go.Maps
theorem and1 (z : Int) : bits .and .i64 z 1 = z % 2 := by
  have h : (BitVec.ofInt 64 z &&& BitVec.ofInt 64 1).toNat = (BitVec.ofInt 64 z).toNat % 2 := by
    rw [BitVec.toNat_and]
    exact Nat.and_one_is_mod _
  show IntKind.i64.wrap (((BitVec.ofInt 64 z &&& BitVec.ofInt 64 1).toNat : Nat) : Int) = z % 2
  rw [h, BitVec.toNat_ofInt, IntKind.wrap_i64]
  omega
/-- The value of a number and whether it is one. -/
def Zv (L : List Int) (O : List Bool) (i : Nat) : Int := if O.getD i false then L.getD i 0 else L.getD i 0 % 2
def Tn (O : List Bool) (i : Nat) : Nat := if O.getD i false then 1 else 2
def Kn (O : List Bool) (i : Nat) : Nat := if O.getD i false then 64 else 1
def Tl (O : List Bool) (j : Nat) : List Int := (List.range j).map fun i => (Tn O i : Int)
def flat (L : List Int) (O : List Bool) (j : Nat) : List Value := (List.range j).flatMap fun i => [.int .u8 (Tn O i : Int), .int .i64 (Zv L O i)]
theorem Tl_succ (O : List Bool) (j : Nat) : Tl O (j + 1) = Tl O j ++ [(Tn O j : Int)] := by simp [Tl, List.range_succ]
theorem flat_succ (L : List Int) (O : List Bool) (j : Nat) : flat L O (j + 1) = flat L O j ++ [.int .u8 (Tn O j : Int), .int .i64 (Zv L O j)] := by simp [flat, List.range_succ]
theorem Tl_length (O : List Bool) (j : Nat) : (Tl O j).length = j := by simp [Tl]
theorem Tl_getD (O : List Bool) (j i : Nat) (h : i < j) : (Tl O j).getD i 0 = (Tn O i : Int) := by simp [Tl, h]
theorem Tn_lt (O : List Bool) (i : Nat) : Tn O i < 256 := by unfold Tn; split <;> decide
theorem Tl_byte (O : List Bool) (j : Nat) : Byte (Tl O j) := fun z hz => by
  obtain ⟨i, _, rfl⟩ := List.mem_map.1 hz
  have := Tn_lt O i
  omega
theorem wide_Tn (O : List Bool) (i : Nat) : wide (Tn O i) = Kn O i := by unfold Tn Kn; split <;> rfl
theorem KT_Tl (O : List Bool) (j i : Nat) (h : i < j) : KT (Tl O j) i = Kn O i := by
  unfold KT; rw [Tl_getD O j i h, Int.toNat_natCast, wide_Tn]
theorem Kn_le (O : List Bool) (i : Nat) : Kn O i ≤ 64 := by unfold Kn; split <;> omega
theorem Kn_pos (O : List Bool) (i : Nat) : 0 < Kn O i := by unfold Kn; split <;> decide
theorem flat_length (L : List Int) (O : List Bool) (j : Nat) : (flat L O j).length = j * 2 := by
  induction j with
  | zero => rfl
  | succ j ih => rw [flat_succ, List.length_append, ih]; simp; omega
theorem flat_at (L : List Int) (O : List Bool) (j i : Nat) (h : i < j) : (flat L O j)[i * 2]? = some (.int .u8 (Tn O i : Int)) ∧ (flat L O j)[i * 2 + 1]? = some (.int .i64 (Zv L O i)) := by
  induction j with
  | zero => omega
  | succ j ih =>
    rw [flat_succ]
    have hl := flat_length L O j
    by_cases e : i = j
    · subst e
      rw [List.getElem?_append_right (by omega), List.getElem?_append_right (by omega), hl, Nat.sub_self, show i * 2 + 1 - i * 2 = 1 by omega]
      exact ⟨rfl, rfl⟩
    · rw [List.getElem?_append_left (by omega), List.getElem?_append_left (by omega)]
      exact ih (by omega)
/-- The values in memory of the call's own. -/
theorem own_vals {w : World} {base : Nat} {v : Value} {n : Nat} {L : List Int} {O : List Bool} (h : w.ownsRow base 45 2 v n (flat L O n)) (hn : n ≤ 1048576) :
    ∃ ao cap, v = .slice ao n cap ∧ Vals w ao n (Tn O) (Zv L O) := by
  obtain ⟨h1, h2⟩ := h
  rcases h2 with ⟨rfl, rfl⟩ | ⟨g, cap, cur, rfl, hg, hh, hc, hm, hs, ht⟩
  · exact ⟨none, 0, rfl, hn, fun i _ => Tn_lt O i, .inl rfl⟩
  · refine ⟨_, cap, rfl, hn, fun i _ => Tn_lt O i, .inr ⟨g, 0, rfl, fun i hi => ?_⟩⟩
    obtain ⟨f1, f2⟩ := flat_at L O n i hi
    rw [← ht, List.getElem?_take, if_pos (by omega)] at f1 f2
    rw [Nat.zero_add, cell_of_row w g _ cur 45 (0, 0) hh, cell_of_row w g _ cur 45 (0, 0) hh]
    exact ⟨by simpa using f1, by simpa using f2⟩
theorem own_apart {w : World} {base base' : Nat} {e e' : TypeId} {s s' : Nat} {v v' : Value} {n n' : Nat} {xs xs' : List Value} (h : w.ownsRow base e s v n xs) (h' : w.ownsRow base' e' s' v' n' xs') (hne : e ≠ e') : v.ownBlock = none ∨ v.ownBlock ≠ v'.ownBlock := by
  cases hv : v.ownBlock with
  | none => exact .inl rfl
  | some g =>
    refine .inr fun heq => ?_
    obtain ⟨c, fz, h1⟩ := Lib.ownsRow_kind h g hv
    obtain ⟨c', fz', h2⟩ := Lib.ownsRow_kind h' g heq.symm
    rw [h1] at h2
    cases h2
    exact hne rfl
/-- A number of 64 bits, as it is put and got. -/
theorem si_un {z : Int} (h : (Lit.int .i64 z).wf = true) : si (un z) = z := by
  simp [Lit.wf, IntKind.min, IntKind.max, IntKind.signed, IntKind.bits] at h
  unfold si un
  split <;> omega
theorem Zv_wf {L : List Int} {O : List Bool} {i : Nat} (h : (Lit.int .i64 (L.getD i 0)).wf = true) : (Lit.int .i64 (Zv L O i)).wf = true := by
  unfold Zv
  split
  · exact h
  · simp [Lit.wf, IntKind.min, IntKind.max, IntKind.signed, IntKind.bits]; omega
theorem un_Zv (L : List Int) (O : List Bool) (i : Nat) : un (Zv L O i) < 2 ^ Kn O i := by
  unfold Zv Kn
  split
  · exact un_lt _
  · unfold un; omega
/-- The bytes that values are put as. -/
def PB (L : List Int) (O : List Bool) (n : Nat) : List Int := pack (upTo (Kn O) (fun i => un (Zv L O i)) n)
theorem PB_length (L : List Int) (O : List Bool) (n : Nat) : (PB L O n).length = (tot (Kn O) n + 7) / 8 := by unfold PB; rw [pack_length, upTo_len]
theorem PB_byte (L : List Int) (O : List Bool) (n : Nat) : Byte (PB L O n) := pack_byte _
theorem tot_Tl (O : List Bool) (n j : Nat) (h : j ≤ n) : tot (KT (Tl O n)) j = tot (Kn O) j := tot_congr _ _ _ fun i hi => KT_Tl O n i (by omega)
theorem XT_PB (L : List Int) (O : List Bool) (n i : Nat) (h : i < n) (hw : (Lit.int .i64 (L.getD i 0)).wf = true) : XT (PB L O n) (Tl O n) i = Zv L O i := by
  unfold XT PB
  rw [tot_Tl O n i (by omega), KT_Tl O n i h, part_upTo _ _ i n h, val_bitsOf, Nat.mod_eq_of_lt (un_Zv L O i), si_un (Zv_wf hw)]
theorem bit_behind (L : List Int) (O : List Bool) (n i : Nat) (h : tot (Kn O) n ≤ i) : bitAt (PB L O n) i = false := by
  unfold PB
  rw [bitAt_pack, List.getD_eq_getElem?_getD, List.getElem?_eq_none (by rw [upTo_len]; exact h)]
  rfl
theorem val_falses (l : List Bool) (h : ∀ b ∈ l, b = false) : val l = 0 := by
  induction l using snocInd with
  | h0 => rfl
  | h1 l b ih =>
    rw [val_snoc, ih fun x hx => h x (by simp [hx]), h b (by simp)]; rfl
theorem behind_zero (L : List Int) (O : List Bool) (n k : Nat) : val (part (PB L O n) (tot (Kn O) n) k) = 0 := by
  refine val_falses _ fun b hb => ?_
  unfold part at hb
  obtain ⟨i, _, rfl⟩ := List.mem_map.1 hb
  exact bit_behind L O n _ (by omega)
/-- With the last bit changed there is a bit behind. -/
theorem behind_odd (L : List Int) (O : List Bool) (n m : Nat) (hm : tot (Kn O) n = m) (h8 : m % 8 ≠ 0) :
    val (part ((PB L O n).set ((m + 7) / 8 - 1) (bits .xor .u8 ((PB L O n).getD ((m + 7) / 8 - 1) 0) 1)) m (8 * ((m + 7) / 8) - m)) ≠ 0 := by
  have hl := PB_length L O n
  rw [hm] at hl
  obtain ⟨r, hr⟩ : ∃ r, 8 * ((m + 7) / 8) - m = r + 1 := ⟨8 * ((m + 7) / 8) - m - 1, by omega⟩
  rw [hr, part_succ, val_snoc]
  have hb : bitAt (PB L O n) (8 * ((m + 7) / 8 - 1) + 7) = false := bit_behind L O n _ (by omega)
  have hz := byte_getD (PB_byte L O n) ((m + 7) / 8 - 1)
  generalize hq : (m + 7) / 8 - 1 = q at *
  have e : m + r = 8 * q + 7 := by omega
  have hset : ((PB L O n).set q (bits .xor .u8 ((PB L O n).getD q 0) 1)).getD q 0 = bits .xor .u8 ((PB L O n).getD q 0) 1 := by
    rw [List.getD_eq_getElem?_getD, List.getElem?_set_self (by omega)]; rfl
  rw [e]
  unfold bitAt at hb ⊢
  rw [show (8 * q + 7) / 8 = q by omega, show 7 - (8 * q + 7) % 8 = 0 by omega] at hb ⊢
  rw [hset]
  obtain ⟨A, hA⟩ := Int.eq_ofNat_of_zero_le hz.1
  rw [hA] at hb hz ⊢
  have hx := u8_xor_nat A 1 (by omega) (by omega)
  have hx' : bits .xor .u8 (A : Int) 1 = ((A ^^^ 1 : Nat) : Int) := hx
  rw [hx', Int.toNat_natCast]
  rw [Int.toNat_natCast] at hb
  have : (A ^^^ 1).testBit 0 = true := by rw [Nat.testBit_xor, hb]; rfl
  rw [this]
  simp
/-! ### What came in -/
def CameQ (w : World) (a : Option Addr) (len : Nat) (l : List Int) : Prop :=
  l.length = len ∧ (∀ i, i < len → (Lit.int .i64 (l.getD i 0)).wf = true) ∧ (len = 0 ∨ ∃ b o, a = some ⟨b, o, none⟩ ∧ ∀ i, i < len → w.cell? ⟨b, o + i, none⟩ = some (.int .i64 (l.getD i 0)))
def CameO (w : World) (a : Option Addr) (len : Nat) (l : List Bool) : Prop :=
  l.length = len ∧ (len = 0 ∨ ∃ b o, a = some ⟨b, o, none⟩ ∧ ∀ i, i < len → w.cell? ⟨b, o + i, none⟩ = some (.bool (l.getD i false)))
theorem CameQ.below {w w' : World} {a : Option Addr} {len : Nat} {l : List Int} (h : CameQ w a len l) (hb : Below w.heap.size w w') : CameQ w' a len l := by
  refine ⟨h.1, h.2.1, h.2.2.imp id ?_⟩
  rintro ⟨b, o, ha, hc⟩
  exact ⟨b, o, ha, fun i hi => (hb.cell (World.block_lt_of_cell? w _ (hc i hi))).trans (hc i hi)⟩
theorem CameO.below {w w' : World} {a : Option Addr} {len : Nat} {l : List Bool} (h : CameO w a len l) (hb : Below w.heap.size w w') : CameO w' a len l := by
  refine ⟨h.1, h.2.imp id ?_⟩
  rintro ⟨b, o, ha, hc⟩
  exact ⟨b, o, ha, fun i hi => (hb.cell (World.block_lt_of_cell? w _ (hc i hi))).trans (hc i hi)⟩
theorem cells2 : Tryd.prog.cellsOf 2 = 1 := by kernel_rfl
theorem cells4 : Tryd.prog.cellsOf 4 = 1 := by kernel_rfl
theorem viewq {H : Type} {enc : TypeId × Value → H} {W : World} {a0 : Option Addr} {len cap fuel : Nat} {d : DataW H} {p : List MemPlace} {ts : List TypeId} {ds : List (DataW H)} {j : Nat}
    (hf : DataW.trod enc Tryd.prog W 0 (fun _ => true) true fuel 39 [.slice a0 len cap] = some (d, p))
    (_hsz : (DataW.weightsEach Tryd.prog ts ds).all (· ≤ reachBytes) = true) (_ht : ts[j]? = some 39) (_hj : ds[j]? = some d) : ∃ l, CameQ W a0 len l ∧ len ≤ cap := by
  rcases open_ints Tryd.underlying39 Tryd.underlying2 cells2 hf with ⟨hcs, hx⟩ | ⟨a, len', cap', zs, hcs, _, hl, hm, hz, hx, hcell, hwz⟩
  · simp at hcs
    obtain ⟨rfl, rfl, rfl⟩ := hcs
    exact ⟨[], ⟨rfl, fun i hi => by omega, .inl rfl⟩, Nat.le_refl _⟩
  · simp at hcs
    obtain ⟨rfl, rfl, rfl⟩ := hcs
    simp only [if_true] at hz
    have hg : ∀ i, i < len → (zs.take len).getD i 0 = zs.getD i 0 := fun i hi => by simp [List.getD, hi]
    refine ⟨zs.take len, ⟨by simp; omega, fun i hi => ?_, ?_⟩, hl⟩
    · rw [hg i hi]
      exact hwz _ (getD_mem' zs i (by omega))
    · by_cases h0 : len = 0
      · exact .inl h0
      · obtain ⟨b, o, sp⟩ := a
        have hsp : sp = none := by simpa [Addr.add] using World.cell?_spot (hcell 0 (by omega))
        subst hsp
        refine .inr ⟨b, o, rfl, fun i hi => ?_⟩
        rw [hg i hi, ← Addr.add_mid]
        exact hcell i (by omega)
theorem viewo {H : Type} {enc : TypeId × Value → H} {W : World} {a0 : Option Addr} {len cap fuel : Nat} {d : DataW H} {p : List MemPlace} {ts : List TypeId} {ds : List (DataW H)} {j : Nat}
    (hf : DataW.trod enc Tryd.prog W 0 (fun _ => true) true fuel 40 [.slice a0 len cap] = some (d, p))
    (_hsz : (DataW.weightsEach Tryd.prog ts ds).all (· ≤ reachBytes) = true) (_ht : ts[j]? = some 40) (_hj : ds[j]? = some d) : ∃ l, CameO W a0 len l ∧ len ≤ cap := by
  rcases Deep.open_bools Tryd.underlying40 Tryd.underlying4 cells4 hf with ⟨hcs, hx⟩ | ⟨a, len', cap', B, hcs, _, hl, hm, hx, hcell⟩
  · simp at hcs
    obtain ⟨rfl, rfl, rfl⟩ := hcs
    exact ⟨[], ⟨rfl, .inl rfl⟩, Nat.le_refl _⟩
  · simp at hcs
    obtain ⟨rfl, rfl, rfl⟩ := hcs
    refine ⟨(List.range len).map B, ⟨by simp, ?_⟩, hl⟩
    by_cases h0 : len = 0
    · exact .inl h0
    · obtain ⟨b, o, sp⟩ := a
      have hsp : sp = none := by simpa [Addr.add] using World.cell?_spot (hcell 0 (by omega))
      subst hsp
      refine .inr ⟨b, o, rfl, fun i hi => ?_⟩
      rw [← Addr.add_mid, hcell i (by omega)]
      simp [hi]
end Go.Proofs.YtmbkdalmnfcbfabDoor.Bits
