/-
  How one list of bytes is put behind another one in new memory; contracts with their answers told otherwise.
-/
import Derived.Test.YtbndgdahokldeaaFrom
import Derived.Laws.AppendOwnNone
namespace Go.Proofs.Ytbndgdahokldeaa.Crc
open Go.ChangeShapes Go.WideShapes Go.ChangeAt Go.RowKit
/-- 'append(dst, src...)', dst nil or the call's own, src nil or not. -/
theorem wpList_append_src {P : Program} {w : World} {ops : Array Oper} {rest : List Oper} {o : Oper} {a : Act} {Q : Exit → Act → World → Prop} (hgd : o.guard = none) (s x : Operand) (t : TypeId)
    (ho : o.op = .call { callee := .builtin .append, args := #[s, x], argTypes := #[t, t] })
    (base : Nat) (e : TypeId) (i : TypeInfo) (z : Value) (size bytes : Nat) (ht : P.underlying t = some (.slice e)) (hi : P.info? e = some i) (hz : i.zero = some z)
    (hsize : i.size = size) (hby : i.bytes = bytes) (hzs : z.cells.size = size) (hsz : 0 < size)
    (v : Value) (n : Nat) (xs : List Value) (hs : a.eval s = v) (hown : w.ownsRow base e size v n xs)
    (ao : Option Addr) (m c : Nat) (news : List Value) (hx : a.eval x = .slice ao m c) (hnone : ao = none → m = 0 ∧ c = 0) (hl : news.length = m * size)
    (hnews : ∀ ad, ao = some ad → ∀ j u, news[j]? = some u → w.cell? (ad.add j) = some u) (h1 : ∀ u ∈ news, u.oneCell' = true)
    (h63 : n + m ≤ maxLen) (hbytes : (n + m) * bytes ≤ 140737488355328) (hbase : base ≤ w.heap.size)
    (h : ∀ v' w', w'.ownsRow base e size v' (n + m) (xs ++ news) → w.grownBy w' v.ownBlock → wpList P ops Q rest (a.put o.dst v') w') : wpList P ops Q (o :: rest) a w := by
  cases ao with
  | some ad => exact wpList_append_own w hgd s x t ho base e i z size bytes ht hi hz hsize hby hzs hsz v n xs hs hown ad m c news hx hl (hnews ad rfl) h1 h63 hbytes hbase fun v' w' h2 h3 _ => h v' w' h2 h3
  | none =>
    obtain ⟨rfl, rfl⟩ := hnone rfl
    have hn : news = [] := List.eq_nil_of_length_eq_zero (by simpa using hl)
    subst hn
    refine wpList_append_own_none hgd s x t ho base e i size ht hi v n xs hs hown hx (h v w (by simpa using hown) ⟨rfl, rfl, rfl, Nat.le_refl _, fun _ _ _ => rfl⟩)
theorem own_ge {w : World} {base : Nat} {v : Value} {n : Nat} {xs : List Value} (h : w.ownsRow base 5 1 v n xs) : ∀ k, v.ownBlock = some k → base ≤ k := by
  intro k hk
  obtain ⟨_, h2⟩ := h
  rcases h2 with ⟨rfl, _⟩ | ⟨g, cap, cur, rfl, hg, _⟩
  · cases hk
  · cases hk; exact hg
/-- What is owned, as a slice of bytes. -/
theorem own_form {w : World} {base : Nat} {v : Value} {n : Nat} {l : List Int} (h : w.ownsRow base 5 1 v n (l.map (Value.int .u8))) (hn : n ≤ 1048576) (hb : ∀ i, i < n → 0 ≤ l.getD i 0 ∧ l.getD i 0 < 256) :
    ∃ ao cap, v = .slice ao n cap ∧ Elems w ao n l := by
  have h' := h
  obtain ⟨h1, h2⟩ := h
  have hl : l.length = n := by simpa using h1
  rcases h2 with ⟨rfl, rfl⟩ | ⟨g, cap, cur, rfl, hg, _⟩
  · exact ⟨none, 0, rfl, hl, hn, hb, .inl rfl⟩
  · exact ⟨_, cap, rfl, hl, hn, hb, .inr ⟨g, 0, rfl, fun i hi => by rw [Nat.zero_add]; exact own_cell h' i (by omega)⟩⟩
theorem src_cells {w : World} {a : Option Addr} {len : Nat} {l : List Int} (h : Elems w a len l) : ∀ ad, a = some ad → ∀ j u, (l.map (Value.int .u8))[j]? = some u → w.cell? (ad.add j) = some u := by
  intro ad had j u hu
  obtain ⟨h1, _, _, h4⟩ := h
  have hj : j < l.length := by have := (List.getElem?_eq_some_iff.1 hu).1; simpa using this
  rcases h4 with h4 | ⟨b, o, ha, hc⟩
  · omega
  · rw [ha] at had
    cases had
    rw [Addr.add_mid, hc j (by omega), ← hu]
    simp [hj]
theorem src_one (l : List Int) : ∀ u ∈ l.map (Value.int .u8), u.oneCell' = true := by
  intro u hu
  obtain ⟨z, _, rfl⟩ := List.mem_map.1 hu
  rfl
theorem of_acc_is {W w : World} (hB : Below W.heap.size W w) (a : Option Addr) (len cap : Nat) (l : List Int) (z : Int) (hz : ((more 0#32 l).toNat : Int) = z) (hE : Elems w a len l) :
    Calls Try.prog 11 #[.slice a len cap] w fun e w' => e = .returned (.int .u32 z) ∧ Below W.heap.size W w' ∧ Below w.heap.size w w' := by
  subst hz; exact of_acc hB a len cap l hE
theorem more_acc_is {W w : World} (hB : Below W.heap.size W w) (s : BitVec 32) (a : Option Addr) (len cap : Nat) (l : List Int) (z : Int) (hz : ((more s l).toNat : Int) = z) (hE : Elems w a len l) :
    Calls Try.prog 13 #[.int .u32 (s.toNat : Int), .slice a len cap] w fun e w' => e = .returned (.int .u32 z) ∧ Below W.heap.size W w' ∧ Below w.heap.size w w' := by
  subst hz; exact more_acc hB s a len cap l hE
theorem two_size (n m : Nat) (hn : n ≤ 140737488351232) (hm : m ≤ 140737488351232) : ∀ x ∈ [(n : Int), (m : Int)], 0 ≤ x ∧ x ≤ 140737488355328 := by simp; omega
theorem two_cell (w : World) (n m : Nat) : ∀ i, i < 2 → (w.alloc (.cells #[.int .i64 (n : Int), .int .i64 (m : Int)] 3)).cell? ⟨w.heap.size, 0 + i, none⟩ = some (.int .i64 ([(n : Int), (m : Int)].getD i 0)) := by
  intro i hi
  match i, hi with
  | 0, _ => simp
  | 1, _ => simp
theorem getD_append (a b : List Int) (i : Nat) : (a ++ b).getD i 0 = if i < a.length then a.getD i 0 else b.getD (i - a.length) 0 := by
  by_cases h : i < a.length
  · simp [h, List.getElem?_append_left]
  · simp [h, List.getElem?_append_right (Nat.not_lt.1 h)]
/-- nil means: no length and no room. -/
theorem view_nil {H : Type} {enc : TypeId × Value → H} {W : World} {a0 : Option Addr} {len cap : Nat} {d : DataW H} {p : List MemPlace}
    (hd : DataW.Trod enc Try.prog W 0 (fun _ => true) true 22 (.slice a0 len cap) d p) : a0 = none → len = 0 ∧ cap = 0 := by
  obtain ⟨fuel, hf⟩ := hd
  rcases open_ints Try.underlying22 Try.underlying5 cells5 hf with ⟨hcs, hx⟩ | ⟨a, len', cap', zs, hcs, _⟩
  · simp [Value.cells] at hcs
    exact fun _ => hcs.2
  · simp [Value.cells] at hcs
    intro h; rw [h] at hcs; simp at hcs
end Go.Proofs.Ytbndgdahokldeaa.Crc
