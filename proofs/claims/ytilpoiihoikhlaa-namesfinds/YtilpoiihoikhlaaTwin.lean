/-
  The twin of what is worked out: new memory, with a mark behind each row of parts.
-/
import Derived.Test.YtilpoiihoikhlaaExSize
import Derived.OwnWalk
namespace Go.Proofs.Ytilpoiihoikhlaa.Lex
open Go.ChangeShapes Go.WideShapes Go.ChangeAt Go.RowKit Go.Joins
def spare : ByteArray := ⟨#[115, 112, 97, 114, 101]⟩
/-- A twin in memory, in blocks from some one on, looked at so deep. -/
def TwN (w : World) (lo : Nat) : Nat → Ex → Value → Prop
  | 0, _, _ => False
  | k + 1, x, s => ∃ (b cap : Nat) (sl : Nat → Value), s = .slice (some ⟨b, 0, none⟩) x.args.length cap ∧ lo ≤ b ∧ x.op < 256 ∧ (-9223372036854775808 ≤ x.n ∧ x.n ≤ 9223372036854775807) ∧ x.name.size ≤ 140737488355328 ∧ x.args.length ≤ 2513169434843 ∧ x.args.length < cap ∧
    (∀ i (h : i < x.args.length), w.cell? ⟨b, i * 4, none⟩ = some (.int .u8 (x.args[i].op : Int)) ∧ w.cell? ⟨b, i * 4 + 1, none⟩ = some (.int .i64 x.args[i].n) ∧ w.cell? ⟨b, i * 4 + 2, none⟩ = some (.string x.args[i].name) ∧ w.cell? ⟨b, i * 4 + 3, none⟩ = some (sl i)) ∧
    (w.cell? ⟨b, x.args.length * 4, none⟩ = some (.int .u8 0) ∧ w.cell? ⟨b, x.args.length * 4 + 1, none⟩ = some (.int .i64 0) ∧ w.cell? ⟨b, x.args.length * 4 + 2, none⟩ = some (.string spare) ∧ w.cell? ⟨b, x.args.length * 4 + 3, none⟩ = some (.slice none 0 0)) ∧ ∀ i (h : i < x.args.length), TwN w lo k x.args[i] (sl i)
theorem TwN.up {w : World} {lo : Nat} : ∀ (k' k : Nat) (x : Ex) (s : Value), TwN w lo k x s → SizeOf.sizeOf x ≤ k' → TwN w lo k' x s
  | 0, k, x, s, _, hs => by have := x.pos; omega
  | k' + 1, 0, x, s, h, _ => h.elim
  | k' + 1, k + 1, x, s, h, hs => by
    obtain ⟨b, cap, sl, h1, h2, h3, h4, h5, h6, h7, h8, h9, h10⟩ := h
    exact ⟨b, cap, sl, h1, h2, h3, h4, h5, h6, h7, h8, h9, fun i hi => TwN.up k' k _ _ (h10 i hi) (by have := x.part_lt i hi; omega)⟩
/-- A twin in memory, in blocks from some one on. -/
def Tw (w : World) (lo : Nat) (x : Ex) (s : Value) : Prop := TwN w lo (SizeOf.sizeOf x) x s
theorem Tw.intro {w : World} {lo : Nat} (x : Ex) (b cap : Nat) (sl : Nat → Value) (hlo : lo ≤ b) (hop : x.op < 256) (hn : -9223372036854775808 ≤ x.n ∧ x.n ≤ 9223372036854775807) (hnm : x.name.size ≤ 140737488355328) (hlen : x.args.length ≤ 2513169434843) (hcap : x.args.length < cap)
      (hc : ∀ i (h : i < x.args.length), w.cell? ⟨b, i * 4, none⟩ = some (.int .u8 (x.args[i].op : Int)) ∧ w.cell? ⟨b, i * 4 + 1, none⟩ = some (.int .i64 x.args[i].n) ∧ w.cell? ⟨b, i * 4 + 2, none⟩ = some (.string x.args[i].name) ∧ w.cell? ⟨b, i * 4 + 3, none⟩ = some (sl i))
      (hsp : w.cell? ⟨b, x.args.length * 4, none⟩ = some (.int .u8 0) ∧ w.cell? ⟨b, x.args.length * 4 + 1, none⟩ = some (.int .i64 0) ∧ w.cell? ⟨b, x.args.length * 4 + 2, none⟩ = some (.string spare) ∧ w.cell? ⟨b, x.args.length * 4 + 3, none⟩ = some (.slice none 0 0))
      (hs : ∀ i (h : i < x.args.length), Tw w lo x.args[i] (sl i)) : Tw w lo x (.slice (some ⟨b, 0, none⟩) x.args.length cap) := by
  unfold Tw
  obtain ⟨m, hm⟩ : ∃ m, SizeOf.sizeOf x = m + 1 := ⟨SizeOf.sizeOf x - 1, by have := x.pos; omega⟩
  rw [hm]
  exact ⟨b, cap, sl, rfl, hlo, hop, hn, hnm, hlen, hcap, hc, hsp, fun i hi => TwN.up m _ _ _ (hs i hi) (by have := x.part_lt i hi; omega)⟩
theorem Tw.full {w : World} {lo : Nat} {x : Ex} {s : Value} (h : Tw w lo x s) : ∃ (b cap : Nat) (sl : Nat → Value), s = .slice (some ⟨b, 0, none⟩) x.args.length cap ∧ lo ≤ b ∧ x.op < 256 ∧ (-9223372036854775808 ≤ x.n ∧ x.n ≤ 9223372036854775807) ∧ x.name.size ≤ 140737488355328 ∧ x.args.length ≤ 2513169434843 ∧ x.args.length < cap ∧
    (∀ i (h : i < x.args.length), w.cell? ⟨b, i * 4, none⟩ = some (.int .u8 (x.args[i].op : Int)) ∧ w.cell? ⟨b, i * 4 + 1, none⟩ = some (.int .i64 x.args[i].n) ∧ w.cell? ⟨b, i * 4 + 2, none⟩ = some (.string x.args[i].name) ∧ w.cell? ⟨b, i * 4 + 3, none⟩ = some (sl i)) ∧
    (w.cell? ⟨b, x.args.length * 4, none⟩ = some (.int .u8 0) ∧ w.cell? ⟨b, x.args.length * 4 + 1, none⟩ = some (.int .i64 0) ∧ w.cell? ⟨b, x.args.length * 4 + 2, none⟩ = some (.string spare) ∧ w.cell? ⟨b, x.args.length * 4 + 3, none⟩ = some (.slice none 0 0)) ∧ ∀ i (h : i < x.args.length), Tw w lo x.args[i] (sl i) := by
  unfold Tw at h
  obtain ⟨m, hm⟩ : ∃ m, SizeOf.sizeOf x = m + 1 := ⟨SizeOf.sizeOf x - 1, by have := x.pos; omega⟩
  rw [hm] at h
  obtain ⟨b, cap, sl, h1, h2, h3, h4, h5, h6, h7, h8, h9, h10⟩ := h
  exact ⟨b, cap, sl, h1, h2, h3, h4, h5, h6, h7, h8, h9, fun i hi => TwN.up _ m _ _ (h10 i hi) (Nat.le_refl _)⟩
theorem Tw.carryN {w w' : World} {lo lo' : Nat} (hb : ∀ b, lo ≤ b → b < w.heap.size → w'.heap[b]? = w.heap[b]?) (hl : lo' ≤ lo) : ∀ (m : Nat) (x : Ex) (s : Value), SizeOf.sizeOf x ≤ m → Tw w lo x s → Tw w' lo' x s
  | 0, x, s, hm, _ => by have := x.pos; omega
  | m + 1, x, s, hm, h => by
    obtain ⟨b, cap, sl, rfl, hlo, hop, hn, hnm, hlen, hcap, hc, hsp, hs⟩ := h.full
    have hk : ∀ {o v}, w.cell? ⟨b, o, none⟩ = some v → w'.cell? ⟨b, o, none⟩ = some v := fun {o v} h => by
      have hlt := World.block_lt_of_cell? w _ h
      rw [World.cell?_of_block (w := w) (a := ⟨b, o, none⟩) (hb b hlo hlt)]
      exact h
    refine Tw.intro x b cap sl (by omega) hop hn hnm hlen hcap (fun i hi => ?_) ⟨hk hsp.1, hk hsp.2.1, hk hsp.2.2.1, hk hsp.2.2.2⟩ (fun i hi => Tw.carryN hb hl m _ _ (by have := x.part_lt i hi; omega) (hs i hi))
    obtain ⟨h0, h1, h2, h3⟩ := hc i hi
    exact ⟨hk h0, hk h1, hk h2, hk h3⟩
theorem Tw.carry {w w' : World} {lo : Nat} {x : Ex} {s : Value} (h : Tw w lo x s) (hb : ∀ b, lo ≤ b → b < w.heap.size → w'.heap[b]? = w.heap[b]?) : Tw w' lo x s := Tw.carryN hb (Nat.le_refl _) _ x s (Nat.le_refl _) h
theorem Tw.keep {w w' : World} {lo : Nat} {x : Ex} {s : Value} (h : Tw w lo x s) (hb : Below w.heap.size w w') : Tw w' lo x s := h.carry fun b _ hlt => hb.block b hlt
theorem Tw.grown {w w' : World} {lo g : Nat} {x : Ex} {s : Value} (h : Tw w lo x s) (hg : w.grownBy w' (some g)) (hlt : g < lo) : Tw w' lo x s := h.carry fun b hb hl => hg.block b hl (fun e => by cases e; omega)
theorem Tw.low {w : World} {lo lo' : Nat} {x : Ex} {s : Value} (h : Tw w lo x s) (hl : lo' ≤ lo) : Tw w lo' x s := Tw.carryN (fun _ _ _ => rfl) hl _ x s (Nat.le_refl _) h
theorem Tw.stN {w : World} {lo : Nat} : ∀ (m : Nat) (x : Ex) (s : Value), SizeOf.sizeOf x ≤ m → Tw w lo x s → St w x s
  | 0, x, s, hm, _ => by have := x.pos; omega
  | m + 1, x, s, hm, h => by
    obtain ⟨b, cap, sl, rfl, hlo, hop, hn, hnm, hlen, hcap, hc, hsp, hs⟩ := h.full
    exact St.intro x _ cap sl hop hn hnm hlen (by omega) (.inr ⟨b, 0, rfl, fun i hi => by simpa using hc i hi⟩) (fun i hi => Tw.stN m _ _ (by have := x.part_lt i hi; omega) (hs i hi))
theorem Tw.st {w : World} {lo : Nat} {x : Ex} {s : Value} (h : Tw w lo x s) : St w x s := Tw.stN _ x s (Nat.le_refl _) h
/-- The cells of parts, each with where its own lie. -/
def pairV (p : Ex × Value) : List Value := [.int .u8 (p.1.op : Int), .int .i64 p.1.n, .string p.1.name, p.2]
def pairsV (ps : List (Ex × Value)) : List Value := ps.flatMap pairV
theorem pairsV_len (ps : List (Ex × Value)) : (pairsV ps).length = ps.length * 4 := by
  induction ps with
  | nil => rfl
  | cons p ps ih => simp only [pairsV, List.flatMap_cons, List.length_append, List.length_cons] at ih ⊢; rw [ih]; simp [pairV]; omega
theorem pairsV_app (ps qs : List (Ex × Value)) : pairsV (ps ++ qs) = pairsV ps ++ pairsV qs := by simp [pairsV]
theorem pairsV_at (ps : List (Ex × Value)) (rest : List Value) : ∀ (i : Nat) (h : i < ps.length), (pairsV ps ++ rest)[i * 4]? = some (.int .u8 (ps[i].1.op : Int)) ∧ (pairsV ps ++ rest)[i * 4 + 1]? = some (.int .i64 ps[i].1.n) ∧ (pairsV ps ++ rest)[i * 4 + 2]? = some (.string ps[i].1.name) ∧ (pairsV ps ++ rest)[i * 4 + 3]? = some ps[i].2 := by
  induction ps with
  | nil => intro i h; cases h
  | cons p ps ih =>
    intro i h
    have e : pairsV (p :: ps) ++ rest = pairV p ++ (pairsV ps ++ rest) := by simp [pairsV]
    rw [e]
    cases i with
    | zero => exact ⟨rfl, rfl, rfl, rfl⟩
    | succ i =>
      have h' : i < ps.length := by simpa using h
      have hs : ∀ j, (pairV p ++ (pairsV ps ++ rest))[(i + 1) * 4 + j]? = (pairsV ps ++ rest)[i * 4 + j]? := fun j => by
        rw [List.getElem?_append_right (by simp [pairV]; omega)]
        congr 1
        simp [pairV]; omega
      have := ih i h'
      refine ⟨?_, ?_, ?_, ?_⟩
      · rw [← Nat.add_zero ((i + 1) * 4), hs 0]; exact this.1
      · rw [hs 1]; exact this.2.1
      · rw [hs 2]; exact this.2.2.1
      · rw [hs 3]; exact this.2.2.2
def TwinC (x : Ex) : Prop := ∀ (w : World) (s : Value), St w x s → Calls Try.prog 25 #[exV x s] w fun e w' => ∃ s', e = .returned (exV x s') ∧ Tw w' w.heap.size x s' ∧ Below w.heap.size w w'
theorem info25' : (Try.prog.info? 48).map (fun i => (i.zero, i.size, i.bytes)) = some (some (.agg #[.int .u8 0, .int .i64 0, .string ByteArray.empty, .slice none 0 0]), 4, 56) := by kernel_rfl
/-- While the twin's row is made. -/
structure Mk (w : World) (x : Ex) (k : Nat) (ps : List (Ex × Value)) (W : World) : Prop where
  below : Below w.heap.size w W
  row : W.ownsRow w.heap.size 48 4 (.slice (some ⟨w.heap.size, 0, none⟩) k (x.args.length + 1)) k (pairsV ps)
  len : ps.length = k
  fst : ps.map (·.1) = x.args.take k
  parts : ∀ p ∈ ps, Tw W (w.heap.size + 1) p.1 p.2
  size : w.heap.size < W.heap.size
theorem Mk.step {w W W' : World} {x : Ex} {k : Nat} {ps : List (Ex × Value)} (h : Mk w x k ps W) (hb : Below W.heap.size W W') : Mk w x k ps W' :=
  ⟨bstep h.below hb, by
    have hr := h.row
    refine ⟨hr.1, ?_⟩
    rcases hr.2 with hn | ⟨g, cap, cur, e, hg0, hg, rest⟩
    · exact .inl hn
    · exact .inr ⟨g, cap, cur, e, hg0, (hb.block g (Array.getElem?_eq_some_iff.1 hg).1).trans hg, rest⟩, h.len, h.fst, fun p hp => (h.parts p hp).keep hb, Nat.lt_of_lt_of_le h.size hb.size⟩
theorem Mk.grow {w W W' : World} {x y : Ex} {k : Nat} {ps : List (Ex × Value)} {s : Value} (h : Mk w x k ps W) (hk : k < x.args.length) (hy : x.args[k] = y) (hT : Tw W (w.heap.size + 1) y s)
    (hr : W'.ownsRow w.heap.size 48 4 (.slice (some ⟨w.heap.size, 0, none⟩) (k + 1) (x.args.length + 1)) (k + 1) (pairsV ps ++ pairV (y, s))) (hg : W.grownBy W' (some w.heap.size)) : Mk w x (k + 1) (ps ++ [(y, s)]) W' where
  below := h.below.grown hg h.below.size (fun j hj => by cases hj; exact Nat.le_refl _)
  row := by rw [pairsV_app]; simpa [pairsV] using hr
  len := by simp [h.len]
  fst := by rw [List.map_append, h.fst, List.take_succ_eq_append_getElem hk, hy]; rfl
  parts := fun p hp => by
    rcases List.mem_append.1 hp with hp | hp
    · exact (h.parts p hp).grown hg (by omega)
    · rw [List.mem_singleton.1 hp]; exact hT.grown hg (by omega)
  size := Nat.lt_of_lt_of_le h.size hg.size
theorem four_next (w : World) (a b c d : Value) : ∀ j u, [a, b, c, d][j]? = some u → (w.alloc (.cells #[a, b, c, d] 48)).cell? ((⟨w.heap.size, 0, none⟩ : Addr).add j) = some u := by
  intro j u hj
  have hadd : (⟨w.heap.size, 0, none⟩ : Addr).add j = ⟨w.heap.size, j, none⟩ := by unfold Addr.add; split <;> simp_all
  rw [hadd, World.cell?_alloc_at _ _ _ _ rfl]
  simpa using hj
end Go.Proofs.Ytilpoiihoikhlaa.Lex
