/-
  What is asked for, one instant longer ago, and of an operator of two: plain mathematics.
  How great it is, counted to the end: where it is not greater than so, ExprSize tells just that.
  What an operator asks for: what the walk of that law wants.
-/
import Derived.Test.YtkieljleopbhoaaDoorU7
import Derived.Test.YtkieljleopbhoaaDoorU10
import Derived.Test.YtkieljleopbhoaaDoorRows
import Derived.Test.YtkieljleopbhoaaDoorU8
import Derived.Maps.AppendAt
namespace Go.Proofs.YtkieljleopbhoaaDoor.Lex
/-- All that it asks for, as often as it does. -/
def pl : Nat → Ex → Nat → List Rf
  | 0, _, _ => []
  | k + 1, x, ago => (if x.op = 3 then [(x.name, ago)] else []) ++ x.args.flatMap fun y => pl k y (nextAgo x ago)
theorem foldl_flat {α β γ : Type} (f : β → γ → β) (g : α → List γ) : ∀ (l : List α) (b : β), l.foldl (fun b a => (g a).foldl f b) b = (l.flatMap g).foldl f b
  | [], _ => rfl
  | a :: l, b => by simp only [List.foldl_cons, List.flatMap_cons, List.foldl_append]; exact foldl_flat f g l _
theorem gat_pl : ∀ (k : Nat) (x : Ex) (ago : Nat) (acc : List Rf), gat k x ago acc = (pl k x ago).foldl addR acc
  | 0, _, _, _ => rfl
  | k + 1, x, ago, acc => by
    have e : (fun (acc : List Rf) (y : Ex) => gat k y (nextAgo x ago) acc) = fun acc y => (pl k y (nextAgo x ago)).foldl addR acc := by
      funext acc y
      exact gat_pl k y (nextAgo x ago) acc
    rw [gat, pl, e, foldl_flat addR (fun y => pl k y (nextAgo x ago)), List.foldl_append]
    congr 1
    unfold ownRefs
    split <;> rfl
theorem addR_mem (acc : List Rf) (r : Rf) (s : Rf) : s ∈ addR acc r ↔ s ∈ acc ∨ s = r := by
  unfold addR
  split
  · rename_i h
    constructor
    · exact .inl
    · rintro (h1 | rfl)
      · exact h1
      · exact rIn_mem.1 h
  · simp
theorem addR_in {acc : List Rf} {r : Rf} (h : r ∈ acc) : addR acc r = acc := by unfold addR; rw [if_pos (rIn_mem.2 h)]
theorem addR_new {acc : List Rf} {r : Rf} (h : r ∉ acc) : addR acc r = acc ++ [r] := by unfold addR; rw [if_neg (fun h' => h (rIn_mem.1 h'))]
theorem fold_mem : ∀ (l acc : List Rf) (s : Rf), s ∈ l.foldl addR acc ↔ s ∈ acc ∨ s ∈ l
  | [], acc, s => by simp
  | r :: l, acc, s => by rw [List.foldl_cons, fold_mem l, addR_mem, List.mem_cons, or_assoc]
/-- What stands there twice is no matter. -/
theorem fold_once : ∀ (l acc base : List Rf), (l.foldl addR base).foldl addR acc = l.foldl addR (base.foldl addR acc)
  | [], _, _ => rfl
  | r :: l, acc, base => by
    rw [List.foldl_cons, List.foldl_cons, fold_once l acc (addR base r)]
    congr 1
    by_cases h : r ∈ base
    · rw [addR_in h, addR_in ((fold_mem base acc r).2 (.inr h))]
    · rw [addR_new h, List.foldl_append]; rfl
/-- Of an operator of two. -/
theorem gat_two (k : Nat) (x y : Ex) (m : Nat) : gat k y m (gat k x m []) = (gat k x m [] ++ gat k y m []).foldl addR [] := by
  rw [List.foldl_append, gat_pl k y m (gat k x m []), gat_pl k x m [], gat_pl k y m [], fold_once, fold_once]
  rfl
/-- One instant longer ago. -/
def later (m : Nat) (r : Rf) : Rf := (r.1, r.2 + m)
theorem later_mem {m : Nat} {r : Rf} {l : List Rf} : later m r ∈ l.map (later m) ↔ r ∈ l := by
  constructor
  · intro h
    obtain ⟨s, h1, h2⟩ := List.mem_map.1 h
    have e1 : s.1 = r.1 := (Prod.mk.inj h2).1
    have e2 : s.2 + m = r.2 + m := (Prod.mk.inj h2).2
    have : s = r := Prod.ext e1 (by omega)
    rwa [← this]
  · exact fun h => List.mem_map_of_mem h
theorem addR_later (m : Nat) (acc : List Rf) (r : Rf) : addR (acc.map (later m)) (later m r) = (addR acc r).map (later m) := by
  by_cases h : r ∈ acc
  · rw [addR_in h, addR_in (later_mem.2 h)]
  · rw [addR_new h, addR_new (fun h' => h (later_mem.1 h')), List.map_append]; rfl
theorem fold_later (m : Nat) : ∀ (l acc : List Rf), (l.map (later m)).foldl addR (acc.map (later m)) = (l.foldl addR acc).map (later m)
  | [], _ => rfl
  | r :: l, acc => by rw [List.map_cons, List.foldl_cons, List.foldl_cons, addR_later, fold_later m l]
theorem pl_later (m : Nat) : ∀ (k : Nat) (x : Ex) (ago : Nat), pl k x (ago + m) = (pl k x ago).map (later m)
  | 0, _, _ => rfl
  | k + 1, x, ago => by
    have e : nextAgo x (ago + m) = nextAgo x ago + m := by unfold nextAgo; split <;> omega
    rw [pl, pl, e, List.map_append, List.map_flatMap]
    congr 1
    · split <;> rfl
    · congr 1
      funext y
      exact pl_later m k y _
theorem gat_later (m k : Nat) (x : Ex) : gat k x m [] = (gat k x 0 []).map (later m) := by
  rw [gat_pl, gat_pl]
  have := pl_later m k x 0
  rw [Nat.zero_add] at this
  rw [this]
  exact fold_later m _ []
end Go.Proofs.YtkieljleopbhoaaDoor.Lex
namespace Go.Proofs.YtkieljleopbhoaaDoor.Lex
open Go.ChangeShapes Go.WideShapes Go.ChangeAt Go.RowKit Go.Joins
/-- Its parts, itself with them, and the bytes of their names. -/
def esz : Ex → Nat
  | ⟨_, _, nm, args⟩ => 1 + nm.size + args.length + (args.map esz).sum
theorem esz_eq (x : Ex) : esz x = 1 + x.name.size + x.args.length + (x.args.map esz).sum := by
  obtain ⟨op, n, nm, args⟩ := x
  rw [esz]
theorem sum_ge {l : List Nat} {a : Nat} (h : a ∈ l) : a ≤ l.sum := by
  induction l with
  | nil => cases h
  | cons b l ih =>
    rw [List.sum_cons]
    rcases List.mem_cons.1 h with rfl | h
    · omega
    · have := ih h; omega
theorem esz_part {x y : Ex} (h : y ∈ x.args) : esz y + 1 ≤ esz x := by
  rw [esz_eq x]
  have := sum_ge (List.mem_map.2 ⟨y, h, rfl⟩ : esz y ∈ x.args.map esz)
  omega
theorem esz_nm : ∀ (n : Nat) (x : Ex), esz x ≤ n → n ≤ 65536 → NmOk n x
  | 0, x, h, _ => by rw [esz_eq] at h; omega
  | n + 1, x, h, hn => by
    refine ⟨by rw [esz_eq] at h; omega, fun y hy => esz_nm n y (by have := esz_part hy; omega) (by omega)⟩
theorem fold_cnt (f g : Ex → Nat) : ∀ (l : List Ex) (n m : Nat), n ≤ m → (∀ y ∈ l, f y ≤ g y) → l.foldl (fun n y => n + f y) n ≤ m + (l.map g).sum
  | [], n, m, h, _ => by simpa using h
  | a :: l, n, m, h, hf => by
    rw [List.foldl_cons, List.map_cons, List.sum_cons]
    have h1 := hf a (List.mem_cons_self ..)
    have := fold_cnt f g l (n + f a) (m + g a) (by omega) (fun y hy => hf y (List.mem_cons_of_mem _ hy))
    omega
theorem esz_cnt : ∀ (k : Nat) (x : Ex), cnt k x ≤ esz x
  | 0, x => by rw [esz_eq]; show 1 ≤ _; omega
  | k + 1, x => by
    rw [esz_eq]
    show x.args.foldl (fun n y => n + cnt k y) 1 ≤ _
    have := fold_cnt (cnt k) esz x.args 1 (1 + x.name.size) (by omega) (fun y _ => esz_cnt k y)
    omega
/-- ExprSize tells it. -/
def SizeE (x : Ex) : Prop := ∀ (w : World) (s : Value), St w x s → esz x ≤ 1048576 → Calls Tryd.prog 7 #[exV x s] w fun e w' => e = .returned (.int .i64 (esz x : Int)) ∧ Below w.heap.size w w'
theorem take_sum {l : List Nat} (k : Nat) : (l.take k).sum ≤ l.sum := by
  have := congrArg List.sum (List.take_append_drop k l)
  rw [List.sum_append] at this
  omega
set_option maxRecDepth 100000 in
set_option maxHeartbeats 1000000 in
theorem sizes_e (x : Ex) (ih : ∀ i (h : i < x.args.length), SizeE x.args[i]) (w : World) (s : Value) (hS : St w x s) (hx : x.args.length + (x.args.map esz).sum ≤ 1048576) :
    Calls Tryd.prog 23 #[s] w fun e w' => e = .returned (.int .i64 ((x.args.length + (x.args.map esz).sum : Nat) : Int)) ∧ Below w.heap.size w w' := by
  obtain ⟨ao, cap, sl, rfl, _, _, _, hlen, _, hc, hs⟩ := hS.out
  have HS := hid hs
  have HC := hid hc
  have HI := hid ih
  have HX := hid hx
  clear hs hc ih hS hx
  go_enter Tryd.func23, Tryd.ntmps23
  go_wp2
  go_loopw [3, 4] (fun n i wr => ∃ (z k : Nat), k ≤ x.args.length ∧ n = .int .i64 (z : Int) ∧ i = .int .i64 (k : Int) ∧ Hid (z = x.args.length + ((x.args.map esz).take k).sum) ∧ Hid (Below w.heap.size w wr)) (fun _ i _ => x.args.length - (intOf i).toNat)
  case atStart => exact ⟨x.args.length, 0, Nat.zero_le _, rfl, rfl, hid (by simp), Below.refl _ _⟩
  case round =>
    obtain ⟨z, k, hk, rfl, rfl, hZ, hB⟩ := hrel
    have hz1 : z ≤ 1048576 := by have h1 := hZ.out; have h2 := take_sum (l := x.args.map esz) k; have h3 := HX.out; omega
    have hz : (z : Int) ≤ 1048576 := by omega
    by_cases hlt : k < x.args.length
    · have hlt' : (k : Int) < (x.args.length : Int) := by omega
      have hk0 : (0 : Int) ≤ (k : Int) := by omega
      obtain ⟨b, o, rfl, hc⟩ := HC.out.resolve_left (by omega)
      obtain ⟨h0, h1, h2, h3⟩ := hc k hlt
      have y0 := cell_kept h0 hB.out
      have y1 := cell_kept h1 hB.out
      have y2 := cell_kept h2 hB.out
      have y3 := cell_kept h3 hB.out
      have hsz : esz x.args[k] ≤ (x.args.map esz).sum := sum_ge (List.mem_map.2 ⟨_, List.getElem_mem hlt, rfl⟩)
      have c := HI.out k hlt wr (sl k) ((HS.out k hlt).keep hB.out) (by have := HX.out; omega)
      have HT : Hid (((x.args.map esz).take (k + 1)).sum = ((x.args.map esz).take k).sum + esz x.args[k]) := hid (by
        rw [List.take_succ_eq_append_getElem (by simpa using hlt), List.sum_append]
        simp)
      have hm := HX.out
      have hwr : IntKind.i64.wrap ((z : Int) + (esz x.args[k] : Int)) = (z : Int) + (esz x.args[k] : Int) := by rw [IntKind.wrap_i64]; omega
      clear h0 h1 h2 h3 hc
      generalize esz x.args[k] = ez at *
      generalize x.args[k] = y at *
      clear hm hsz
      go_wp2_with (go_at_call 7; refine c.mono ?_; rintro e w2 ⟨rfl, hb2⟩)
      go_roundw
      case rel => exact ⟨z + ez, k + 1, by omega, by simp, by go_num, hid (by rw [HT.out, hZ.out]; omega), bstep hB.out hb2⟩
      case measure => simp [intOf]; omega
    · have hlt' : ¬ (k : Int) < (x.args.length : Int) := by omega
      obtain rfl : k = x.args.length := by omega
      have HZ : Hid (z = x.args.length + (x.args.map esz).sum) := hid (by rw [hZ.out, List.take_of_length_le (by simp)])
      go_wp2
      go_ret
      have hzz := HZ.out
      exact ⟨by subst hzz; first | rfl | simp, hB.out⟩
set_option maxRecDepth 100000 in
theorem size_e (x : Ex) (ih : ∀ i (h : i < x.args.length), SizeE x.args[i]) : SizeE x := by
  intro w s hS hx
  have hx2 : x.args.length + (x.args.map esz).sum ≤ 1048576 := by rw [esz_eq] at hx; omega
  have hs := fun W h => sizes_e x ih W s h hx2
  obtain ⟨ao, cap, sl, rfl, hop, hn, hnm, hlen, hcap, hc, _⟩ := hS.out
  have HS := hid hS
  have HE := hid (esz_eq x)
  clear ih hc hS
  have hle : (1 : Int) + (x.name.size : Int) ≤ 1048576 := by have := HE.out; omega
  have HE2 : Hid (esz x = 1 + x.name.size + (x.args.length + (x.args.map esz).sum)) := hid (by have := HE.out; omega)
  have hwr : IntKind.i64.wrap (1 + (x.name.size : Int) + ((x.args.length + (x.args.map esz).sum : Nat) : Int)) = 1 + (x.name.size : Int) + ((x.args.length + (x.args.map esz).sum : Nat) : Int) := by rw [IntKind.wrap_i64]; have := HE.out; omega
  clear hx hx2 HE
  generalize x.args.length + (x.args.map esz).sum = su at *
  go_enter Tryd.func7, Tryd.ntmps7
  go_wp2_with (go_at_call 23; refine (hs _ (HS.out.keep ((Below.refl _ _).alloc (Nat.le_refl _) _))).mono ?_; rintro e w2 ⟨rfl, hb2⟩)
  go_ret
  exact ⟨by rw [HE2.out]; simp, bstep ((Below.refl _ _).alloc (Nat.le_refl _) _) hb2⟩
/-- ExprSize tells it. -/
theorem size_all : ∀ (m : Nat) (x : Ex), SizeOf.sizeOf x ≤ m → SizeE x := by
  intro m
  induction m with
  | zero => intro x h; obtain ⟨o, n, s, l⟩ := x; simp at h
  | succ m ih => intro x h; exact size_e x fun i hi => ih _ (by have := x.part_lt i hi; omega)
theorem bulk_str {H : Type} {y : DataW H × List MemPlace} {nm : ByteArray} {p : List MemPlace} (h : y = (.lit (.string nm.data.toList), p)) : nm.size + 1 ≤ Rows.uptoBulk y.1 := by
  subst h
  simp only [Rows.uptoBulk]
  rw [Lib.size_eq]
  omega
theorem sum_bulk {H : Type} : ∀ (elems : List (DataW H × List MemPlace)) (len : Nat), elems.length = len → ∀ f : Nat → Nat, (∀ i, i < len → f i + 1 ≤ Rows.uptoBulk ((elems[i]?.map (·.1)).getD .nil)) → ((List.range len).map f).sum + len ≤ Rows.uptoBulkAll (elems.map (·.1))
  | [], len, h, f, hf => by
    obtain rfl : len = 0 := by simpa using h.symm
    simp [Rows.uptoBulkAll]
  | e :: l, len, h, f, hf => by
    obtain ⟨m, rfl⟩ : ∃ m, len = m + 1 := ⟨l.length, by simpa using h.symm⟩
    have h0 := hf 0 (by omega)
    have ih := sum_bulk l m (by simpa using h) (fun i => f (i + 1)) (fun i hi => by simpa using hf (i + 1) (by omega))
    rw [List.range_succ_eq_map, List.map_cons, List.sum_cons, List.map_map, List.map_cons]
    simp only [Rows.uptoBulkAll]
    have e2 : ((List.range m).map (f ∘ Nat.succ)).sum = ((List.range m).map fun i => f (i + 1)).sum := rfl
    rw [e2]
    simp at h0
    omega
theorem viewTB {H : Type} {enc : TypeId × Value → H} {W : World} : ∀ (m fuel : Nat) (cs : List Value) (d : DataW H) (p : List MemPlace), fuel ≤ m → DataW.trod enc Tryd.prog W 0 (fun _ => true) true fuel 25 cs = some (d, p) → (∀ v ∈ d.weights Tryd.prog 25, v ≤ reachBytes) →
    ∃ (x : Ex) (s : Value), cs = [.int .u8 (x.op : Int), .int .i64 x.n, .string x.name, s] ∧ St W x s ∧ esz x + 1 ≤ Rows.uptoBulk d := by
  intro m
  induction m with
  | zero => intro fuel cs d p hm h; obtain rfl : fuel = 0 := by omega
            simp [DataW.trod] at h
  | succ m ih =>
    intro fuel cs d p hm h hw
    obtain ⟨xs, n, hn, hx, hl, hlen, hfs⟩ := DataW.trod_struct Tryd.underlying25 h
    rw [cells25] at hl
    obtain ⟨c0, c1, c2, c3, rfl⟩ := list4 hl
    match xs, hlen with
    | [y0, y1, y2, y3], _ =>
      have h0 : DataW.trod enc Tryd.prog W 0 (fun _ => true) true n 22 [c0] = some y0 := by simpa [cells22] using hfs 0 _ rfl
      have h1 : DataW.trod enc Tryd.prog W 0 (fun _ => true) true n 2 [c1] = some y1 := by simpa [cells2] using hfs 1 _ rfl
      have h2 : DataW.trod enc Tryd.prog W 0 (fun _ => true) true n 9 [c2] = some y2 := by simpa [cells9] using hfs 2 _ rfl
      have h3 : DataW.trod enc Tryd.prog W 0 (fun _ => true) true n 23 [c3] = some y3 := by simpa [cells23] using hfs 3 _ rfl
      obtain ⟨op, e0, _, w0⟩ := DataW.trod_int Tryd.underlying22 h0
      obtain ⟨k, e1, _, w1⟩ := DataW.trod_int Tryd.underlying2 h1
      obtain ⟨nm, e2, hy2, _⟩ := DataW.trod_string Tryd.underlying9 h2
      simp only [List.cons.injEq, and_true] at e0 e1 e2
      subst e0 e1 e2
      simp only [Prod.mk.injEq] at hx
      obtain ⟨rfl, _⟩ := hx
      have hw2 : ∀ v ∈ y2.1.weights Tryd.prog 9, v ≤ reachBytes := fun v hv => hw v (by simp [DataW.weights, Tryd.underlying25, DataW.weightsEach]; right; right; left; exact hv)
      have hw3 : ∀ v ∈ y3.1.weights Tryd.prog 23, v ≤ reachBytes := fun v hv => hw v (by simp [DataW.weights, Tryd.underlying25, DataW.weightsEach]; right; right; right; exact hv)
      have hnm : nm.size ≤ 140737488355328 := by
        have := hw2 nm.data.toList.length (by rw [hy2]; simp [DataW.weights])
        rw [← Lib.size_eq] at this
        unfold reachBytes at this
        omega
      have hop : 0 ≤ op ∧ op < 256 := by
        simp [Lit.wf, IntKind.min, IntKind.max, IntKind.signed, IntKind.bits] at w0
        omega
      have hk : -9223372036854775808 ≤ k ∧ k ≤ 9223372036854775807 := by
        simp [Lit.wf, IntKind.min, IntKind.max, IntKind.signed, IntKind.bits] at w1
        omega
      obtain ⟨u, rfl⟩ : ∃ u : Nat, op = (u : Int) := ⟨op.toNat, by omega⟩
      rcases DataW.trod_slice Tryd.underlying23 h3 with ⟨hc, _⟩ | ⟨a, len, cap, elems, rest, n', hn', hc, hy3, hb, hlc, hcm, hel, helem, hsp, _⟩
      · simp only [List.cons.injEq, and_true] at hc
        subst hc
        refine ⟨.mk u k nm [], .slice none 0 0, rfl, ?_, ?_⟩
        rotate_left
        · rw [esz_eq]
          have := bulk_str hy2
          simp [Rows.uptoBulk, Rows.uptoBulkAll]
          omega
        exact (St.intro (.mk u k nm []) none 0 (fun _ => .slice none 0 0) (by show u < 256; omega) hk hnm (by show 0 ≤ _; omega) (Nat.le_refl _) (.inl rfl) (fun i hi => by cases hi))
      · simp only [List.cons.injEq, and_true] at hc
        subst hc
        rw [cells25] at helem
        have hwl : (len + rest.length) * 56 ≤ reachBytes := by
          have := hw3 ((elems.map (·.1)).length + (rest.map (·.1)).length |> (· * 56)) (by rw [hy3]; simp [DataW.weights, Tryd.underlying23, bytes25])
          simpa [hel] using this
        have hlen2 : len ≤ 2513169434843 := by unfold reachBytes at hwl; omega
        have each : ∀ i, ∃ q : Ex × Value, i < len → (∃ v0 v1 v2 v3, W.cell? ((a.add (i * 4)).add 0) = some v0 ∧ W.cell? ((a.add (i * 4)).add 1) = some v1 ∧ W.cell? ((a.add (i * 4)).add 2) = some v2 ∧ W.cell? ((a.add (i * 4)).add 3) = some v3 ∧ [v0, v1, v2, v3] = [.int .u8 (q.1.op : Int), .int .i64 q.1.n, .string q.1.name, q.2]) ∧ St W q.1 q.2 ∧ esz q.1 + 1 ≤ Rows.uptoBulk ((elems[i]?.map (·.1)).getD .nil) := by
          intro i
          by_cases hi : i < len
          · have he := helem i hi
            rw [List.getElem?_eq_getElem (by omega)] at he
            obtain ⟨l, hl1, hl2⟩ := Option.bind_eq_some_iff.1 he
            obtain ⟨v0, v1, v2, v3, rfl, g0, g1, g2, g3⟩ := cells4 hl1
            obtain ⟨x, s, ex, hs, hz⟩ := ih n' _ _ _ (by omega) (show DataW.trod enc Tryd.prog W 0 (fun _ => true) true n' 25 [v0, v1, v2, v3] = some ((elems[i]'(by omega)).1, (elems[i]'(by omega)).2) from hl2) (fun v hv => hw3 v (by
              rw [hy3]
              simp only [DataW.weights, Tryd.underlying23]
              refine List.mem_cons_of_mem _ (List.mem_append_left _ (all_mem (i := i) (d := (elems[i]'(by omega)).1) ?_ v hv))
              rw [List.getElem?_map, List.getElem?_eq_getElem (by omega)]
              rfl))
            exact ⟨(x, s), fun _ => ⟨⟨v0, v1, v2, v3, g0, g1, g2, g3, ex⟩, hs, by rw [List.getElem?_eq_getElem (by omega)]; exact hz⟩⟩
          · exact ⟨(.mk 0 0 ByteArray.empty [], .slice none 0 0), fun h => absurd h hi⟩
        obtain ⟨f, hf⟩ := Classical.axiomOfChoice each
        have hargs : ((List.range len).map fun i => (f i).1).length = len := by simp
        have hget : ∀ i (hi : i < ((List.range len).map fun i => (f i).1).length), ((List.range len).map fun i => (f i).1)[i] = (f i).1 := fun i hi => by simp
        refine ⟨.mk u k nm ((List.range len).map fun i => (f i).1), .slice (some a) len cap, rfl, ?_, ?_⟩
        rotate_left
        · have hargs2 : (Ex.mk u k nm ((List.range len).map fun i => (f i).1)).args.length = len := by simp
          rw [esz_eq]
          have h1 := bulk_str hy2
          have h2 : (((List.range len).map fun i => (f i).1).map esz).sum + len ≤ Rows.uptoBulkAll (elems.map (·.1)) := by
            rw [List.map_map]
            exact sum_bulk elems len hel (fun i => esz (f i).1) (fun i hi => (hf i hi).2.2)
          rw [hy3]
          simp only [Rows.uptoBulk, Rows.uptoBulkAll, List.map_cons, List.map_nil] at h1 h2 ⊢
          rw [hargs2]
          omega
        have key : St W (.mk u k nm ((List.range len).map fun i => (f i).1)) (.slice (some a) ((List.range len).map fun i => (f i).1).length cap) := by
          refine St.intro (.mk u k nm ((List.range len).map fun i => (f i).1)) (some a) cap (fun i => (f i).2) (by show u < 256; omega) hk hnm (by show ((List.range len).map fun i => (f i).1).length ≤ _; omega) (by show ((List.range len).map fun i => (f i).1).length ≤ _; omega) ?_ (fun i hi => ?_)
          · by_cases h00 : len = 0
            · exact .inl (by show ((List.range len).map fun i => (f i).1).length = 0; omega)
            · right
              obtain ⟨b, o, sp⟩ := a
              have hspt : sp = none := by
                obtain ⟨⟨v0, _, _, _, g0, _⟩, _, _⟩ := hf 0 (by omega)
                simpa [Addr.add] using World.cell?_spot g0
              subst hspt
              refine ⟨b, o, rfl, fun i hi => ?_⟩
              have hi' : i < len := by have : i < ((List.range len).map fun i => (f i).1).length := hi; omega
              obtain ⟨⟨v0, v1, v2, v3, g0, g1, g2, g3, ex⟩, _, _⟩ := hf i hi'
              simp only [List.cons.injEq, and_true] at ex
              obtain ⟨rfl, rfl, rfl, rfl⟩ := ex
              rw [add_off, add_off] at g0 g1 g2 g3
              have e : (Ex.mk u k nm ((List.range len).map fun i => (f i).1)).args[i] = (f i).1 := hget i hi
              rw [e]
              exact ⟨g0, g1, g2, g3⟩
          · have hi' : i < len := by have : i < ((List.range len).map fun i => (f i).1).length := hi; omega
            have e : (Ex.mk u k nm ((List.range len).map fun i => (f i).1)).args[i] = (f i).1 := hget i hi
            rw [e]
            exact (hf i hi').2.1
        rwa [hargs] at key
set_option maxRecDepth 100000 in
/-- An api.Expr that came in, opened once. -/
theorem viewEB {H : Type} {enc : TypeId × Value → H} {W : World} {r : Reach} {b0 : Nat} {v : Value} {d : DataW H} {p : List MemPlace} {ts : List TypeId} {ds : List (DataW H)} {j : Nat}
    (hv : Value.okWide Tryd.prog W r b0 25 v) (h : DataW.Trod enc Tryd.prog W 0 (fun _ => true) true 25 v d p)
    (hsz : (DataW.weightsEach Tryd.prog ts ds).all (· ≤ reachBytes) = true) (ht : ts[j]? = some 25) (hj : ds[j]? = some d) : ∃ (x : Ex) (s : Value), v = exV x s ∧ St W x s ∧ esz x + 1 ≤ Rows.uptoBulk d := by
  obtain ⟨cs, rfl, hz⟩ := okWide_struct Tryd.underlying25 hv
  obtain ⟨c0, c1, c2, c3, rfl⟩ := array4 (by rw [hz]; exact cells25)
  obtain ⟨fuel, hf⟩ := h
  obtain ⟨x, s, e, hs, hbk⟩ := viewTB fuel fuel _ d p (Nat.le_refl _) hf (fun v hv => by
    have := List.all_eq_true.1 hsz _ (DataW.weights_mem_each ht hj v hv)
    simpa using this)
  have e' : [c0, c1, c2, c3] = [.int .u8 (x.op : Int), .int .i64 x.n, .string x.name, s] := by simpa [Value.cells] using e
  simp only [List.cons.injEq, and_true] at e'
  obtain ⟨rfl, rfl, rfl, rfl⟩ := e'
  exact ⟨x, _, rfl, hs, hbk⟩
end Go.Proofs.YtkieljleopbhoaaDoor.Lex
namespace Go.Proofs.YtkieljleopbhoaaDoor.Lex
open Go.ChangeShapes Go.WideShapes Go.ChangeAt Go.RowKit Go.Joins
def moreOf (o : Nat) : Nat := if o = 19 then 1 else 0
theorem gat_pre (k : Nat) (x : Ex) : gat (k + 1) ⟨19, 0, ByteArray.empty, [x]⟩ 0 [] = (gat k x 0 []).map (later 1) := by
  show gat k x (nextAgo ⟨19, 0, ByteArray.empty, [x]⟩ 0) (ownRefs ⟨19, 0, ByteArray.empty, [x]⟩ 0 []) = _
  have e1 : nextAgo ⟨19, 0, ByteArray.empty, [x]⟩ 0 = 1 := rfl
  have e2 : ownRefs ⟨19, 0, ByteArray.empty, [x]⟩ 0 [] = [] := rfl
  rw [e1, e2]
  exact gat_later 1 k x
theorem gat_of2 (k : Nat) (x y : Ex) (o : Nat) (ho : o ≠ 3) : gat (k + 1) ⟨o, 0, ByteArray.empty, [x, y]⟩ 0 [] = ((gat k x 0 [] ++ gat k y 0 []).map (later (moreOf o))).foldl addR [] := by
  show gat k y (nextAgo ⟨o, 0, ByteArray.empty, [x, y]⟩ 0) (gat k x (nextAgo ⟨o, 0, ByteArray.empty, [x, y]⟩ 0) (ownRefs ⟨o, 0, ByteArray.empty, [x, y]⟩ 0 [])) = _
  have e1 : nextAgo ⟨o, 0, ByteArray.empty, [x, y]⟩ 0 = moreOf o := by unfold nextAgo moreOf; split <;> simp_all
  have e2 : ownRefs ⟨o, 0, ByteArray.empty, [x, y]⟩ 0 [] = [] := by unfold ownRefs; rw [if_neg (by simpa using ho)]
  rw [e1, e2, gat_two, gat_later (moreOf o) k x, gat_later (moreOf o) k y, ← List.map_append]
theorem nm_one {k o : Nat} {x : Ex} (h : NmOk k x) : NmOk (k + 1) ⟨o, 0, ByteArray.empty, [x]⟩ := ⟨by show (0 : Nat) ≤ _; omega, fun y hy => by rw [List.mem_singleton.1 hy]; exact h⟩
theorem nm_two {k o : Nat} {x y : Ex} (h : NmOk k x) (h2 : NmOk k y) : NmOk (k + 1) ⟨o, 0, ByteArray.empty, [x, y]⟩ := ⟨by show (0 : Nat) ≤ _; omega, fun z hz => by
  rcases List.mem_cons.1 hz with rfl | hz
  · exact h
  · rw [List.mem_singleton.1 hz]; exact h2⟩
theorem cnt_one (k o : Nat) (x : Ex) : cnt (k + 1) ⟨o, 0, ByteArray.empty, [x]⟩ = 1 + cnt k x := rfl
theorem cnt_two (k o : Nat) (x y : Ex) : cnt (k + 1) ⟨o, 0, ByteArray.empty, [x, y]⟩ = 1 + cnt k x + cnt k y := rfl
theorem pl_ago : ∀ (k : Nat) (x : Ex) (ago : Nat) (r : Rf), r ∈ pl k x ago → r.2 ≤ ago + k
  | 0, _, _, r, h => by cases h
  | k + 1, x, ago, r, h => by
    rcases List.mem_append.1 (show r ∈ (if x.op = 3 then [(x.name, ago)] else []) ++ x.args.flatMap (fun y => pl k y (nextAgo x ago)) from h) with h | h
    · split at h
      · rw [List.mem_singleton.1 h]; show ago ≤ _; omega
      · cases h
    · obtain ⟨y, hy, hr⟩ := List.mem_flatMap.1 h
      have := pl_ago k y _ r hr
      have h2 : nextAgo x ago ≤ ago + 1 := by unfold nextAgo; split <;> omega
      omega
theorem gat_ago (k : Nat) (x : Ex) : ∀ r ∈ gat k x 0 [], r.2 ≤ k := fun r h => by
  rw [gat_pl, fold_mem] at h
  rcases h with h | h
  · cases h
  · have := pl_ago k x 0 r h; omega
theorem gat_foldA {k : Nat} (ih : ∀ (x : Ex) (ago : Nat) (acc : List Rf), (gat k x ago acc).length ≤ acc.length + cnt k x) (ago B : Nat) : ∀ (l : List Ex) (acc : List Rf) (n : Nat), acc.length ≤ B + n → (l.foldl (fun acc y => gat k y ago acc) acc).length ≤ B + l.foldl (fun n y => n + cnt k y) n
  | [], acc, n, h => h
  | y :: l, acc, n, h => by
    rw [List.foldl_cons, List.foldl_cons]
    exact gat_foldA ih ago B l _ _ (by have := ih y ago acc; omega)
theorem gat_lenA : ∀ (k : Nat) (x : Ex) (ago : Nat) (acc : List Rf), (gat k x ago acc).length ≤ acc.length + cnt k x
  | 0, x, ago, acc => by simp [gat, cnt]
  | k + 1, x, ago, acc => by
    rw [gat, cnt]
    refine gat_foldA (gat_lenA k) _ acc.length x.args _ 1 ?_
    unfold ownRefs addR
    split
    · split <;> simp
    · omega
theorem addR_len (acc : List Rf) (r : Rf) : (addR acc r).length ≤ acc.length + 1 := by unfold addR; split <;> simp
theorem foldR_len : ∀ (l acc : List Rf), (l.foldl addR acc).length ≤ acc.length + l.length
  | [], acc => by simp
  | r :: l, acc => by
    rw [List.foldl_cons]
    have h1 := foldR_len l (addR acc r)
    have h2 := addR_len acc r
    simp only [List.length_cons]
    omega
def wantA (L : List Rf) (m i : Nat) : List Rf := ((L.take i).map (later m)).foldl addR []
theorem wantA_succ (L : List Rf) (m i : Nat) (h : i < L.length) : wantA L m (i + 1) = addR (wantA L m i) (later m L[i]) := by
  unfold wantA
  rw [List.take_succ_eq_append_getElem h, List.map_append, List.foldl_append]
  rfl
theorem wantA_all (L : List Rf) (m : Nat) : wantA L m L.length = (L.map (later m)).foldl addR [] := by unfold wantA; rw [List.take_length]
theorem wantA_len (L : List Rf) (m i : Nat) : (wantA L m i).length ≤ i := by
  unfold wantA
  refine Nat.le_trans (foldR_len ((L.take i).map (later m)) []) ?_
  rw [List.length_map, List.length_take]
  simp only [List.length_nil]
  omega
theorem st_one {W : World} {x : Ex} {s : Value} (op : Nat) (hop : op < 256) (g : Nat) (hx : St W x s) (hc : W.heap[g]? = some (.cells (ex4 x s) 25 (0, 0))) : St W ⟨op, 0, ByteArray.empty, [x]⟩ (.slice (some ⟨g, 0, none⟩) 1 1) := by
  refine St.intro (⟨op, 0, ByteArray.empty, [x]⟩ : Ex) (some ⟨g, 0, none⟩) 1 (fun _ => s) hop (by show (-9223372036854775808 : Int) ≤ 0 ∧ (0 : Int) ≤ 9223372036854775807; omega) (by show (0 : Nat) ≤ _; omega) (by show (1 : Nat) ≤ _; omega) (Nat.le_refl _) (.inr ⟨g, 0, rfl, fun i hi => ?_⟩) (fun i hi => ?_)
  · obtain rfl : i = 0 := by have : i < 1 := hi; omega
    exact ⟨(cell_of_row _ _ _ _ 25 (0, 0) hc).trans rfl, (cell_of_row _ _ _ _ 25 (0, 0) hc).trans rfl, (cell_of_row _ _ _ _ 25 (0, 0) hc).trans rfl, (cell_of_row _ _ _ _ 25 (0, 0) hc).trans rfl⟩
  · obtain rfl : i = 0 := by have : i < 1 := hi; omega
    exact hx
theorem st_two {W : World} {x y : Ex} {s t : Value} (op : Nat) (hop : op < 256) (g : Nat) (hx : St W x s) (hy : St W y t) (hc : W.heap[g]? = some (.cells #[.int .u8 (x.op : Int), .int .i64 x.n, .string x.name, s, .int .u8 (y.op : Int), .int .i64 y.n, .string y.name, t] 25 (0, 0))) : St W ⟨op, 0, ByteArray.empty, [x, y]⟩ (.slice (some ⟨g, 0, none⟩) 2 2) := by
  refine St.intro (⟨op, 0, ByteArray.empty, [x, y]⟩ : Ex) (some ⟨g, 0, none⟩) 2 (fun i => if i = 0 then s else t) hop (by show (-9223372036854775808 : Int) ≤ 0 ∧ (0 : Int) ≤ 9223372036854775807; omega) (by show (0 : Nat) ≤ _; omega) (by show (2 : Nat) ≤ _; omega) (Nat.le_refl _) (.inr ⟨g, 0, rfl, fun i hi => ?_⟩) (fun i hi => ?_)
  · have hi2 : i < 2 := hi
    obtain rfl | rfl : i = 0 ∨ i = 1 := by omega
    · exact ⟨(cell_of_row _ _ _ _ 25 (0, 0) hc).trans rfl, (cell_of_row _ _ _ _ 25 (0, 0) hc).trans rfl, (cell_of_row _ _ _ _ 25 (0, 0) hc).trans rfl, (cell_of_row _ _ _ _ 25 (0, 0) hc).trans rfl⟩
    · exact ⟨(cell_of_row _ _ _ _ 25 (0, 0) hc).trans rfl, (cell_of_row _ _ _ _ 25 (0, 0) hc).trans rfl, (cell_of_row _ _ _ _ 25 (0, 0) hc).trans rfl, (cell_of_row _ _ _ _ 25 (0, 0) hc).trans rfl⟩
  · have hi2 : i < 2 := hi
    obtain rfl | rfl : i = 0 ∨ i = 1 := by omega
    · exact hx
    · exact hy
/-- The two in their variables. -/
structure AG (w : World) (x y : Ex) (s t : Value) (W : World) : Prop where
  xrow : W.heap[w.heap.size]? = some (.cells (ex4 x s) 25 (0, 0))
  yrow : W.heap[w.heap.size + 1]? = some (.cells (ex4 y t) 25 (0, 0))
  S : St W x s
  T : St W y t
  A : AEnv W
  below : Below w.heap.size w W
theorem keep_rowA {W W' : World} {k : Nat} {o : Obj} (h : W.heap[k]? = some o) (hb : Below W.heap.size W W') : W'.heap[k]? = some o := (hb.block _ (Array.getElem?_eq_some_iff.1 h).1).trans h
theorem AG.keep {w W W' : World} {x y : Ex} {s t : Value} (h : AG w x y s t W) (hb : Below W.heap.size W W') : AG w x y s t W' :=
  ⟨keep_rowA h.xrow hb, keep_rowA h.yrow hb, h.S.keep hb, h.T.keep hb, h.A.below hb, h.below.trans (hb.mono h.below.size)⟩
theorem own_carryA {w W : World} {lo t c n : Nat} {v : Value} {xs : List Value} (h : w.ownsRow lo t c v n xs) (hb : ∀ b, lo ≤ b → b < w.heap.size → W.heap[b]? = w.heap[b]?) : W.ownsRow lo t c v n xs := by
  obtain ⟨h1, h2 | ⟨g, cap, cur, e, hg, hr, h3⟩⟩ := h
  · exact ⟨h1, .inl h2⟩
  · exact ⟨h1, .inr ⟨g, cap, cur, e, hg, (hb g hg (Array.getElem?_eq_some_iff.1 hr).1).trans hr, h3⟩⟩
theorem own_loA {w : World} {lo t c n : Nat} {v : Value} {xs : List Value} (h : w.ownsRow lo t c v n xs) : ∀ b, v.ownBlock = some b → lo ≤ b ∧ b < w.heap.size := fun b e => by
  obtain ⟨_, ⟨h2, _⟩ | ⟨g, cap, cur, e2, hg, hr, _⟩⟩ := h
  · rw [h2] at e; cases e
  · rw [e2] at e
    obtain rfl : g = b := by simpa [Value.ownBlock] using e
    exact ⟨hg, (Array.getElem?_eq_some_iff.1 hr).1⟩
/-- The list of what is wanted, while it is made. -/
structure WL (w1 : World) (l : List Rf) (v : Value) (W : World) : Prop where
  below : Below w1.heap.size w1 W
  own : W.ownsRow w1.heap.size 51 2 v l.length (refsV l)
theorem WL.start (w1 : World) : WL w1 [] (.slice none 0 0) w1 := ⟨Below.refl _ _, rfl, .inl ⟨rfl, rfl⟩⟩
theorem WL.keep {w1 W W' : World} {l : List Rf} {v : Value} (h : WL w1 l v W) (hb : Below W.heap.size W W') : WL w1 l v W' := ⟨h.below.trans (hb.mono h.below.size), own_carryA h.own (fun b _ hlt => hb.block b hlt)⟩
theorem WL.grow {w1 W W' : World} {l : List Rf} {v v' : Value} {r : Rf} (h : WL w1 l v W) (hown : W'.ownsRow w1.heap.size 51 2 v' (l.length + 1) (refsV l ++ [.string r.1, .int .i64 (r.2 : Int)])) (hg : W.grownBy W' v.ownBlock) : WL w1 (l ++ [r]) v' W' where
  below := h.below.grown hg h.below.size (fun j hj => (own_loA h.own j hj).1)
  own := by
    have e1 : (l ++ [r]).length = l.length + 1 := by simp
    have e2 : refsV (l ++ [r]) = refsV l ++ [.string r.1, .int .i64 (r.2 : Int)] := by simp [refsV]
    rw [e1, e2]
    exact hown
/-- The list and the one that is looked for in it. -/
structure IN (w1 : World) (l : List Rf) (v : Value) (rb : Nat) (r : Rf) (W : World) : Prop where
  L : WL w1 l v W
  row : W.heap[rb]? = some (.cells #[.string r.1, .int .i64 (r.2 : Int)] 51 (0, 0))
theorem IN.keep {w1 W W' : World} {l : List Rf} {v : Value} {rb : Nat} {r : Rf} (h : IN w1 l v rb r W) (hb : Below W.heap.size W W') : IN w1 l v rb r W' := ⟨h.L.keep hb, keep_rowA h.row hb⟩
theorem IN.cells {w1 W : World} {l : List Rf} {v : Value} {rb : Nat} {r : Rf} (h : IN w1 l v rb r W) : W.cell? ⟨rb, 0, none⟩ = some (.string r.1) ∧ W.cell? ⟨rb, 1, none⟩ = some (.int .i64 (r.2 : Int)) := ⟨(cell_of_row _ _ _ _ 51 (0, 0) h.row).trans rfl, (cell_of_row _ _ _ _ 51 (0, 0) h.row).trans rfl⟩
theorem ref_eqA (a b : ByteArray) (m n : Nat) (w : World) : (if a.toList = b.toList then (if (m : Int) = (n : Int) then Result.ok (Next.value (Value.bool true)) w else Result.ok (Next.value (Value.bool false)) w) else Result.ok (Next.value (Value.bool false)) w) = (Result.ok (Next.value (Value.bool (a.data.toList == b.data.toList && m == n))) w) := by
  rw [ByteArray.toList_eq, ByteArray.toList_eq]
  by_cases e1 : a.data.toList = b.data.toList
  · rw [if_pos e1, beq_iff_eq.2 e1]
    by_cases e2 : m = n
    · subst e2; rw [if_pos rfl]; simp
    · rw [if_neg (by omega), beq_eq_false_iff_ne.2 e2]; rfl
  · rw [if_neg e1, beq_eq_false_iff_ne.2 e1]; rfl
theorem inf51A : (Tryd.prog.info? 51).map (fun i => (i.zero, i.size, i.bytes)) = some (some (.agg #[.string ByteArray.empty, .int .i64 0]), 2, 24) := by kernel_rfl
theorem two_newA (w : World) (x y : Value) : ∀ j u, [x, y][j]? = some u → (w.alloc (.cells #[x, y] 51)).cell? ((⟨w.heap.size, 0, none⟩ : Addr).add j) = some u := by
  intro j u hj
  have hadd : (⟨w.heap.size, 0, none⟩ : Addr).add j = ⟨w.heap.size, j, none⟩ := by unfold Addr.add; split <;> simp_all
  rw [hadd, World.cell?_alloc_at _ _ _ _ rfl]
  simpa using hj
end Go.Proofs.YtkieljleopbhoaaDoor.Lex
