/-
  With brackets around each part: the contract of the law's own full.
-/
import Derived.Test.YtkieljleopbhoaaDoorFullM
import Derived.Test.YtkieljleopbhoaaDoorGather
import Derived.Test.YtkieljleopbhoaaDoorIs
import Derived.BigQuiet
namespace Go.Proofs.YtkieljleopbhoaaDoor.Lex
open Go.ChangeShapes Go.WideShapes Go.ChangeAt Go.RowKit Go.Joins
/-- A part in brackets, as a string. -/
def bS (a : Ex) : Value := .string ⟨(br (fl a)).toArray⟩
/-- What holds while the parts are gathered. -/
structure FlS (w : World) (x : Ex) (c : Array Value) (i : Nat) (v : Value) (W : World) : Prop where
  below : Below w.heap.size w W
  box : W.heap[w.heap.size]? = some (.cells c 25 (0, 0))
  row : W.ownsRow (w.heap.size + 1) 9 1 v i ((x.args.take i).map bS)
theorem FlS.lt {w W : World} {x : Ex} {c : Array Value} {i : Nat} {v : Value} (h : FlS w x c i v W) : w.heap.size + 1 ≤ W.heap.size := (Array.getElem?_eq_some_iff.1 h.box).1
theorem FlS.step {w W W' : World} {x : Ex} {c : Array Value} {i : Nat} {v : Value} (h : FlS w x c i v W) (hb : Below W.heap.size W W') : FlS w x c i v W' :=
  ⟨bstep h.below hb, (hb.block _ (Array.getElem?_eq_some_iff.1 h.box).1).trans h.box, ownsRow_below h.row hb⟩
theorem FlS.grow {w W W' : World} {x : Ex} {c : Array Value} {i : Nat} {v v' : Value} (h : FlS w x c i v W) (y : Ex) (ht : x.args.take (i + 1) = x.args.take i ++ [y]) (hg : W.grownBy W' v.ownBlock) (hr : W'.ownsRow (w.heap.size + 1) 9 1 v' (i + 1) ((x.args.take i).map bS ++ [bS y])) : FlS w x c (i + 1) v' W' := by
  have hlt := h.row.lt
  have hl := h.lt
  refine ⟨h.below.grown hg (by omega) (fun k hk => by have := (hlt k hk).1; omega), ?_, ?_⟩
  · rw [hg.block _ (by omega) (fun e => by have := (hlt _ e.symm).1; omega)]; exact h.box
  · rw [ht, List.map_append]; exact hr
theorem one_new (w : World) (x : Value) : ∀ j u, [x][j]? = some u → (w.alloc (.cells #[x] 9)).cell? ((⟨w.heap.size, 0, none⟩ : Addr).add j) = some u := by
  intro j u hj
  have hadd : (⟨w.heap.size, 0, none⟩ : Addr).add j = ⟨w.heap.size, j, none⟩ := by unfold Addr.add; split <;> simp_all
  rw [hadd, World.cell?_alloc_at _ _ _ _ rfl]
  rcases j with _ | j
  · simpa using hj
  · simp at hj
theorem info9' : (Tryd.prog.info? 9).map (fun i => (i.zero, i.size, i.bytes)) = some (some (.string ByteArray.empty), 1, 16) := by kernel_rfl
theorem br_bytes (l : List UInt8) : (⟨#[40]⟩ : ByteArray) ++ ⟨l.toArray⟩ ++ (⟨#[41]⟩ : ByteArray) = ⟨(br l).toArray⟩ := by
  apply ByteArray.ext
  apply Array.toList_inj.1
  simp [br, ByteArray.data_append]
theorem szL_all {f : Nat → Ex → Option Nat} {M : Nat} : ∀ (l : List Ex) (n k : Nat), szL f M n l = some k → ∀ i (h : i < l.length), ∃ m ka, m ≤ M ∧ f m l[i] = some ka
  | [], _, _, _, i, h => by simp at h
  | a :: l, n, k, hz, i, h => by
    obtain ⟨ka, h1, h2⟩ := szL_cons hz
    cases i with
    | zero => exact ⟨M - n, ka, Nat.sub_le _ _, h1⟩
    | succ i => exact szL_all l _ _ h2 i (by simpa using h)
theorem cat_bytes (a b : Array UInt8) : (⟨a⟩ : ByteArray) ++ (⟨b⟩ : ByteArray) = ⟨a ++ b⟩ := by
  apply ByteArray.ext
  simp [ByteArray.data_append]
/-- The signs, by their number. -/
def sigN (k : Nat) : ByteArray := [⟨#[43]⟩, ⟨#[45]⟩, ⟨#[42]⟩, ⟨#[47]⟩, ⟨#[37]⟩, ⟨#[61, 61]⟩, ⟨#[33, 61]⟩, ⟨#[60]⟩, ⟨#[60, 61]⟩, ⟨#[97, 110, 100]⟩, ⟨#[111, 114]⟩].getD k ⟨#[45, 62]⟩
def sgAt (op k : Nat) : ByteArray := if 6 ≤ op ∧ op < 6 + k then sigN (op - 6) else ⟨#[45, 62]⟩
def sigFV : Array Value := #[.string ⟨#[43]⟩, .string ⟨#[45]⟩, .string ⟨#[42]⟩, .string ⟨#[47]⟩, .string ⟨#[37]⟩, .string ⟨#[61, 61]⟩, .string ⟨#[33, 61]⟩, .string ⟨#[60]⟩, .string ⟨#[60, 61]⟩, .string ⟨#[97, 110, 100]⟩, .string ⟨#[111, 114]⟩]
def opFV : Array Value := #[.int .u8 6, .int .u8 7, .int .u8 8, .int .u8 9, .int .u8 10, .int .u8 11, .int .u8 12, .int .u8 13, .int .u8 14, .int .u8 15, .int .u8 16]
theorem sigFV_at (k : Nat) (h : k < 11) : sigFV[k]? = some (.string (sigN k)) := by
  have : ∀ k, k < 11 → sigFV[k]? = some (.string (sigN k)) := fun k h => by
    obtain rfl | rfl | rfl | rfl | rfl | rfl | rfl | rfl | rfl | rfl | rfl : k = 0 ∨ k = 1 ∨ k = 2 ∨ k = 3 ∨ k = 4 ∨ k = 5 ∨ k = 6 ∨ k = 7 ∨ k = 8 ∨ k = 9 ∨ k = 10 := by omega
    all_goals rfl
  exact this k h
theorem opFV_at (k : Nat) (h : k < 11) : opFV[k]? = some (.int .u8 ((6 + k : Nat) : Int)) := by
  obtain rfl | rfl | rfl | rfl | rfl | rfl | rfl | rfl | rfl | rfl | rfl : k = 0 ∨ k = 1 ∨ k = 2 ∨ k = 3 ∨ k = 4 ∨ k = 5 ∨ k = 6 ∨ k = 7 ∨ k = 8 ∨ k = 9 ∨ k = 10 := by omega
  all_goals rfl
theorem sigN_small (k : Nat) : (sigN k).size ≤ 3 := by
  by_cases h : k < 11
  · obtain rfl | rfl | rfl | rfl | rfl | rfl | rfl | rfl | rfl | rfl | rfl : k = 0 ∨ k = 1 ∨ k = 2 ∨ k = 3 ∨ k = 4 ∨ k = 5 ∨ k = 6 ∨ k = 7 ∨ k = 8 ∨ k = 9 ∨ k = 10 := by omega
    all_goals decide
  · unfold sigN
    rw [List.getD_eq_getElem?_getD, List.getElem?_eq_none (by simp; omega)]
    decide
theorem sgAt_small (op k : Nat) : (sgAt op k).size ≤ 3 := by
  unfold sgAt
  split
  · exact sigN_small _
  · decide
theorem sgAt_join {op : Nat} {j : J} (h : jOf op = some j) : sgAt op 11 = j.text := by
  obtain ⟨h1, h2⟩ := jOf_mem h
  subst h2
  have : ∀ j ∈ JT, (sgAt j.op 11).data = j.text.data := by decide
  exact ByteArray.ext (this j h1)
/-- What holds while the sign is looked for. -/
structure Fl2 (w : World) (c : Array Value) (g bs : Nat) (A B : Value) (W : World) : Prop where
  below : Below w.heap.size w W
  box : W.heap[w.heap.size]? = some (.cells c 25 (0, 0))
  sigs : W.heap[bs]? = some (.cells sigFV 9 (0, 0))
  ops : W.heap[bs + 1]? = some (.cells opFV 22 (0, 0))
  one : W.cell? ⟨g, 0, none⟩ = some A
  two : W.cell? ⟨g, 1, none⟩ = some B
theorem Fl2.step {w W W' : World} {c : Array Value} {g bs : Nat} {A B : Value} (h : Fl2 w c g bs A B W) (b : Below W.heap.size W W') : Fl2 w c g bs A B W' :=
  ⟨bstep h.below b, (b.block _ (Array.getElem?_eq_some_iff.1 h.box).1).trans h.box, (b.block _ (Array.getElem?_eq_some_iff.1 h.sigs).1).trans h.sigs, (b.block _ (Array.getElem?_eq_some_iff.1 h.ops).1).trans h.ops, cell_kept h.one b, cell_kept h.two b⟩
theorem int_ne {a : Nat} (k : Nat) (h : a ≠ k) : ((a : Int) == (k : Int)) = false := by simp; omega
/-- Full's contract. -/
def FullC (x : Ex) : Prop := ∀ (w : World) (s : Value) (d M k : Nat), M ≤ 200 → sz d M x = some k → St w x s → Env w → Calls Tryd.prog 17 #[exV x s] w fun e w' => e = .returned (.string ⟨(fl x).toArray⟩) ∧ Below w.heap.size w w'
theorem chk_leaf {x : Ex} (h : x.args = []) (hf : fieldsOk x.op x.n x.name x.args.length = true) : chk x = true := by
  unfold chk
  rw [sz, if_neg (by rw [hf]; simp), h]
  simp [szL]
set_option maxRecDepth 100000 in
set_option maxHeartbeats 2000000 in
theorem full_leaf (x : Ex) (he : x.args = []) (hf : fieldsOk x.op x.n x.name x.args.length = true) (w : World) (s : Value) (hS : St w x s) (E : Env w) : Calls Tryd.prog 17 #[exV x s] w fun e w' => e = .returned (.string ⟨(fl x).toArray⟩) ∧ Below w.heap.size w w' := by
  have c9 := fun W (b : Below w.heap.size w W) => text x W s (hS.keep b) (E.below b)
  have e1 : txt x = fl x := by rw [fl_leaf he]; unfold txt; rw [chk_leaf he hf]; rfl
  rw [e1] at c9
  obtain ⟨ao, cap, sl, rfl, _⟩ := hS.out
  have b0 := (Below.refl w.heap.size w).alloc (Nat.le_refl _) (.cells (ex4 x (.slice ao x.args.length cap)) 25)
  have B0 := hid b0
  obtain ⟨p0, p1, p2, p3⟩ := row_cells4 (heap_alloc_new w (.cells (ex4 x (.slice ao x.args.length cap)) 25))
  have hl0 : ((x.args.length : Int) == 0) = true := by rw [he]; rfl
  have c := c9 _ b0
  clear c9 e1 hS E b0 hf he
  generalize (⟨(fl x).toArray⟩ : ByteArray) = T at *
  go_enter Tryd.func17, Tryd.ntmps17
  go_wp2_with (go_at_call 9; refine c.mono ?_; rintro e w2 ⟨rfl, b2⟩; have B2 := hid (bstep B0.out b2); clear b2 c B0)
  go_ret
  exact ⟨rfl, B2.out⟩
set_option maxRecDepth 100000 in
set_option maxHeartbeats 4000000 in
theorem full_of (x : Ex) (ih : ∀ i (h : i < x.args.length), FullC x.args[i]) : FullC x := by
  intro w s d M kk hM hz hS E
  cases d with
  | zero => simp [sz] at hz
  | succ d =>
  obtain ⟨_, hf, hl⟩ := sz_parts hz
  by_cases h0 : x.args.length = 0
  · exact full_leaf x (len0 h0) hf w s hS E
  have hparts : ∀ k (h : k < x.args.length), ∃ M' k', M' ≤ 200 ∧ sz d M' x.args[k] = some k' := fun k h => by
    obtain ⟨m, ka, h1, h2⟩ := szL_all x.args 1 kk hl k h
    exact ⟨m, ka, by omega, h2⟩
  obtain ⟨ao, cap, sl, rfl, hop, hn, hnm, hlen, hcap, hc, hs⟩ := hS.out
  obtain ⟨i0, hi, hi0, hi1, hi2⟩ := info_parts info9'
  have HS := hid hs
  have HC := hid hc
  have HI := hid ih
  have HE := hid E
  have HP := hid hparts
  have HF := hid hf
  have HZ : Hid (∀ k (h : k < x.args.length), (⟨(br (fl x.args[k])).toArray⟩ : ByteArray).size ≤ 65536) := fun k h => by
    obtain ⟨M', k', h1, h2⟩ := hparts k h
    have := (G_any d M' x.args[k] k' w (sl k) h2 (hs k h)).2.2.2
    have := (sz_le _ _ _ _ h2).2
    rw [Lib.size_eq]
    show (br (fl x.args[k])).length ≤ 65536
    simp only [br, List.length_cons, List.length_append, List.length_nil]
    omega
  have b0 := (Below.refl w.heap.size w).alloc (Nat.le_refl _) (.cells (ex4 x (.slice ao x.args.length cap)) 25)
  have F0 : Hid (FlS w x (ex4 x (.slice ao x.args.length cap)) 0 (.slice none 0 0) (w.alloc (.cells (ex4 x (.slice ao x.args.length cap)) 25))) := ⟨b0, heap_alloc_new w _, World.ownsRow_nil _ _ _ _⟩
  obtain ⟨p0, p1, p2, p3⟩ := row_cells4 F0.out.box
  have hl0 : ((x.args.length : Int) == 0) = false := by simp; intro h; exact h0 (by rw [h]; rfl)
  have FEW : Hid (x.args.length ≤ 3) := by
    unfold Hid
    rcases fields_cases hf with ⟨h1, h2, h3⟩ | ⟨h1, h2, h3⟩ | ⟨h1, h2, h3⟩ | ⟨h1, h3⟩ | ⟨h1, h3⟩ | ⟨⟨r, hr⟩, h3⟩ <;> omega
  clear hs hc ih hS E hparts hf hl hz b0
  go_enter Tryd.func17, Tryd.ntmps17
  go_wp2
  go_loopw [5, 6] (fun v i wr => ∃ k : Nat, k ≤ x.args.length ∧ i = .int .i64 (k : Int) ∧ Hid (FlS w x (ex4 x (.slice ao x.args.length cap)) k v wr)) (fun _ i _ => x.args.length - (intOf i).toNat)
  case atStart => exact ⟨0, Nat.zero_le _, rfl, F0⟩
  case round =>
    obtain ⟨k, hk, rfl, hF⟩ := hrel
    clear p0 p1 p2 p3 F0
    obtain ⟨p0, p1, p2, p3⟩ := row_cells4 hF.out.box
    by_cases hlt : k < x.args.length
    · have hlt' : (k : Int) < (x.args.length : Int) := by omega
      have hk0 : (0 : Int) ≤ (k : Int) := by omega
      obtain ⟨b, o, rfl, hc⟩ := HC.out.resolve_left (by omega)
      obtain ⟨h0, h1, h2, h3⟩ := hc k hlt
      have y0 := cell_kept h0 hF.out.below
      have y1 := cell_kept h1 hF.out.below
      have y2 := cell_kept h2 hF.out.below
      have y3 := cell_kept h3 hF.out.below
      obtain ⟨M', k', hM', hz'⟩ := HP.out k hlt
      have c := HI.out k hlt wr (sl k) d M' k' hM' hz' ((HS.out k hlt).keep hF.out.below) (HE.out.below hF.out.below)
      have HT : Hid (x.args.take (k + 1) = x.args.take k ++ [x.args[k]]) := by unfold Hid; simp
      have hsz : (⟨(fl x.args[k]).toArray⟩ : ByteArray).size ≤ 65536 := by
        have := (G_any d M' x.args[k] k' wr (sl k) hz' ((HS.out k hlt).keep hF.out.below)).2.2.2
        have := (sz_le _ _ _ _ hz').2
        rw [Lib.size_eq]
        show (fl x.args[k]).length ≤ 65536
        omega
      clear h0 h1 h2 h3 hc hz' HI HP
      generalize x.args[k] = y at *
      have HB : Hid (bS y = .string ((⟨#[40]⟩ : ByteArray) ++ ⟨(fl y).toArray⟩ ++ (⟨#[41]⟩ : ByteArray))) := by unfold Hid bS; rw [br_bytes]
      generalize (⟨(fl y).toArray⟩ : ByteArray) = Y at *
      go_wp2_with (first
        | (go_at_call 17; refine c.mono ?_; rintro e w2 ⟨rfl, hb2⟩; have F2 := hid (hF.out.step hb2); have F3 := hid (F2.out.step ((Below.refl w2.heap.size w2).alloc (Nat.le_refl _) (.cells #[.string ((⟨#[40]⟩ : ByteArray) ++ Y ++ (⟨#[41]⟩ : ByteArray))] 9))); clear hb2 c hF)
        | (at_builtin; refine wpList_append_own _ rfl (.tmp 28) (.tmp 37) 41 rfl (w.heap.size + 1) 9 i0 (.string ByteArray.empty) 1 16 Tryd.underlying41 hi hi0 hi1 hi2 rfl (by decide) _ _ _ rfl F3.out.row ⟨w2.heap.size, 0, none⟩ 1 1 [.string ((⟨#[40]⟩ : ByteArray) ++ Y ++ (⟨#[41]⟩ : ByteArray))] rfl rfl (one_new _ _) (by simp [Value.oneCell']) (by have := FEW.out; unfold maxLen; omega) (by have := FEW.out; omega) F3.out.lt ?_; intro v' w' hown1 hgrow1 _; have F4 := hid (F3.out.grow y HT.out hgrow1 (by rw [HB.out]; exact hown1)); clear hown1 hgrow1))
      go_roundw
      case rel => exact ⟨k + 1, by omega, by go_num, F4⟩
      case measure => simp [intOf]; omega
    · have hlt' : ¬ (k : Int) < (x.args.length : Int) := by omega
      obtain rfl : k = x.args.length := by omega
      have R := hF.out.row
      have HFo := HF.out
      rcases fields_cases HFo with ⟨h1, h2, h3⟩ | ⟨h1, h2, h3⟩ | ⟨h1, h2, h3⟩ | ⟨h1, h3⟩ | ⟨h1, h3⟩ | ⟨⟨r, hr⟩, h3⟩
      · exact absurd h3 h0
      · exact absurd h3 h0
      · exact absurd h3 h0
      · obtain ⟨a, ea⟩ := len1 h3
        have z0 := HZ.out 0 (by omega)
        simp only [ea, List.getElem_cons_zero] at z0
        rw [List.take_length, ea] at R
        simp only [List.length_cons, List.length_nil, List.map_cons, List.map_nil] at R
        obtain ⟨g, cc, rfl⟩ := own_slice R
        have q0 := (R.cellAt 0 (by decide)).trans (show [bS a][0]? = some (bS a) from rfl)
        clear R HZ HS HC HI HP HFo HF
        rcases h1 with h1 | h1 | h1
        · have e4 : ((x.op : Int) == 4) = true := by simp; omega
          have HR : Hid ((⟨(fl x).toArray⟩ : ByteArray) = (⟨#[45]⟩ : ByteArray) ++ ⟨(br (fl a)).toArray⟩) := by unfold Hid; rw [cat_bytes, fl_one ea, if_pos h1]; simp
          unfold bS at q0
          generalize (⟨(br (fl a)).toArray⟩ : ByteArray) = A at *
          clear h1
          go_wp2
          go_ret
          exact ⟨(congrArg (fun b => Ending.returned (Value.string b)) HR.out).symm, hF.out.below⟩
        · have e4 : ((x.op : Int) == 4) = false := by simp; omega
          have e5 : ((x.op : Int) == 5) = true := by simp; omega
          have HR : Hid ((⟨(fl x).toArray⟩ : ByteArray) = (⟨#[110, 111, 116, 32]⟩ : ByteArray) ++ ⟨(br (fl a)).toArray⟩) := by unfold Hid; rw [cat_bytes, fl_one ea, if_neg (by omega), if_pos h1]; simp
          unfold bS at q0
          generalize (⟨(br (fl a)).toArray⟩ : ByteArray) = A at *
          clear h1
          go_wp2
          go_ret
          exact ⟨(congrArg (fun b => Ending.returned (Value.string b)) HR.out).symm, hF.out.below⟩
        · have e4 : ((x.op : Int) == 4) = false := by simp; omega
          have e5 : ((x.op : Int) == 5) = false := by simp; omega
          have e19 : ((x.op : Int) == 19) = true := by simp; omega
          have HR : Hid ((⟨(fl x).toArray⟩ : ByteArray) = (⟨#[112, 114, 101, 32]⟩ : ByteArray) ++ ⟨(br (fl a)).toArray⟩) := by unfold Hid; rw [cat_bytes, fl_one ea, if_neg (by omega), if_neg (by omega)]; simp
          unfold bS at q0
          generalize (⟨(br (fl a)).toArray⟩ : ByteArray) = A at *
          clear h1
          go_wp2
          go_ret
          exact ⟨(congrArg (fun b => Ending.returned (Value.string b)) HR.out).symm, hF.out.below⟩
      · obtain ⟨a, b, c, ea⟩ := len3 h3
        have z0 := HZ.out 0 (by omega)
        have z1 := HZ.out 1 (by omega)
        have z2 := HZ.out 2 (by omega)
        simp only [ea, List.getElem_cons_zero, List.getElem_cons_succ] at z0 z1 z2
        rw [List.take_length, ea] at R
        simp only [List.length_cons, List.length_nil, List.map_cons, List.map_nil] at R
        obtain ⟨g, cc, rfl⟩ := own_slice R
        have q0 := (R.cellAt 0 (by decide)).trans (show [bS a, bS b, bS c][0]? = some (bS a) from rfl)
        have q1 := (R.cellAt 1 (by decide)).trans (show [bS a, bS b, bS c][1]? = some (bS b) from rfl)
        have q2 := (R.cellAt 2 (by decide)).trans (show [bS a, bS b, bS c][2]? = some (bS c) from rfl)
        clear R HZ HS HC HI HP HFo HF
        have e4 : ((x.op : Int) == 4) = false := by simp; omega
        have e5 : ((x.op : Int) == 5) = false := by simp; omega
        have e19 : ((x.op : Int) == 19) = false := by simp; omega
        have e17 : ((x.op : Int) == 17) = true := by simp; omega
        have HR : Hid ((⟨(fl x).toArray⟩ : ByteArray) = (⟨#[105, 102, 32]⟩ : ByteArray) ++ ⟨(br (fl a)).toArray⟩ ++ (⟨#[32, 116, 104, 101, 110, 32]⟩ : ByteArray) ++ ⟨(br (fl b)).toArray⟩ ++ (⟨#[32, 101, 108, 115, 101, 32]⟩ : ByteArray) ++ ⟨(br (fl c)).toArray⟩) := by unfold Hid; simp only [cat_bytes]; rw [fl_three ea]; simp
        unfold bS at q0 q1 q2
        generalize (⟨(br (fl a)).toArray⟩ : ByteArray) = A at *
        generalize (⟨(br (fl b)).toArray⟩ : ByteArray) = B at *
        generalize (⟨(br (fl c)).toArray⟩ : ByteArray) = C at *
        clear h1
        go_wp2
        go_quiet (fail)
        go_wp2
        go_ret
        exact ⟨(congrArg (fun b => Ending.returned (Value.string b)) HR.out).symm, bstep hF.out.below (below_drewN (Below.refl _ _) _)⟩
      · obtain ⟨a, b, ea⟩ := len2 h3
        have z0 := HZ.out 0 (by omega)
        have z1 := HZ.out 1 (by omega)
        simp only [ea, List.getElem_cons_zero, List.getElem_cons_succ] at z0 z1
        rw [List.take_length, ea] at R
        simp only [List.length_cons, List.length_nil, List.map_cons, List.map_nil] at R
        obtain ⟨g, cc, rfl⟩ := own_slice R
        have q0 := (R.cellAt 0 (by decide)).trans (show [bS a, bS b][0]? = some (bS a) from rfl)
        have q1 := (R.cellAt 1 (by decide)).trans (show [bS a, bS b][1]? = some (bS b) from rfl)
        clear R HZ HS HC HI HP HFo HF
        have hop3 : x.op = 18 ∨ (6 ≤ x.op ∧ x.op ≤ 16) := by
          have : ∀ j ∈ JT, j.op = 18 ∨ (6 ≤ j.op ∧ j.op ≤ 16) := by decide
          have := this r (jOf_mem hr).1
          rwa [(jOf_mem hr).2] at this
        have e4 : ((x.op : Int) == 4) = false := by simp; omega
        have e5 : ((x.op : Int) == 5) = false := by simp; omega
        have e19 : ((x.op : Int) == 19) = false := by simp; omega
        have e17 : ((x.op : Int) == 17) = false := by simp; omega
        have HR : Hid ((⟨(fl x).toArray⟩ : ByteArray) = (⟨(br (fl a)).toArray⟩ : ByteArray) ++ (⟨#[32]⟩ : ByteArray) ++ sgAt x.op 11 ++ (⟨#[32]⟩ : ByteArray) ++ ⟨(br (fl b)).toArray⟩) := by
          unfold Hid
          rw [sgAt_join hr, fl_two ea, hr, Option.getD_some]
          apply ByteArray.ext
          apply Array.toList_inj.1
          simp [ByteArray.data_append]
        unfold bS at q0 q1
        generalize (⟨(br (fl a)).toArray⟩ : ByteArray) = A at *
        generalize (⟨(br (fl b)).toArray⟩ : ByteArray) = B at *
        have G0 : Hid (Fl2 w (ex4 x (.slice ao 2 cap)) g wr.heap.size (.string A) (.string B) ((wr.alloc (.cells sigFV 9)).alloc (.cells opFV 22))) := by
          have b1 := (Below.refl wr.heap.size wr).alloc (Nat.le_refl _) (.cells sigFV 9)
          have b2 := (Below.refl _ (wr.alloc (.cells sigFV 9))).alloc (Nat.le_refl _) (.cells opFV 22)
          have b3 := bstep b1 b2
          have hbx := hF.out.box
          rw [h3] at hbx
          exact ⟨bstep hF.out.below b3, (b3.block _ (Array.getElem?_eq_some_iff.1 hbx).1).trans hbx, (b2.block _ (by simp)).trans (heap_alloc_new wr _), (by have := heap_alloc_new (wr.alloc (.cells sigFV 9)) (.cells opFV 22); simpa using this), cell_kept q0 b3, cell_kept q1 b3⟩
        go_wp2
        clear p0 p1 p2 p3 q0 q1 hF
        generalize wr.heap.size = bs at *
        go_loopw [9, 10] (fun sg i wv => ∃ k : Nat, k ≤ 11 ∧ i = .int .i64 (k : Int) ∧ sg = .string (sgAt x.op k) ∧ Hid (Fl2 w (ex4 x (.slice ao 2 cap)) g bs (.string A) (.string B) wv)) (fun _ i _ => 11 - (intOf i).toNat)
        case atStart => exact ⟨0, by omega, rfl, by rw [show sgAt x.op 0 = ⟨#[45, 62]⟩ from if_neg (by omega)], G0⟩
        case round =>
          obtain ⟨k, hk, rfl, rfl, hG⟩ := hrel
          clear G0
          obtain ⟨t0, t1, t2, t3⟩ := row_cells4 hG.out.box
          by_cases hk11 : k < 11
          · have hk' : (k : Int) < 11 := by omega
            have hk0 : (0 : Int) ≤ (k : Int) := by omega
            have o1 : wr.cell? ⟨bs + 1, k, none⟩ = some (.int .u8 (6 + (k : Int))) := ((cell_of_row _ _ _ _ 22 (0, 0) hG.out.ops).trans (opFV_at k hk11)).trans (by simp)
            have o2 : wr.cell? ⟨bs, k, none⟩ = some (.string (sigN k)) := (cell_of_row _ _ _ _ 9 (0, 0) hG.out.sigs).trans (sigFV_at k hk11)
            by_cases hop : x.op = 6 + k
            · have e1 : ((6 + (k : Int)) == (x.op : Int)) = true := by simp; omega
              have Hs : Hid (sgAt x.op (k + 1) = sigN k) := by unfold Hid sgAt; rw [if_pos (by omega), hop, Nat.add_sub_cancel_left]
              clear hop hop3
              go_wp2
              go_quiet (fail)
              go_wp2
              go_roundw
              case rel => exact ⟨k + 1, by omega, by go_num, by rw [Hs.out], hG.out.step (below_drewN (Below.refl _ _) _)⟩
              case measure => simp [intOf]; omega
            · have e1 : ((6 + (k : Int)) == (x.op : Int)) = false := by simp; omega
              have Hs : Hid (sgAt x.op (k + 1) = sgAt x.op k) := by unfold Hid sgAt; by_cases h : 6 ≤ x.op ∧ x.op < 6 + k; rw [if_pos (by omega), if_pos h]; rw [if_neg (by omega), if_neg h]
              clear hop hop3
              generalize sgAt x.op k = sk at *
              go_wp2
              go_quiet (fail)
              go_wp2
              go_roundw
              case rel => exact ⟨k + 1, by omega, by go_num, by rw [Hs.out], hG.out.step (below_drewN (Below.refl _ _) _)⟩
              case measure => simp [intOf]; omega
          · obtain rfl : k = 11 := by omega
            have q0 := hG.out.one
            have q1 := hG.out.two
            have z3 := sgAt_small x.op 11
            generalize sgAt x.op 11 = sk at *
            go_wp2
            go_quiet (fail)
            go_wp2
            go_ret
            exact ⟨(congrArg (fun b => Ending.returned (Value.string b)) HR.out).symm, bstep hG.out.below (below_drewN (Below.refl _ _) _)⟩
theorem full_any : ∀ (m : Nat) (x : Ex), SizeOf.sizeOf x ≤ m → FullC x := by
  intro m
  induction m with
  | zero => intro x h; obtain ⟨o, n, s, l⟩ := x; simp at h
  | succ m ih => intro x h; exact full_of x fun i hi => ih _ (by have := x.part_lt i hi; omega)
/-- With brackets around each part, of what may be. -/
theorem full (x : Ex) (hc : chk x = true) (w : World) (s : Value) (hS : St w x s) (E : Env w) : Calls Tryd.prog 17 #[exV x s] w fun e w' => e = .returned (.string ⟨(fl x).toArray⟩) ∧ Below w.heap.size w w' := by
  unfold chk at hc
  obtain ⟨k, hk⟩ := Option.isSome_iff_exists.1 hc
  exact full_any _ x (Nat.le_refl _) w s 32 200 k (Nat.le_refl _) hk hS E
end Go.Proofs.YtkieljleopbhoaaDoor.Lex
