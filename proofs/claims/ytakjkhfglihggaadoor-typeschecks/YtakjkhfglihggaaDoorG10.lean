/-
  Is each flow of its type: the contract of types.Check.
  The document's Check of types, over the contract of its of.
  What the document's Check of types answers is what types.Check answers.
  The document's of: the contract that its Of and Check ask for.
-/
import Derived.Test.YtakjkhfglihggaaDoorG4
import Derived.Test.YtakjkhfglihggaaDoorG5
import Derived.Test.YtakjkhfglihggaaDoorG9
import Derived.Test.YtakjkhfglihggaaDoorG8
import Derived.Deep.AppendLies
namespace Go.Proofs.YtakjkhfglihggaaDoor.Lex
open Go.ChangeShapes Go.WideShapes Go.ChangeAt Go.RowKit Go.Joins
/-- Is a flow of its type, and its default? -/
def flT (p : Pg) (f : Fl) : Bool := decide (tyE p f.body = f.ty) && fitT f.df f.ty
/-- What types.Check answers. -/
def ckV (p : Pg) : Int := if nmErr p = 0 then (if p.flows.all (flT p) then 0 else 7) else nmErr p
theorem nmErr_ok {p : Pg} (h : nmErr p = 0) : pgOk p = true := by
  unfold nmErr at h
  by_cases hp : pgOk p = true
  · exact hp
  · rw [if_neg hp] at h; omega
set_option maxRecDepth 100000 in
set_option maxHeartbeats 4000000 in
theorem types_check (p : Pg) (w : World) (A B C : Value) (hP : PgAt w p A B C) (hR : TabR w) (hJ : TabJ w) : Calls Tryd.prog 17 #[pgV p A B C] w fun e w' => e = .returned (.int .i64 (ckV p)) ∧ Below w.heap.size w w' := by
  have X0 := hid (FV.new hP hR hJ)
  obtain ⟨ao, cap, sl0, rfl, _⟩ := hP.flows
  clear hP hR hJ
  go_enter Tryd.func17, Tryd.ntmps17
  go_wp2_with (fail)
  refine ((callsIn_wide (n := 20)).1 (names_check p _ _ _ _ X0.out.P X0.out.R X0.out.J)).mono ?_
  rintro e w1 ⟨rfl, hb1⟩
  have X1 := hid (X0.out.keep hb1)
  clear hb1 X0
  by_cases hn : nmErr p = 0
  · have HK := hid (pgOk_chk (nmErr_ok hn))
    have HOV : Hid (ckV p = if p.flows.all (flT p) then 0 else 7) := hid (by unfold ckV; rw [if_pos hn])
    rw [hn]
    clear hn
    go_wp2_with (fail)
    refine (rules _).mono ?_
    rintro e w2 ⟨ab, rfl, hasks, hb2⟩
    have X2 := hid (X1.out.keep hb2)
    have AS := hid hasks
    generalize w1.heap.size = an at AS
    obtain ⟨s0, s1, s2, s3⟩ := row4 X2.out.row
    clear hb2 hasks X1
    go_wp2_with (fail)
    clear s0 s1 s2 s3
    obtain ⟨ao', cap', sl, heq, hlen, _, hok, hc, hs⟩ := X2.out.P.flows
    obtain ⟨rfl, rfl⟩ : ao = ao' ∧ cap = cap' := by simpa using heq
    have HC := hid hc
    have HS := hid hs
    clear hc hs hok heq
    go_loopw [16] (fun i wr => ∃ r : Nat, r ≤ p.flows.length ∧ i = .int .i64 (r : Int) ∧ Hid (∀ z ∈ p.flows.take r, flT p z = true) ∧ Hid (Below w2.heap.size w2 wr)) (fun i _ => p.flows.length - (intOf i).toNat)
    case atStart => exact ⟨0, Nat.zero_le _, rfl, hid (by simp), hid (Below.refl _ _)⟩
    case round =>
      obtain ⟨r, hr, rfl, HE, hB⟩ := hrel
      have FX := hid (X2.out.keep hB.out)
      by_cases hrl : r < p.flows.length
      · have hrl' : (r : Int) < (p.flows.length : Int) := by omega
        have hr0 : (0 : Int) ≤ (r : Int) := by omega
        obtain ⟨gb, go, rfl, hcc⟩ := HC.out.resolve_left (by omega)
        obtain ⟨y0, y1, y2, y3, y4, y5, y6, y7⟩ := (hcc r hrl).keep hB.out
        have HTK := hid (List.take_succ_eq_append_getElem hrl)
        have HMG := hid (List.getElem_mem hrl)
        have HST := hid ((HS.out r hrl).keep hB.out)
        clear hcc
        generalize sl r = sv at *
        generalize hy : p.flows[r] = y at *
        clear hy
        obtain ⟨sa, sc, _, rfl, _⟩ := HST.out.out
        have BA := hid ((Below.refl wr.heap.size wr).alloc (Nat.le_refl _) (.cells #[.string y.name, .int .u8 (y.ty : Int), .int .i64 y.st, .int .i64 y.df, .int .u8 (y.body.op : Int), .int .i64 y.body.n, .string y.body.name, .slice sa y.body.args.length sc] 52))
        have FA := hid (FX.out.keep BA.out)
        have bx := fun j v => box_at wr #[.string y.name, .int .u8 (y.ty : Int), .int .i64 y.st, .int .i64 y.df, .int .u8 (y.body.op : Int), .int .i64 y.body.n, .string y.body.name, .slice sa y.body.args.length sc] 52 j v
        have q0 := bx 0 _ rfl
        have q1 := bx 1 _ rfl
        have q2 := bx 2 _ rfl
        have q3 := bx 3 _ rfl
        have q4 := bx 4 _ rfl
        have q5 := bx 5 _ rfl
        have q6 := bx 6 _ rfl
        have q7 := bx 7 _ rfl
        clear bx
        obtain ⟨s0, s1, s2, s3⟩ := row4 FA.out.row
        have c31 := type_of p y.body (HK.out y HMG.out) _ _ _ _ _ an ab (FA.out.P.keep (Below.refl _ _).drew) ((AS.out.keep (hB.out.trans (BA.out.mono hB.out.size))).keep (Below.refl _ _).drew) ((HST.out.keep BA.out).keep (Below.refl _ _).drew)
        by_cases ht : tyE p y.body = y.ty
        · rw [ht] at c31
          have HTB : Hid (((y.ty : Int) != (y.ty : Int)) = false) := hid (by simp)
          go_wp2_with (fail)
          refine wp_region_held_drew (S := fun W => W.cell? ⟨w.heap.size, 0, none⟩ = some (.int .i64 p.st) ∧ W.cell? ⟨w.heap.size, 1, none⟩ = some (A) ∧ W.cell? ⟨w.heap.size, 2, none⟩ = some ((.slice (some ⟨gb, go, none⟩) p.flows.length cap)) ∧ W.cell? ⟨w.heap.size, 3, none⟩ = some (C) ∧ W.cell? ⟨wr.heap.size, 0, none⟩ = some (.string y.name) ∧ W.cell? ⟨wr.heap.size, 1, none⟩ = some (.int .u8 (y.ty : Int)) ∧ W.cell? ⟨wr.heap.size, 2, none⟩ = some (.int .i64 y.st) ∧ W.cell? ⟨wr.heap.size, 3, none⟩ = some (.int .i64 y.df) ∧ W.cell? ⟨wr.heap.size, 4, none⟩ = some (.int .u8 (y.body.op : Int)) ∧ W.cell? ⟨wr.heap.size, 5, none⟩ = some (.int .i64 y.body.n) ∧ W.cell? ⟨wr.heap.size, 6, none⟩ = some (.string y.body.name) ∧ W.cell? ⟨wr.heap.size, 7, none⟩ = some (.slice sa y.body.args.length sc)) (by kernel_rfl) ?_ (fun hHeld => ?_)
          · exact ⟨s0, s1, s2, s3, q0, q1, q2, q3, q4, q5, q6, q7⟩
          refine wpAnyH_take (i := 0) (oi := { dst := some 20, op := Go.Op.load 26 (Go.Operand.tmp 1), type := 26, pos := _, after := #[], guard := none }) (v := ?_) rfl (by kernel_rfl) (by kernel_rfl) (by kernel_rfl) (fun _ _ _ h => h) (Or.inl ⟨by rfl, ?_⟩) (by assumption) ?_
          rotate_left
          · intro w hSw; (try dsimp only at hSw); go_simp <;> first | with_reducible rfl | (rw [if_neg (by first | omega | (simp only [ByteArray.size_append] at *; omega))])
          simp only [Act.put, List.setIfInBounds_toArray, List.set_cons_zero, List.set_cons_succ]
          refine wpAnyH_take (i := 1) (oi := { dst := some 21, op := Go.Op.move (Go.Operand.tmp 4), type := 68, pos := _, after := #[], guard := none }) (v := ?_) rfl (by kernel_rfl) (by kernel_rfl) (by kernel_rfl) (fun _ _ _ h => h) (Or.inl ⟨by rfl, ?_⟩) (by assumption) ?_
          rotate_left
          · intro w hSw; (try dsimp only at hSw); go_simp <;> first | with_reducible rfl | (rw [if_neg (by first | omega | (simp only [ByteArray.size_append] at *; omega))])
          simp only [Act.put, List.setIfInBounds_toArray, List.set_cons_zero, List.set_cons_succ]
          refine wpAnyH_take (i := 2) (oi := { dst := some 22, op := Go.Op.fieldAddr 52 (Go.Operand.tmp 6) 4, type := 0, pos := _, after := #[], guard := none }) (v := ?_) rfl (by kernel_rfl) (by kernel_rfl) (by kernel_rfl) (fun _ _ _ h => h) (Or.inl ⟨by rfl, ?_⟩) (by assumption) ?_
          rotate_left
          · intro w hSw; (try dsimp only at hSw); go_simp <;> first | with_reducible rfl | (rw [if_neg (by first | omega | (simp only [ByteArray.size_append] at *; omega))])
          simp only [Act.put, List.setIfInBounds_toArray, List.set_cons_zero, List.set_cons_succ]
          refine wpAnyH_take (i := 3) (oi := { dst := some 23, op := Go.Op.load 30 (Go.Operand.tmp 22), type := 30, pos := _, after := #[{ on := 2, ground := Go.Ground.data }], guard := none }) (v := ?_) rfl (by kernel_rfl) (by kernel_rfl) (by kernel_rfl) (fun _ _ _ h => h) (Or.inl ⟨by rfl, ?_⟩) (by assumption) ?_
          rotate_left
          · intro w hSw; (try dsimp only at hSw); go_simp <;> first | with_reducible rfl | (rw [if_neg (by first | omega | (simp only [ByteArray.size_append] at *; omega))])
          simp only [Act.put, List.setIfInBounds_toArray, List.set_cons_zero, List.set_cons_succ]
          refine wpAnyH_take (i := 5) (oi := { dst := some 25, op := Go.Op.fieldAddr 52 (Go.Operand.tmp 6) 1, type := 0, pos := _, after := #[], guard := none }) (v := ?_) rfl (by kernel_rfl) (by kernel_rfl) (by kernel_rfl) (fun _ _ _ h => h) (Or.inl ⟨by rfl, ?_⟩) (by assumption) ?_
          rotate_left
          · intro w hSw; (try dsimp only at hSw); go_simp <;> first | with_reducible rfl | (rw [if_neg (by first | omega | (simp only [ByteArray.size_append] at *; omega))])
          simp only [Act.put, List.setIfInBounds_toArray, List.set_cons_zero, List.set_cons_succ]
          refine wpAnyH_take (i := 6) (oi := { dst := some 26, op := Go.Op.load 35 (Go.Operand.tmp 25), type := 35, pos := _, after := #[{ on := 5, ground := Go.Ground.data }], guard := none }) (v := ?_) rfl (by kernel_rfl) (by kernel_rfl) (by kernel_rfl) (fun _ _ _ h => h) (Or.inl ⟨by rfl, ?_⟩) (by assumption) ?_
          rotate_left
          · intro w hSw; (try dsimp only at hSw); go_simp <;> first | with_reducible rfl | (rw [if_neg (by first | omega | (simp only [ByteArray.size_append] at *; omega))])
          simp only [Act.put, List.setIfInBounds_toArray, List.set_cons_zero, List.set_cons_succ]
          refine wpAnyH_ready (rs := [4]) (by kernel_rfl) (by simp) ?_
          refine AllReadyH.cons (o := { dst := some 24, op := Go.Op.call { callee := Go.Callee.value (Go.Operand.func 31), args := #[Go.Operand.tmp 20, Go.Operand.tmp 21, Go.Operand.tmp 23], argTypes := #[26, 68, 30] }, type := 35, pos := _, after := #[{ on := 0, ground := Go.Ground.data }, { on := 1, ground := Go.Ground.data }, { on := 3, ground := Go.Ground.data }], guard := none }) rfl (fun K hK => ?_) AllReadyH.nil
          go_simp
          refine c31.mono ?_
          rintro e v1 ⟨rfl, hb1⟩
          have HG1 : Hid (Below (wr.alloc (.cells #[.string y.name, .int .u8 (y.ty : Int), .int .i64 y.st, .int .i64 y.df, .int .u8 (y.body.op : Int), .int .i64 y.body.n, .string y.body.name, .slice sa y.body.args.length sc] 52)).heap.size (wr.alloc (.cells #[.string y.name, .int .u8 (y.ty : Int), .int .i64 y.st, .int .i64 y.df, .int .u8 (y.body.op : Int), .int .i64 y.body.n, .string y.body.name, .slice sa y.body.args.length sc] 52)) v1) := hid ((Below.refl _ _).drew.trans (hb1.mono (by simp)))
          have X1 := hid (FA.out.keep HG1.out)
          obtain ⟨t0, t1, t2, t3⟩ := row4 X1.out.row
          have u0 := cell_kept q0 HG1.out
          have u1 := cell_kept q1 HG1.out
          have u2 := cell_kept q2 HG1.out
          have u3 := cell_kept q3 HG1.out
          have u4 := cell_kept q4 HG1.out
          have u5 := cell_kept q5 HG1.out
          have u6 := cell_kept q6 HG1.out
          have u7 := cell_kept q7 HG1.out
          clear hb1
          go_wp2_with fail
          refine hK.out _ _ ?_ (fun hHeld1 => ?_)
          · exact ⟨t0, t1, t2, t3, u0, u1, u2, u3, u4, u5, u6, u7⟩
          clear hK K
          refine wpAnyH_take (i := 7) (oi := { dst := some 27, op := Go.Op.binOp Go.BinOp.neq 35 (Go.Operand.tmp 24) (Go.Operand.tmp 26) 35, type := 4, pos := _, after := #[{ on := 4, ground := Go.Ground.data }, { on := 6, ground := Go.Ground.data }], guard := none }) (v := ?_) rfl (by kernel_rfl) (by kernel_rfl) (by kernel_rfl) (fun _ _ _ h => h) (Or.inl ⟨by rfl, ?_⟩) (by assumption) ?_
          rotate_left
          · intro w hSw; (try dsimp only at hSw); go_simp <;> first | with_reducible rfl | (rw [if_neg (by first | omega | (simp only [ByteArray.size_append] at *; omega))])
          simp only [Act.put, List.setIfInBounds_toArray, List.set_cons_zero, List.set_cons_succ]
          (try simp only [HTB.out])
          refine wpAnyH_take (i := 8) (oi := { dst := some 28, op := Go.Op.move (Go.Operand.tmp 27), type := 4, pos := _, after := #[{ on := 7, ground := Go.Ground.data }, { on := 4, ground := Go.Ground.chain }], guard := none }) (v := ?_) rfl (by kernel_rfl) (by kernel_rfl) (by kernel_rfl) (fun _ _ _ h => h) (Or.inl ⟨by rfl, ?_⟩) (by assumption) ?_
          rotate_left
          · intro w hSw; (try dsimp only at hSw); go_simp <;> first | with_reducible rfl | (rw [if_neg (by first | omega | (simp only [ByteArray.size_append] at *; omega))])
          simp only [Act.put, List.setIfInBounds_toArray, List.set_cons_zero, List.set_cons_succ]
          refine wpAnyH_take (i := 9) (oi := { dst := some 29, op := Go.Op.fieldAddr 52 (Go.Operand.tmp 6) 3, type := 0, pos := _, after := #[{ on := 8, ground := Go.Ground.guard }], guard := some (8, false) }) (v := ?_) rfl (by kernel_rfl) (by kernel_rfl) (by kernel_rfl) (fun _ _ _ h => h) (Or.inl ⟨by rfl, ?_⟩) (by assumption) ?_
          rotate_left
          · intro w hSw; (try dsimp only at hSw); go_simp <;> first | with_reducible rfl | (rw [if_neg (by first | omega | (simp only [ByteArray.size_append] at *; omega))])
          simp only [Act.put, List.setIfInBounds_toArray, List.set_cons_zero, List.set_cons_succ]
          refine wpAnyH_take (i := 10) (oi := { dst := some 30, op := Go.Op.load 2 (Go.Operand.tmp 29), type := 2, pos := _, after := #[{ on := 9, ground := Go.Ground.data }, { on := 8, ground := Go.Ground.guard }], guard := some (8, false) }) (v := ?_) rfl (by kernel_rfl) (by kernel_rfl) (by kernel_rfl) (fun _ _ _ h => h) (Or.inl ⟨by rfl, ?_⟩) (by assumption) ?_
          rotate_left
          · intro w hSw; (try dsimp only at hSw); go_simp <;> first | with_reducible rfl | (rw [if_neg (by first | omega | (simp only [ByteArray.size_append] at *; omega))])
          simp only [Act.put, List.setIfInBounds_toArray, List.set_cons_zero, List.set_cons_succ]
          refine wpAnyH_take (i := 11) (oi := { dst := some 31, op := Go.Op.fieldAddr 52 (Go.Operand.tmp 6) 1, type := 0, pos := _, after := #[{ on := 8, ground := Go.Ground.guard }], guard := some (8, false) }) (v := ?_) rfl (by kernel_rfl) (by kernel_rfl) (by kernel_rfl) (fun _ _ _ h => h) (Or.inl ⟨by rfl, ?_⟩) (by assumption) ?_
          rotate_left
          · intro w hSw; (try dsimp only at hSw); go_simp <;> first | with_reducible rfl | (rw [if_neg (by first | omega | (simp only [ByteArray.size_append] at *; omega))])
          simp only [Act.put, List.setIfInBounds_toArray, List.set_cons_zero, List.set_cons_succ]
          refine wpAnyH_take (i := 12) (oi := { dst := some 32, op := Go.Op.load 35 (Go.Operand.tmp 31), type := 35, pos := _, after := #[{ on := 11, ground := Go.Ground.data }, { on := 8, ground := Go.Ground.guard }], guard := some (8, false) }) (v := ?_) rfl (by kernel_rfl) (by kernel_rfl) (by kernel_rfl) (fun _ _ _ h => h) (Or.inl ⟨by rfl, ?_⟩) (by assumption) ?_
          rotate_left
          · intro w hSw; (try dsimp only at hSw); go_simp <;> first | with_reducible rfl | (rw [if_neg (by first | omega | (simp only [ByteArray.size_append] at *; omega))])
          simp only [Act.put, List.setIfInBounds_toArray, List.set_cons_zero, List.set_cons_succ]
          refine wpAnyH_ready (rs := [13]) (by kernel_rfl) (by simp) ?_
          refine AllReadyH.cons (o := { dst := some 33, op := Go.Op.call { callee := Go.Callee.value (Go.Operand.func 41), args := #[Go.Operand.tmp 30, Go.Operand.tmp 32], argTypes := #[2, 35] }, type := 4, pos := _, after := #[{ on := 10, ground := Go.Ground.data }, { on := 12, ground := Go.Ground.data }, { on := 8, ground := Go.Ground.chain }, { on := 8, ground := Go.Ground.guard }], guard := some (8, false) }) rfl (fun K hK => ?_) AllReadyH.nil
          go_simp
          refine (fits_t y.df y.ty _).mono ?_
          rintro e v2 ⟨rfl, hb2⟩
          have X2' := hid (X1.out.keep hb2)
          obtain ⟨m0, m1, m2, m3⟩ := row4 X2'.out.row
          have n0 := cell_kept u0 hb2
          have n1 := cell_kept u1 hb2
          have n2 := cell_kept u2 hb2
          have n3 := cell_kept u3 hb2
          have n4 := cell_kept u4 hb2
          have n5 := cell_kept u5 hb2
          have n6 := cell_kept u6 hb2
          have n7 := cell_kept u7 hb2
          have HG2 := hid hb2
          clear hb2
          go_wp2_with fail
          refine hK.out _ _ ?_ (fun hHeld2 => ?_)
          · exact ⟨m0, m1, m2, m3, n0, n1, n2, n3, n4, n5, n6, n7⟩
          clear hK K
          refine wpAnyH_take (i := 14) (oi := { dst := some 34, op := Go.Op.unOp Go.UnOp.not 4 (Go.Operand.tmp 33), type := 4, pos := _, after := #[{ on := 13, ground := Go.Ground.data }, { on := 8, ground := Go.Ground.guard }], guard := some (8, false) }) (v := ?_) rfl (by kernel_rfl) (by kernel_rfl) (by kernel_rfl) (fun _ _ _ h => h) (Or.inl ⟨by rfl, ?_⟩) (by assumption) ?_
          rotate_left
          · intro w hSw; (try dsimp only at hSw); go_simp <;> first | with_reducible rfl | (rw [if_neg (by first | omega | (simp only [ByteArray.size_append] at *; omega))])
          simp only [Act.put, List.setIfInBounds_toArray, List.set_cons_zero, List.set_cons_succ]
          refine wpAnyH_take (i := 15) (oi := { dst := some 35, op := Go.Op.pick (Go.Operand.tmp 28) (Go.Operand.const (Go.Value.bool true)) (Go.Operand.tmp 34), type := 4, pos := _, after := #[{ on := 8, ground := Go.Ground.data }, { on := 14, ground := Go.Ground.data }], guard := none }) (v := ?_) rfl (by kernel_rfl) (by kernel_rfl) (by kernel_rfl) (fun _ _ _ h => h) (Or.inl ⟨by rfl, ?_⟩) (by assumption) ?_
          rotate_left
          · intro w hSw; (try dsimp only at hSw); go_simp <;> first | with_reducible rfl | (rw [if_neg (by first | omega | (simp only [ByteArray.size_append] at *; omega))])
          simp only [Act.put, List.setIfInBounds_toArray, List.set_cons_zero, List.set_cons_succ]
          refine wpAnyH_done (by kernel_rfl) ?_ _
          clear s0 s1 s2 s3 t0 t1 t2 t3 m0 m1 m2 m3 q0 q1 q2 q3 q4 q5 q6 q7 u0 u1 u2 u3 u4 u5 u6 u7 n0 n1 n2 n3 n4 n5 n6 n7 y0 y1 y2 y3 y4 y5 y6 y7
          cases hf : fitT y.df y.ty with
          | true =>
            have HE2 : Hid (∀ q ∈ p.flows.take (r + 1), flT p q = true) := hid (fun q hq => by
              rw [HTK.out] at hq
              rcases List.mem_append.1 hq with h | h
              · exact HE.out q h
              · rw [List.mem_singleton.1 h]; unfold flT; rw [hf, ht]; simp)
            have HB3 := hid (hB.out.trans ((bstep (bstep BA.out HG1.out) HG2.out).mono hB.out.size))
            clear hf ht
            go_wp2_with (fail)
            go_roundw
            case rel => exact ⟨r + 1, by omega, by go_num, HE2, HB3⟩
            case measure => simp [intOf]; omega
          | false =>
            have HV : Hid (ckV p = 7) := hid (by rw [HOV.out, if_neg]; intro h; have := List.all_eq_true.1 h y HMG.out; unfold flT at this; rw [hf] at this; simp at this)
            clear hf ht
            go_wp2_with (fail)
            go_ret
            exact ⟨by rw [HV.out]; rfl, X2'.out.below⟩
        · have HTB : Hid (((tyE p y.body : Int) != (y.ty : Int)) = true) := hid (by rw [bne_iff_ne]; omega)
          have HV : Hid (ckV p = 7) := hid (by rw [HOV.out, if_neg]; intro h; have := List.all_eq_true.1 h y HMG.out; unfold flT at this; simp [ht] at this)
          generalize tyE p y.body = ty at *
          go_wp2_with (fail)
          refine wp_region_held_drew (S := fun W => W.cell? ⟨w.heap.size, 0, none⟩ = some (.int .i64 p.st) ∧ W.cell? ⟨w.heap.size, 1, none⟩ = some (A) ∧ W.cell? ⟨w.heap.size, 2, none⟩ = some ((.slice (some ⟨gb, go, none⟩) p.flows.length cap)) ∧ W.cell? ⟨w.heap.size, 3, none⟩ = some (C) ∧ W.cell? ⟨wr.heap.size, 0, none⟩ = some (.string y.name) ∧ W.cell? ⟨wr.heap.size, 1, none⟩ = some (.int .u8 (y.ty : Int)) ∧ W.cell? ⟨wr.heap.size, 2, none⟩ = some (.int .i64 y.st) ∧ W.cell? ⟨wr.heap.size, 3, none⟩ = some (.int .i64 y.df) ∧ W.cell? ⟨wr.heap.size, 4, none⟩ = some (.int .u8 (y.body.op : Int)) ∧ W.cell? ⟨wr.heap.size, 5, none⟩ = some (.int .i64 y.body.n) ∧ W.cell? ⟨wr.heap.size, 6, none⟩ = some (.string y.body.name) ∧ W.cell? ⟨wr.heap.size, 7, none⟩ = some (.slice sa y.body.args.length sc)) (by kernel_rfl) ?_ (fun hHeld => ?_)
          · exact ⟨s0, s1, s2, s3, q0, q1, q2, q3, q4, q5, q6, q7⟩
          refine wpAnyH_take (i := 0) (oi := { dst := some 20, op := Go.Op.load 26 (Go.Operand.tmp 1), type := 26, pos := _, after := #[], guard := none }) (v := ?_) rfl (by kernel_rfl) (by kernel_rfl) (by kernel_rfl) (fun _ _ _ h => h) (Or.inl ⟨by rfl, ?_⟩) (by assumption) ?_
          rotate_left
          · intro w hSw; (try dsimp only at hSw); go_simp <;> first | with_reducible rfl | (rw [if_neg (by first | omega | (simp only [ByteArray.size_append] at *; omega))])
          simp only [Act.put, List.setIfInBounds_toArray, List.set_cons_zero, List.set_cons_succ]
          refine wpAnyH_take (i := 1) (oi := { dst := some 21, op := Go.Op.move (Go.Operand.tmp 4), type := 68, pos := _, after := #[], guard := none }) (v := ?_) rfl (by kernel_rfl) (by kernel_rfl) (by kernel_rfl) (fun _ _ _ h => h) (Or.inl ⟨by rfl, ?_⟩) (by assumption) ?_
          rotate_left
          · intro w hSw; (try dsimp only at hSw); go_simp <;> first | with_reducible rfl | (rw [if_neg (by first | omega | (simp only [ByteArray.size_append] at *; omega))])
          simp only [Act.put, List.setIfInBounds_toArray, List.set_cons_zero, List.set_cons_succ]
          refine wpAnyH_take (i := 2) (oi := { dst := some 22, op := Go.Op.fieldAddr 52 (Go.Operand.tmp 6) 4, type := 0, pos := _, after := #[], guard := none }) (v := ?_) rfl (by kernel_rfl) (by kernel_rfl) (by kernel_rfl) (fun _ _ _ h => h) (Or.inl ⟨by rfl, ?_⟩) (by assumption) ?_
          rotate_left
          · intro w hSw; (try dsimp only at hSw); go_simp <;> first | with_reducible rfl | (rw [if_neg (by first | omega | (simp only [ByteArray.size_append] at *; omega))])
          simp only [Act.put, List.setIfInBounds_toArray, List.set_cons_zero, List.set_cons_succ]
          refine wpAnyH_take (i := 3) (oi := { dst := some 23, op := Go.Op.load 30 (Go.Operand.tmp 22), type := 30, pos := _, after := #[{ on := 2, ground := Go.Ground.data }], guard := none }) (v := ?_) rfl (by kernel_rfl) (by kernel_rfl) (by kernel_rfl) (fun _ _ _ h => h) (Or.inl ⟨by rfl, ?_⟩) (by assumption) ?_
          rotate_left
          · intro w hSw; (try dsimp only at hSw); go_simp <;> first | with_reducible rfl | (rw [if_neg (by first | omega | (simp only [ByteArray.size_append] at *; omega))])
          simp only [Act.put, List.setIfInBounds_toArray, List.set_cons_zero, List.set_cons_succ]
          refine wpAnyH_take (i := 5) (oi := { dst := some 25, op := Go.Op.fieldAddr 52 (Go.Operand.tmp 6) 1, type := 0, pos := _, after := #[], guard := none }) (v := ?_) rfl (by kernel_rfl) (by kernel_rfl) (by kernel_rfl) (fun _ _ _ h => h) (Or.inl ⟨by rfl, ?_⟩) (by assumption) ?_
          rotate_left
          · intro w hSw; (try dsimp only at hSw); go_simp <;> first | with_reducible rfl | (rw [if_neg (by first | omega | (simp only [ByteArray.size_append] at *; omega))])
          simp only [Act.put, List.setIfInBounds_toArray, List.set_cons_zero, List.set_cons_succ]
          refine wpAnyH_take (i := 6) (oi := { dst := some 26, op := Go.Op.load 35 (Go.Operand.tmp 25), type := 35, pos := _, after := #[{ on := 5, ground := Go.Ground.data }], guard := none }) (v := ?_) rfl (by kernel_rfl) (by kernel_rfl) (by kernel_rfl) (fun _ _ _ h => h) (Or.inl ⟨by rfl, ?_⟩) (by assumption) ?_
          rotate_left
          · intro w hSw; (try dsimp only at hSw); go_simp <;> first | with_reducible rfl | (rw [if_neg (by first | omega | (simp only [ByteArray.size_append] at *; omega))])
          simp only [Act.put, List.setIfInBounds_toArray, List.set_cons_zero, List.set_cons_succ]
          refine wpAnyH_ready (rs := [4]) (by kernel_rfl) (by simp) ?_
          refine AllReadyH.cons (o := { dst := some 24, op := Go.Op.call { callee := Go.Callee.value (Go.Operand.func 31), args := #[Go.Operand.tmp 20, Go.Operand.tmp 21, Go.Operand.tmp 23], argTypes := #[26, 68, 30] }, type := 35, pos := _, after := #[{ on := 0, ground := Go.Ground.data }, { on := 1, ground := Go.Ground.data }, { on := 3, ground := Go.Ground.data }], guard := none }) rfl (fun K hK => ?_) AllReadyH.nil
          go_simp
          refine c31.mono ?_
          rintro e v1 ⟨rfl, hb1⟩
          have HG1 : Hid (Below (wr.alloc (.cells #[.string y.name, .int .u8 (y.ty : Int), .int .i64 y.st, .int .i64 y.df, .int .u8 (y.body.op : Int), .int .i64 y.body.n, .string y.body.name, .slice sa y.body.args.length sc] 52)).heap.size (wr.alloc (.cells #[.string y.name, .int .u8 (y.ty : Int), .int .i64 y.st, .int .i64 y.df, .int .u8 (y.body.op : Int), .int .i64 y.body.n, .string y.body.name, .slice sa y.body.args.length sc] 52)) v1) := hid ((Below.refl _ _).drew.trans (hb1.mono (by simp)))
          have X1 := hid (FA.out.keep HG1.out)
          obtain ⟨t0, t1, t2, t3⟩ := row4 X1.out.row
          have u0 := cell_kept q0 HG1.out
          have u1 := cell_kept q1 HG1.out
          have u2 := cell_kept q2 HG1.out
          have u3 := cell_kept q3 HG1.out
          have u4 := cell_kept q4 HG1.out
          have u5 := cell_kept q5 HG1.out
          have u6 := cell_kept q6 HG1.out
          have u7 := cell_kept q7 HG1.out
          clear hb1
          go_wp2_with fail
          refine hK.out _ _ ?_ (fun hHeld1 => ?_)
          · exact ⟨t0, t1, t2, t3, u0, u1, u2, u3, u4, u5, u6, u7⟩
          clear hK K
          refine wpAnyH_take (i := 7) (oi := { dst := some 27, op := Go.Op.binOp Go.BinOp.neq 35 (Go.Operand.tmp 24) (Go.Operand.tmp 26) 35, type := 4, pos := _, after := #[{ on := 4, ground := Go.Ground.data }, { on := 6, ground := Go.Ground.data }], guard := none }) (v := ?_) rfl (by kernel_rfl) (by kernel_rfl) (by kernel_rfl) (fun _ _ _ h => h) (Or.inl ⟨by rfl, ?_⟩) (by assumption) ?_
          rotate_left
          · intro w hSw; (try dsimp only at hSw); go_simp <;> first | with_reducible rfl | (rw [if_neg (by first | omega | (simp only [ByteArray.size_append] at *; omega))])
          simp only [Act.put, List.setIfInBounds_toArray, List.set_cons_zero, List.set_cons_succ]
          (try simp only [HTB.out])
          refine wpAnyH_take (i := 8) (oi := { dst := some 28, op := Go.Op.move (Go.Operand.tmp 27), type := 4, pos := _, after := #[{ on := 7, ground := Go.Ground.data }, { on := 4, ground := Go.Ground.chain }], guard := none }) (v := ?_) rfl (by kernel_rfl) (by kernel_rfl) (by kernel_rfl) (fun _ _ _ h => h) (Or.inl ⟨by rfl, ?_⟩) (by assumption) ?_
          rotate_left
          · intro w hSw; (try dsimp only at hSw); go_simp <;> first | with_reducible rfl | (rw [if_neg (by first | omega | (simp only [ByteArray.size_append] at *; omega))])
          simp only [Act.put, List.setIfInBounds_toArray, List.set_cons_zero, List.set_cons_succ]
          refine wpAnyH_take (i := 9) (oi := { dst := some 29, op := Go.Op.fieldAddr 52 (Go.Operand.tmp 6) 3, type := 0, pos := _, after := #[{ on := 8, ground := Go.Ground.guard }], guard := some (8, false) }) (v := undef) rfl (by kernel_rfl) (by kernel_rfl) (by kernel_rfl) (fun _ _ _ h => h) (Or.inr ⟨by rfl, rfl⟩) (by assumption) ?_
          simp only [Act.put, List.setIfInBounds_toArray, List.set_cons_zero, List.set_cons_succ]
          refine wpAnyH_take (i := 10) (oi := { dst := some 30, op := Go.Op.load 2 (Go.Operand.tmp 29), type := 2, pos := _, after := #[{ on := 9, ground := Go.Ground.data }, { on := 8, ground := Go.Ground.guard }], guard := some (8, false) }) (v := undef) rfl (by kernel_rfl) (by kernel_rfl) (by kernel_rfl) (fun _ _ _ h => h) (Or.inr ⟨by rfl, rfl⟩) (by assumption) ?_
          simp only [Act.put, List.setIfInBounds_toArray, List.set_cons_zero, List.set_cons_succ]
          refine wpAnyH_take (i := 11) (oi := { dst := some 31, op := Go.Op.fieldAddr 52 (Go.Operand.tmp 6) 1, type := 0, pos := _, after := #[{ on := 8, ground := Go.Ground.guard }], guard := some (8, false) }) (v := undef) rfl (by kernel_rfl) (by kernel_rfl) (by kernel_rfl) (fun _ _ _ h => h) (Or.inr ⟨by rfl, rfl⟩) (by assumption) ?_
          simp only [Act.put, List.setIfInBounds_toArray, List.set_cons_zero, List.set_cons_succ]
          refine wpAnyH_take (i := 12) (oi := { dst := some 32, op := Go.Op.load 35 (Go.Operand.tmp 31), type := 35, pos := _, after := #[{ on := 11, ground := Go.Ground.data }, { on := 8, ground := Go.Ground.guard }], guard := some (8, false) }) (v := undef) rfl (by kernel_rfl) (by kernel_rfl) (by kernel_rfl) (fun _ _ _ h => h) (Or.inr ⟨by rfl, rfl⟩) (by assumption) ?_
          simp only [Act.put, List.setIfInBounds_toArray, List.set_cons_zero, List.set_cons_succ]
          refine wpAnyH_take (i := 13) (oi := { dst := some 33, op := Go.Op.call { callee := Go.Callee.value (Go.Operand.func 41), args := #[Go.Operand.tmp 30, Go.Operand.tmp 32], argTypes := #[2, 35] }, type := 4, pos := _, after := #[{ on := 10, ground := Go.Ground.data }, { on := 12, ground := Go.Ground.data }, { on := 8, ground := Go.Ground.chain }, { on := 8, ground := Go.Ground.guard }], guard := some (8, false) }) (v := undef) rfl (by kernel_rfl) (by kernel_rfl) (by kernel_rfl) (fun _ _ _ h => h) (Or.inr ⟨by rfl, rfl⟩) (by assumption) ?_
          simp only [Act.put, List.setIfInBounds_toArray, List.set_cons_zero, List.set_cons_succ]
          refine wpAnyH_take (i := 14) (oi := { dst := some 34, op := Go.Op.unOp Go.UnOp.not 4 (Go.Operand.tmp 33), type := 4, pos := _, after := #[{ on := 13, ground := Go.Ground.data }, { on := 8, ground := Go.Ground.guard }], guard := some (8, false) }) (v := undef) rfl (by kernel_rfl) (by kernel_rfl) (by kernel_rfl) (fun _ _ _ h => h) (Or.inr ⟨by rfl, rfl⟩) (by assumption) ?_
          simp only [Act.put, List.setIfInBounds_toArray, List.set_cons_zero, List.set_cons_succ]
          refine wpAnyH_take (i := 15) (oi := { dst := some 35, op := Go.Op.pick (Go.Operand.tmp 28) (Go.Operand.const (Go.Value.bool true)) (Go.Operand.tmp 34), type := 4, pos := _, after := #[{ on := 8, ground := Go.Ground.data }, { on := 14, ground := Go.Ground.data }], guard := none }) (v := ?_) rfl (by kernel_rfl) (by kernel_rfl) (by kernel_rfl) (fun _ _ _ h => h) (Or.inl ⟨by rfl, ?_⟩) (by assumption) ?_
          rotate_left
          · intro w hSw; (try dsimp only at hSw); go_simp <;> first | with_reducible rfl | (rw [if_neg (by first | omega | (simp only [ByteArray.size_append] at *; omega))])
          simp only [Act.put, List.setIfInBounds_toArray, List.set_cons_zero, List.set_cons_succ]
          refine wpAnyH_done (by kernel_rfl) ?_ _
          go_wp2_with (fail)
          go_ret
          exact ⟨by rw [HV.out]; rfl, X1.out.below⟩
      · have hrl' : ¬ (r : Int) < (p.flows.length : Int) := by omega
        obtain rfl : r = p.flows.length := by omega
        have HV : Hid (ckV p = 0) := hid (by rw [HOV.out, if_pos]; exact List.all_eq_true.2 (fun q hq => HE.out q (by rw [List.take_length]; exact hq)))
        go_wp2_with (fail)
        go_ret
        exact ⟨by rw [HV.out]; rfl, FX.out.below⟩
  · have HV : Hid (ckV p = nmErr p) := hid (by unfold ckV; rw [if_neg hn])
    generalize nmErr p = ne at *
    go_wp2_with (fail)
    go_ret
    exact ⟨by rw [HV.out]; rfl, X1.out.below⟩
end Go.Proofs.YtakjkhfglihggaaDoor.Lex
namespace Go.Proofs.YtakjkhfglihggaaDoor.Lex
open Go.ChangeShapes Go.WideShapes Go.ChangeAt Go.RowKit Go.Joins
/-- Is a flow of its type, and its default? -/
def rflT (p : Pg) (f : Fl) : Bool := decide ((ofV p f.body).1 = f.ty) && fitT f.df f.ty
/-- What the document's Check answers. -/
def rckV (p : Pg) : Int := if nmErr p = 0 then (if p.flows.all (rflT p) then 0 else 7) else nmErr p
set_option maxRecDepth 100000 in
set_option maxHeartbeats 4000000 in
theorem rtypes_check (p : Pg) (hof : ∀ x, chk x = true → RTyC p x) (w : World) (A B C : Value) (hP : PgAt w p A B C) (hR : TabR w) (hJ : TabJ w) : Calls Tryd.prog 18 #[pgV p A B C] w fun e w' => e = .returned (.int .i64 (rckV p)) ∧ Below w.heap.size w w' := by
  have X0 := hid (FV.new hP hR hJ)
  have HOF := hid hof
  obtain ⟨ao, cap, sl0, rfl, _⟩ := hP.flows
  clear hP hR hJ hof
  go_enter Tryd.func18, Tryd.ntmps18
  go_wp2_with (fail)
  refine (rnames p _ _ _ _ X0.out.P X0.out.R X0.out.J).mono ?_
  rintro e w1 ⟨rfl, hb1⟩
  have X2 := hid (X0.out.keep hb1)
  clear hb1 X0
  by_cases hn : nmErr p = 0
  · have HOV : Hid (rckV p = if p.flows.all (rflT p) then 0 else 7) := hid (by unfold rckV; rw [if_pos hn])
    rw [hn]
    clear hn
    go_wp2_with (fail)
    obtain ⟨ao', cap', sl, heq, hlen, _, hok, hc, hs⟩ := X2.out.P.flows
    obtain ⟨rfl, rfl⟩ : ao = ao' ∧ cap = cap' := by simpa using heq
    have HC := hid hc
    have HS := hid hs
    clear hc hs hok heq
    go_loopw [4] (fun i wr => ∃ r : Nat, r ≤ p.flows.length ∧ i = .int .i64 (r : Int) ∧ Hid (∀ z ∈ p.flows.take r, rflT p z = true) ∧ Hid (Below w1.heap.size w1 wr)) (fun i _ => p.flows.length - (intOf i).toNat)
    case atStart => exact ⟨0, Nat.zero_le _, rfl, hid (by simp), hid (Below.refl _ _)⟩
    case round =>
      obtain ⟨r, hr, rfl, HE, hB⟩ := hrel
      have FX := hid (X2.out.keep hB.out)
      obtain ⟨s0, s1, s2, s3⟩ := row4 FX.out.row
      by_cases hrl : r < p.flows.length
      · have hrl' : (r : Int) < (p.flows.length : Int) := by omega
        have hr0 : (0 : Int) ≤ (r : Int) := by omega
        obtain ⟨gb, go, rfl, hcc⟩ := HC.out.resolve_left (by omega)
        obtain ⟨y0, y1, y2, y3, y4, y5, y6, y7⟩ := (hcc r hrl).keep hB.out
        have HTK := hid (List.take_succ_eq_append_getElem hrl)
        have HMG := hid (List.getElem_mem hrl)
        have HST := hid ((HS.out r hrl).keep hB.out)
        clear hcc
        generalize sl r = sv at *
        generalize hy : p.flows[r] = y at *
        clear hy
        obtain ⟨sa, sc, _, rfl, _⟩ := HST.out.out
        have BA := hid ((Below.refl wr.heap.size wr).alloc (Nat.le_refl _) (.cells #[.string y.name, .int .u8 (y.ty : Int), .int .i64 y.st, .int .i64 y.df, .int .u8 (y.body.op : Int), .int .i64 y.body.n, .string y.body.name, .slice sa y.body.args.length sc] 52))
        have FA := hid (FX.out.keep BA.out)
        have bx := fun j v => box_at wr #[.string y.name, .int .u8 (y.ty : Int), .int .i64 y.st, .int .i64 y.df, .int .u8 (y.body.op : Int), .int .i64 y.body.n, .string y.body.name, .slice sa y.body.args.length sc] 52 j v
        have q0 := bx 0 _ rfl
        have q1 := bx 1 _ rfl
        have q2 := bx 2 _ rfl
        have q3 := bx 3 _ rfl
        have q4 := bx 4 _ rfl
        have q5 := bx 5 _ rfl
        have q6 := bx 6 _ rfl
        have q7 := bx 7 _ rfl
        clear bx
        obtain ⟨p0, p1, p2, p3⟩ := row4 FA.out.row
        have c14 := rof_ p y.body (HOF.out y.body) _ _ _ _ _ FA.out.P (HST.out.keep BA.out) FA.out.R FA.out.J
        go_wp2_with (fail)
        refine c14.mono ?_
        clear c14
        rintro e w3 ⟨rfl, hb3⟩
        have XB := hid (FA.out.keep hb3).below
        have HB3 := hid (hB.out.trans ((bstep BA.out hb3).mono hB.out.size))
        have u1 := cell_kept q1 hb3
        have u3 := cell_kept q3 hb3
        clear s0 s1 s2 s3 p0 p1 p2 p3 q0 q1 q2 q3 q4 q5 q6 q7 y0 y1 y2 y3 y4 y5 y6 y7 hb3
        generalize hoo : ofV p y.body = ov at *
        have HOO := hid hoo
        clear hoo
        obtain ⟨o1, o2⟩ := ov
        by_cases ht : o1 = y.ty
        · subst ht
          by_cases h2 : y.ty = 2
          · have h2' : (y.ty : Int) = 2 := by omega
            by_cases h0 : y.df = 0
            · have HE2 : Hid (∀ q ∈ p.flows.take (r + 1), rflT p q = true) := hid (fun q hq => by
                rw [HTK.out] at hq
                rcases List.mem_append.1 hq with h | h
                · exact HE.out q h
                · rw [List.mem_singleton.1 h]; unfold rflT fitT; rw [HOO.out]; simp [h2, h0])
              go_wp2_with (fail)
              all_goals (refine ⟨⟨r + 1, by omega, by go_num, HE2, HB3⟩, ?_⟩; simp [intOf]; omega)
            · by_cases h1 : y.df = 1
              · have HE2 : Hid (∀ q ∈ p.flows.take (r + 1), rflT p q = true) := hid (fun q hq => by
                  rw [HTK.out] at hq
                  rcases List.mem_append.1 hq with h | h
                  · exact HE.out q h
                  · rw [List.mem_singleton.1 h]; unfold rflT fitT; rw [HOO.out]; simp [h2, h1])
                go_wp2_with (fail)
                all_goals (refine ⟨⟨r + 1, by omega, by go_num, HE2, HB3⟩, ?_⟩; simp [intOf]; omega)
              · have HV : Hid (rckV p = 7) := hid (by rw [HOV.out, if_neg]; intro h; have := List.all_eq_true.1 h y HMG.out; unfold rflT fitT at this; rw [HOO.out] at this; simp [h2, h0, h1] at this)
                go_wp2_with (fail)
                all_goals first | (go_ret; exact ⟨by rw [HV.out]; rfl, XB.out⟩) | (exfalso; rename_i hx; simp [h0, h1] at hx)
          · have h2' : ¬ (y.ty : Int) = 2 := by omega
            have HE2 : Hid (∀ q ∈ p.flows.take (r + 1), rflT p q = true) := hid (fun q hq => by
              rw [HTK.out] at hq
              rcases List.mem_append.1 hq with h | h
              · exact HE.out q h
              · rw [List.mem_singleton.1 h]; unfold rflT fitT; rw [HOO.out]; simp [h2])
            go_wp2_with (fail)
            all_goals (refine ⟨⟨r + 1, by omega, by go_num, HE2, HB3⟩, ?_⟩; simp [intOf]; omega)
        · have ht' : ¬ (o1 : Int) = (y.ty : Int) := by omega
          have HV : Hid (rckV p = 7) := hid (by rw [HOV.out, if_neg]; intro h; have := List.all_eq_true.1 h y HMG.out; unfold rflT fitT at this; rw [HOO.out] at this; simp [ht] at this)
          go_wp2_with (fail)
          go_ret
          exact ⟨by rw [HV.out]; rfl, XB.out⟩
      · have hrl' : ¬ (r : Int) < (p.flows.length : Int) := by omega
        obtain rfl : r = p.flows.length := by omega
        have HV : Hid (rckV p = 0) := hid (by rw [HOV.out, if_pos]; exact List.all_eq_true.2 (fun q hq => HE.out q (by rw [List.take_length]; exact hq)))
        go_wp2_with (fail)
        go_ret
        exact ⟨by rw [HV.out]; rfl, FX.out.below⟩
  · have HV : Hid (rckV p = nmErr p) := hid (by unfold rckV; rw [if_neg hn])
    generalize nmErr p = ne at *
    go_wp2_with (fail)
    go_ret
    exact ⟨by rw [HV.out]; rfl, X2.out.below⟩
end Go.Proofs.YtakjkhfglihggaaDoor.Lex
namespace Go.Proofs.YtakjkhfglihggaaDoor.Lex
theorem nmErr_nm {p : Pg} (h : nmErr p = 0) : nmOk p = true := by
  have hp := nmErr_ok h
  unfold nmErr at h
  rw [if_pos hp] at h
  by_cases hq : nmOk p = true
  · exact hq
  · rw [if_neg hq] at h; omega
theorem asks_ok {p : Pg} (h : nmOk p = true) {f : Fl} (hf : f ∈ p.flows) : asksAll p f.body = true := by
  unfold asksAll
  refine List.all_eq_true.2 (fun r hr => ?_)
  obtain ⟨x, hx⟩ := find_asked_ok h (s := r.1) (by
    unfold askedL asksOf
    exact List.mem_flatMap.2 ⟨f, hf, List.mem_map.2 ⟨r, hr, rfl⟩⟩)
  rw [hx]; rfl
theorem of_ty {p : Pg} (h : nmErr p = 0) {f : Fl} (hf : f ∈ p.flows) : (ofV p f.body).1 = tyE p f.body := by
  have h1 := pgOk_chk (nmErr_ok h) f hf
  have h2 := asks_ok (nmErr_nm h) hf
  unfold ofV
  rw [if_neg (by rw [h1]; simp), if_neg (by rw [h2]; simp)]
  by_cases h3 : tyE p f.body = 0
  · rw [if_pos h3, h3]
  · rw [if_neg h3]
theorem rck_eq (p : Pg) : rckV p = ckV p := by
  unfold rckV ckV
  by_cases h : nmErr p = 0
  · rw [if_pos h, if_pos h]
    have e : p.flows.all (rflT p) = p.flows.all (flT p) := by
      rw [Bool.eq_iff_iff, List.all_eq_true, List.all_eq_true]
      constructor
      · intro g f hf; have := g f hf; unfold rflT at this; rw [of_ty h hf] at this; exact this
      · intro g f hf; have := g f hf; unfold rflT; rw [of_ty h hf]; exact this
    rw [e]
  · rw [if_neg h, if_neg h]
end Go.Proofs.YtakjkhfglihggaaDoor.Lex
namespace Go.Proofs.YtakjkhfglihggaaDoor.Lex
open Go.ChangeShapes Go.WideShapes Go.ChangeAt Go.RowKit Go.Joins
theorem com_snoc (l : List Nat) (t : Nat) (h : 0 < l.length) : com (l ++ [t]) = if t = com l then com l else 0 := by
  obtain ⟨a, l, rfl⟩ : ∃ a l', l = a :: l' := by cases l with | nil => simp at h | cons a l => exact ⟨a, l, rfl⟩
  have e : com (a :: l ++ [t]) = if (l.all (fun t => t == a) && t == a) = true then a else 0 := by unfold com; simp [List.all_append]
  have e2 : com (a :: l) = if l.all (fun t => t == a) = true then a else 0 := by unfold com; simp
  rw [e, e2]
  cases hl : l.all (fun t => t == a) with
  | true =>
    by_cases ht : t = a
    · simp [ht]
    · simp [ht]
  | false => simp
theorem YL.shape {w1 W : World} {l : List Nat} {v : Value} (h : YL w1 l v W) : ∃ va vc, v = .slice va l.length vc := by
  rcases h.own.2 with ⟨e, e0⟩ | ⟨g, gc, cur, e, _⟩
  · exact ⟨none, 0, by rw [e, e0]⟩
  · exact ⟨_, _, e⟩
theorem ok_op {d : Nat} {x : Ex} (h : okD (d + 1) x) : 1 ≤ x.op ∧ x.op ≤ 19 := by
  by_cases h1 : x.op = 1
  · omega
  by_cases h2 : x.op = 2
  · omega
  by_cases h3 : x.op = 3
  · omega
  have := ok_parts h.1 h1 h2 h3
  omega
set_option maxRecDepth 100000 in
set_option maxHeartbeats 8000000 in
theorem rof_any (p : Pg) (d : Nat) (ih : ∀ x, okD d x → RTyC p x) (x : Ex) (hx : okD (d + 1) x) : RTyC p x := by
  intro w s A B C hP hS
  obtain ⟨ao, cap, sl, rfl, hop, hn, hnm, hlen, _, hc, hs⟩ := hS.out
  have HS := hid hs
  have HC := hid hc
  have HI := hid (fun i (hi : i < x.args.length) => ih x.args[i] (hx.2 _ (List.getElem_mem hi)))
  have HF := hid hx.1
  have HO := hid (ok_op hx)
  have HLN := hid hlen
  have B2 := hid (bstep ((Below.refl w.heap.size w).alloc (Nat.le_refl _) (.cells (pgC p A B C) 26)) ((Below.refl _ _).alloc (Nat.le_refl _) (.cells #[.int .u8 (x.op : Int), .int .i64 x.n, .string x.name, .slice ao x.args.length cap] 30)))
  have HP := hid hP
  have RP := hid (show ((w.alloc (.cells (pgC p A B C) 26)).alloc (.cells #[.int .u8 (x.op : Int), .int .i64 x.n, .string x.name, .slice ao x.args.length cap] 30)).heap[w.heap.size]? = some (.cells (pgC p A B C) 26 (0, 0)) from push_old (push_new _ _ _ rfl))
  have RX := hid (show ((w.alloc (.cells (pgC p A B C) 26)).alloc (.cells #[.int .u8 (x.op : Int), .int .i64 x.n, .string x.name, .slice ao x.args.length cap] 30)).heap[w.heap.size + 1]? = some (.cells #[.int .u8 (x.op : Int), .int .i64 x.n, .string x.name, .slice ao x.args.length cap] 30 (0, 0)) from push_new _ _ _ (by simp))
  obtain ⟨i0, hi, hz0, hz1, hz2⟩ := info_parts inf35
  clear hs hc ih hx hS hP hop hn hnm hlen
  go_enter Tryd.func36, Tryd.ntmps36
  go_wp2_with (fail)
  generalize ((w.alloc (.cells (pgC p A B C) 26)).alloc (.cells #[.int .u8 (x.op : Int), .int .i64 x.n, .string x.name, .slice ao x.args.length cap] 30)) = W2 at *
  have R0 := (cell_of_row W2 w.heap.size 0 _ 26 (0, 0) RP.out).trans (show _ = some (.int .i64 p.st) from rfl)
  have R1 := (cell_of_row W2 w.heap.size 1 _ 26 (0, 0) RP.out).trans (show _ = some A from rfl)
  have R2 := (cell_of_row W2 w.heap.size 2 _ 26 (0, 0) RP.out).trans (show _ = some B from rfl)
  have R3 := (cell_of_row W2 w.heap.size 3 _ 26 (0, 0) RP.out).trans (show _ = some C from rfl)
  have Q0 := (cell_of_row W2 (w.heap.size + 1) 0 _ 30 (0, 0) RX.out).trans (show _ = some (.int .u8 (x.op : Int)) from rfl)
  have Q2 := (cell_of_row W2 (w.heap.size + 1) 2 _ 30 (0, 0) RX.out).trans (show _ = some (.string x.name) from rfl)
  have Q3 := (cell_of_row W2 (w.heap.size + 1) 3 _ 30 (0, 0) RX.out).trans (show _ = some (.slice ao x.args.length cap) from rfl)
  clear RP RX
  go_loopw [5, 6] (fun v i wr => ∃ k : Nat, k ≤ x.args.length ∧ i = .int .i64 (k : Int) ∧ Hid (YL W2 ((x.args.take k).map (tyE p)) v wr)) (fun _ i _ => x.args.length - (intOf i).toNat)
  case atStart => exact ⟨0, Nat.zero_le _, rfl, hid (by simpa using YL.start W2)⟩
  case round =>
    obtain ⟨k, hk, rfl, HY⟩ := hrel
    by_cases hlt : k < x.args.length
    · have hlt' : (k : Int) < (x.args.length : Int) := by omega
      have hk0 : (0 : Int) ≤ (k : Int) := by omega
      have hln := HLN.out
      obtain ⟨bb, o, rfl, hc⟩ := HC.out.resolve_left (by omega)
      obtain ⟨g0, g1, g2, g3⟩ := hc k hlt
      have Y0 := cell_kept g0 B2.out
      have Y1 := cell_kept g1 B2.out
      have Y2 := cell_kept g2 B2.out
      have Y3 := cell_kept g3 B2.out
      obtain ⟨a4, c4, _, e4, _⟩ := (HS.out k hlt).out
      rw [e4] at Y3
      have HT : Hid ((x.args.take (k + 1)).map (tyE p) = (x.args.take k).map (tyE p) ++ [tyE p x.args[k]]) := hid (by rw [List.take_succ_eq_append_getElem hlt, List.map_append]; rfl)
      have hll : ((x.args.take k).map (tyE p)).length ≤ 2513169434843 := by have := HLN.out; simp; omega
      have HST := hid (e4 ▸ HS.out k hlt)
      have HIK := hid (HI.out k hlt)
      have HBW := hid (bstep B2.out HY.out.below)
      have q3 := cell_kept Q3 HY.out.below
      clear g0 g1 g2 g3 hc e4
      generalize x.args[k] = y at *
      have c36 := HIK.out wr.drew _ A B C ((HP.out.keep HBW.out).keep (Below.refl _ _).drew) ((HST.out.keep HBW.out).keep (Below.refl _ _).drew)
      generalize tyE p y = ty at *
      generalize (x.args.take k).map (tyE p) = ll at *
      have hmx : ll.length + 1 ≤ maxLen := by unfold maxLen; omega
      go_wp2_with (fail)
      refine wp_region_held_drew (S := fun W => W.cell? ⟨w.heap.size, 0, none⟩ = some (.int .i64 p.st) ∧ W.cell? ⟨w.heap.size, 1, none⟩ = some (A) ∧ W.cell? ⟨w.heap.size, 2, none⟩ = some (B) ∧ W.cell? ⟨w.heap.size, 3, none⟩ = some (C) ∧ W.cell? ⟨w.heap.size + 1, 3, none⟩ = some (.slice (some ⟨bb, o, none⟩) x.args.length cap) ∧ W.cell? ⟨bb, o + k * 4, none⟩ = some (.int .u8 (y.op : Int)) ∧ W.cell? ⟨bb, o + k * 4 + 1, none⟩ = some (.int .i64 y.n) ∧ W.cell? ⟨bb, o + k * 4 + 2, none⟩ = some (.string y.name) ∧ W.cell? ⟨bb, o + k * 4 + 3, none⟩ = some (.slice a4 y.args.length c4)) (by kernel_rfl) ?_ (fun hHeld => ?_)
      · exact ⟨cell_kept R0 HY.out.below.drew, cell_kept R1 HY.out.below.drew, cell_kept R2 HY.out.below.drew, cell_kept R3 HY.out.below.drew, cell_kept Q3 HY.out.below.drew, cell_kept Y0 HY.out.below.drew, cell_kept Y1 HY.out.below.drew, cell_kept Y2 HY.out.below.drew, cell_kept Y3 HY.out.below.drew⟩
      refine wpAnyH_take (i := 0) (oi := { dst := some 20, op := Go.Op.move (Go.Operand.tmp 5), type := 45, pos := _, after := #[], guard := none }) (v := ?_) rfl (by kernel_rfl) (by kernel_rfl) (by kernel_rfl) (fun _ _ _ h => h) (Or.inl ⟨by rfl, ?_⟩) (by assumption) ?_
      rotate_left
      · intro w hSw; (try dsimp only at hSw); go_simp <;> first | with_reducible rfl | (rw [if_neg (by first | omega | (simp only [ByteArray.size_append] at *; omega))])
      simp only [Act.put, List.setIfInBounds_toArray, List.set_cons_zero, List.set_cons_succ]
      refine wpAnyH_take (i := 1) (oi := { dst := some 21, op := Go.Op.load 26 (Go.Operand.tmp 2), type := 26, pos := _, after := #[], guard := none }) (v := ?_) rfl (by kernel_rfl) (by kernel_rfl) (by kernel_rfl) (fun _ _ _ h => h) (Or.inl ⟨by rfl, ?_⟩) (by assumption) ?_
      rotate_left
      · intro w hSw; (try dsimp only at hSw); go_simp <;> first | with_reducible rfl | (rw [if_neg (by first | omega | (simp only [ByteArray.size_append] at *; omega))])
      simp only [Act.put, List.setIfInBounds_toArray, List.set_cons_zero, List.set_cons_succ]
      refine wpAnyH_take (i := 2) (oi := { dst := some 22, op := Go.Op.fieldAddr 30 (Go.Operand.tmp 3) 3, type := 0, pos := _, after := #[], guard := none }) (v := ?_) rfl (by kernel_rfl) (by kernel_rfl) (by kernel_rfl) (fun _ _ _ h => h) (Or.inl ⟨by rfl, ?_⟩) (by assumption) ?_
      rotate_left
      · intro w hSw; (try dsimp only at hSw); go_simp <;> first | with_reducible rfl | (rw [if_neg (by first | omega | (simp only [ByteArray.size_append] at *; omega))])
      simp only [Act.put, List.setIfInBounds_toArray, List.set_cons_zero, List.set_cons_succ]
      refine wpAnyH_take (i := 3) (oi := { dst := some 23, op := Go.Op.load 28 (Go.Operand.tmp 22), type := 28, pos := _, after := #[{ on := 2, ground := Go.Ground.data }], guard := none }) (v := ?_) rfl (by kernel_rfl) (by kernel_rfl) (by kernel_rfl) (fun _ _ _ h => h) (Or.inl ⟨by rfl, ?_⟩) (by assumption) ?_
      rotate_left
      · intro w hSw; (try dsimp only at hSw); go_simp <;> first | with_reducible rfl | (rw [if_neg (by first | omega | (simp only [ByteArray.size_append] at *; omega))])
      simp only [Act.put, List.setIfInBounds_toArray, List.set_cons_zero, List.set_cons_succ]
      refine wpAnyH_take (i := 4) (oi := { dst := some 24, op := Go.Op.move (Go.Operand.tmp 6), type := 3, pos := _, after := #[], guard := none }) (v := ?_) rfl (by kernel_rfl) (by kernel_rfl) (by kernel_rfl) (fun _ _ _ h => h) (Or.inl ⟨by rfl, ?_⟩) (by assumption) ?_
      rotate_left
      · intro w hSw; (try dsimp only at hSw); go_simp <;> first | with_reducible rfl | (rw [if_neg (by first | omega | (simp only [ByteArray.size_append] at *; omega))])
      simp only [Act.put, List.setIfInBounds_toArray, List.set_cons_zero, List.set_cons_succ]
      refine wpAnyH_take (i := 5) (oi := { dst := some 25, op := Go.Op.indexAddr 28 (Go.Operand.tmp 23) (Go.Operand.tmp 24), type := 0, pos := _, after := #[{ on := 3, ground := Go.Ground.data }, { on := 4, ground := Go.Ground.data }], guard := none }) (v := ?_) rfl (by kernel_rfl) (by kernel_rfl) (by kernel_rfl) (fun _ _ _ h => h) (Or.inl ⟨by rfl, ?_⟩) (by assumption) ?_
      rotate_left
      · intro w hSw; (try dsimp only at hSw); go_simp <;> first | with_reducible rfl | (rw [if_neg (by first | omega | (simp only [ByteArray.size_append] at *; omega))])
      simp only [Act.put, List.setIfInBounds_toArray, List.set_cons_zero, List.set_cons_succ]
      refine wpAnyH_take (i := 6) (oi := { dst := some 26, op := Go.Op.load 30 (Go.Operand.tmp 25), type := 30, pos := _, after := #[{ on := 5, ground := Go.Ground.data }], guard := none }) (v := ?_) rfl (by kernel_rfl) (by kernel_rfl) (by kernel_rfl) (fun _ _ _ h => h) (Or.inl ⟨by rfl, ?_⟩) (by assumption) ?_
      rotate_left
      · intro w hSw; (try dsimp only at hSw); go_simp <;> first | with_reducible rfl | (rw [if_neg (by first | omega | (simp only [ByteArray.size_append] at *; omega))])
      simp only [Act.put, List.setIfInBounds_toArray, List.set_cons_zero, List.set_cons_succ]
      refine wpAnyH_ready (rs := [7]) (by kernel_rfl) (by simp) ?_
      refine AllReadyH.cons (o := { dst := some 27, op := Go.Op.call { callee := Go.Callee.value (Go.Operand.func 36), args := #[Go.Operand.tmp 21, Go.Operand.tmp 26], argTypes := #[26, 30] }, type := 35, pos := _, after := #[{ on := 1, ground := Go.Ground.data }, { on := 6, ground := Go.Ground.data }], guard := none }) rfl (fun K hK => ?_) AllReadyH.nil
      go_simp
      refine c36.mono ?_
      rintro e w3 ⟨rfl, hb3'⟩
      have hb3 : Below wr.heap.size wr w3 := (Below.refl _ _).drew.trans (hb3'.mono (by simp))
      have YY3 := hid (HY.out.keep hb3)
      go_wp2_with fail
      refine hK.out _ _ ?_ (fun hHeld1 => ?_)
      · exact ⟨cell_kept R0 YY3.out.below, cell_kept R1 YY3.out.below, cell_kept R2 YY3.out.below, cell_kept R3 YY3.out.below, cell_kept Q3 YY3.out.below, cell_kept Y0 YY3.out.below, cell_kept Y1 YY3.out.below, cell_kept Y2 YY3.out.below, cell_kept Y3 YY3.out.below⟩
      clear hK K
      have N2 := hid (YY3.out.keep ((Below.refl w3.heap.size w3).alloc (Nat.le_refl _) (.cells #[.int .u8 (ty : Int)] 35)))
      have W5 := hid (next_cells w3 [.int .u8 (ty : Int)] 35)
      refine wpAnyH_ready (rs := [8]) (by kernel_rfl) (by simp) ?_
      refine AllReadyH.cons (o := { dst := some 28, op := Go.Op.buildSlice 45 1 #[(0, Go.Operand.tmp 27)], type := 45, pos := _, after := #[{ on := 7, ground := Go.Ground.data }], guard := none }) rfl (fun K hK => ?_) AllReadyH.nil
      go_simp
      go_wp2_with fail
      refine hK.out _ _ ?_ (fun hHeld2 => ?_)
      · exact ⟨cell_kept R0 N2.out.below, cell_kept R1 N2.out.below, cell_kept R2 N2.out.below, cell_kept R3 N2.out.below, cell_kept Q3 N2.out.below, cell_kept Y0 N2.out.below, cell_kept Y1 N2.out.below, cell_kept Y2 N2.out.below, cell_kept Y3 N2.out.below⟩
      clear hK K
      refine wpAnyH_ready (rs := [9]) (by kernel_rfl) (by simp) ?_
      refine AllReadyH.cons (o := { dst := some 29, op := Go.Op.call { callee := Go.Callee.builtin Go.Builtin.append, args := #[Go.Operand.tmp 20, Go.Operand.tmp 28], argTypes := #[45, 45] }, type := 45, pos := _, after := #[{ on := 0, ground := Go.Ground.data }, { on := 8, ground := Go.Ground.data }, { on := 7, ground := Go.Ground.chain }], guard := none }) rfl (fun K hK => ?_) AllReadyH.nil
      refine step_append_lies _ (by rfl) _ _ _ (by rfl) W2.heap.size 35 i0 _ 1 1 Tryd.underlying45 hi hz0 hz1 hz2 rfl (by decide) _ _ _ (by rfl) N2.out.own ⟨w3.heap.size, 0, none⟩ 1 1 [.int .u8 (ty : Int)] (by rfl) (by rfl) W5.out (by simp [Value.oneCell']) (by omega) hmx (by omega) N2.out.below.size (w3.heap.size + 1) (by simp) ?_
      intro g5 cap5 w6 hown6 hgrow6 _ _
      have N3 := hid (N2.out.grow hown6 hgrow6)
      clear hown6 hgrow6
      refine hK.out _ _ ?_ (fun hHeld3 => ?_)
      · exact ⟨cell_kept R0 N3.out.below, cell_kept R1 N3.out.below, cell_kept R2 N3.out.below, cell_kept R3 N3.out.below, cell_kept Q3 N3.out.below, cell_kept Y0 N3.out.below, cell_kept Y1 N3.out.below, cell_kept Y2 N3.out.below, cell_kept Y3 N3.out.below⟩
      clear hK K
      refine wpAnyH_take (i := 10) (oi := { dst := some 5, op := Go.Op.assign (Go.Operand.tmp 29), type := 45, pos := _, after := #[{ on := 9, ground := Go.Ground.data }, { on := 9, ground := Go.Ground.chain }, { on := 0, ground := Go.Ground.phase }, { on := 1, ground := Go.Ground.phase }, { on := 2, ground := Go.Ground.phase }, { on := 3, ground := Go.Ground.phase }, { on := 4, ground := Go.Ground.phase }, { on := 5, ground := Go.Ground.phase }, { on := 6, ground := Go.Ground.phase }, { on := 7, ground := Go.Ground.phase }, { on := 8, ground := Go.Ground.phase }, { on := 9, ground := Go.Ground.phase }], guard := none }) (v := ?_) rfl (by kernel_rfl) (by kernel_rfl) (by kernel_rfl) (fun _ _ _ h => h) (Or.inl ⟨by rfl, ?_⟩) (by assumption) ?_
      rotate_left
      · intro w hSw; (try dsimp only at hSw); go_simp <;> first | with_reducible rfl | (rw [if_neg (by omega)])
      simp only [Act.put, List.setIfInBounds_toArray, List.set_cons_zero, List.set_cons_succ]
      refine wpAnyH_done (by kernel_rfl) ?_ _
      go_wp2_with (fail)
      go_roundw
      case rel => exact ⟨k + 1, by omega, by go_num, hid (by rw [HT.out]; exact N3.out)⟩
      case measure => simp [intOf]; omega
    · have hlt' : ¬ (k : Int) < (x.args.length : Int) := by omega
      obtain rfl : k = x.args.length := by omega
      have HTS : Hid (x.args.map (tyE p) = (x.args.take x.args.length).map (tyE p)) := hid (by rw [List.take_length])
      have HTL : Hid (((x.args.take x.args.length).map (tyE p)).length = x.args.length) := hid (by simp)
      have q3 := cell_kept Q3 HY.out.below
      have HLL : ((x.args.take x.args.length).map (tyE p)).length ≤ 2513169434843 := by rw [HTL.out]; exact HLN.out
      have HVV := HY.out.shape
      have HAT := hid (fun h => HY.out.at h)
      clear hk hlt
      generalize (x.args.take x.args.length).map (tyE p) = ts at *
      obtain ⟨va, vc, rfl⟩ := HVV
      by_cases h0 : 0 < ts.length
      · have h0' : (0 : Int) < (ts.length : Int) := by omega
        obtain ⟨g, gc, e, hgc, hty⟩ := HAT.out h0
        injection e with e1 e2 e3
        subst e1
        have z0 := hty 0 h0
        rw [Nat.add_zero] at z0
        have HTY := hid hty
        have hc1 : Hid (com (ts.take 1) = ts[0]) := hid (by
          cases ts with
          | nil => simp at h0
          | cons a l => simp [com])
        clear hty hgc e2 e3
        rw [← hc1.out] at z0
        clear hc1
        go_wp2_with (fail)
        go_loopw [7, 8] (fun a i wr' => ∃ k : Nat, 1 ≤ k ∧ k ≤ ts.length ∧ i = .int .i64 (k : Int) ∧ a = .int .u8 (com (ts.take k) : Int) ∧ wr' = wr) (fun _ i _ => ts.length - (intOf i).toNat)
        case atStart => exact ⟨1, by omega, by omega, rfl, rfl, rfl⟩
        case round =>
          obtain ⟨k, hk1, hk, rfl, rfl, rfl⟩ := hrel
          by_cases hlt : k < ts.length
          · have hlt' : (k : Int) < (ts.length : Int) := by omega
            have hk0 : (0 : Int) ≤ (k : Int) := by omega
            have zk := HTY.out k hlt
            rw [Nat.zero_add] at zk
            have HC2 : Hid (com (ts.take (k + 1)) = if ts[k] = com (ts.take k) then com (ts.take k) else 0) := hid (by rw [List.take_succ_eq_append_getElem hlt]; exact com_snoc _ _ (by rw [List.length_take]; omega))
            clear z0
            generalize ts[k] = tk at *
            generalize com (ts.take k) = tc at *
            by_cases he : tk = tc
            · have e1 : ((tk : Int) != (tc : Int)) = false := by rw [bne_eq_false_iff_eq]; omega
              have HC3 : Hid (com (ts.take (k + 1)) = tc) := hid (by rw [HC2.out, if_pos he])
              clear he
              go_wp2_with (fail)
              go_roundw
              case rel => exact ⟨k + 1, by omega, by omega, by go_num, by rw [HC3.out], by first | rfl | trivial⟩
              case measure => simp [intOf]; omega
            · have e1 : ((tk : Int) != (tc : Int)) = true := by simp; omega
              have HC3 : Hid (com (ts.take (k + 1)) = 0) := hid (by rw [HC2.out, if_neg he])
              clear he
              go_wp2_with (fail)
              go_roundw
              case rel => exact ⟨k + 1, by omega, by omega, by go_num, by rw [HC3.out]; rfl, by first | rfl | trivial⟩
              case measure => simp [intOf]; omega
          · have hlt' : ¬ (k : Int) < (ts.length : Int) := by omega
            obtain rfl : k = ts.length := by omega
            rw [List.take_length]
            have hcs : ∀ n, x.op = n → n = n := fun _ _ => rfl
            have q2 := cell_kept Q2 HY.out.below
            clear z0 hk hk1 hlt
            obtain hop' | hop' | hop' | hop' | hop' | hop' | hop' | hop' | hop' | hop' | hop' | hop' | hop' | hop' | hop' | hop' | hop' | hop' | hop' : x.op = 1 ∨ x.op = 2 ∨ x.op = 3 ∨ x.op = 4 ∨ x.op = 5 ∨ x.op = 6 ∨ x.op = 7 ∨ x.op = 8 ∨ x.op = 9 ∨ x.op = 10 ∨ x.op = 11 ∨ x.op = 12 ∨ x.op = 13 ∨ x.op = 14 ∨ x.op = 15 ∨ x.op = 16 ∨ x.op = 17 ∨ x.op = 18 ∨ x.op = 19 := by have := HO.out; omega
            · have q0 : wr.cell? ⟨w.heap.size + 1, 0, none⟩ = some (.int .u8 1) := by rw [cell_kept Q0 HY.out.below, hop']; rfl
              have HV : Hid (tyE p x = 1) := hid (by rw [tyE_eq]; simp [hop'])
              have HBW := hid (bstep B2.out HY.out.below)
              go_wp2_with (fail)
              go_ret
              exact ⟨by rw [HV.out]; rfl, HBW.out⟩
            · have q0 : wr.cell? ⟨w.heap.size + 1, 0, none⟩ = some (.int .u8 2) := by rw [cell_kept Q0 HY.out.below, hop']; rfl
              have HV : Hid (tyE p x = 2) := hid (by rw [tyE_eq]; simp [hop'])
              have HBW := hid (bstep B2.out HY.out.below)
              go_wp2_with (fail)
              go_ret
              exact ⟨by rw [HV.out]; rfl, HBW.out⟩
            · have q0 : wr.cell? ⟨w.heap.size + 1, 0, none⟩ = some (.int .u8 3) := by rw [cell_kept Q0 HY.out.below, hop']; rfl
              have HV : Hid (tyE p x = tyN p x.name) := hid (by rw [tyE_eq]; simp [hop'])
              have HBW := hid (bstep B2.out HY.out.below)
              have r0 := cell_kept R0 HY.out.below
              have r1 := cell_kept R1 HY.out.below
              have r2 := cell_kept R2 HY.out.below
              have r3 := cell_kept R3 HY.out.below
              have c35 := rfind p x.name _ _ _ _ (HP.out.keep HBW.out)
              obtain ⟨v1, v2, v3, v4, hfo, hty⟩ : ∃ (v1 : Int) (v2 : Nat) (v3 : Int) (v4 : Bool), foV (findT (thingsL p) x.name) = #[.int .i64 v1, .int .u8 (v2 : Int), .int .i64 v3, .bool v4] ∧ tyN p x.name = if v2 = 1 ∨ v2 = 2 then v2 else 0 := by
                unfold tyN
                cases findT (thingsL p) x.name with
                | none => exact ⟨0, 0, 0, false, rfl, rfl⟩
                | some z => exact ⟨z.2.st, z.2.ty, z.1, true, rfl, rfl⟩
              rw [hfo] at c35
              have HTY := hid hty
              clear hty hfo
              go_wp2_with (fail)
              refine c35.mono ?_
              rintro e w4 ⟨rfl, hb4⟩
              have HB4 := hid (bstep HBW.out hb4)
              clear hb4
              by_cases h1 : v2 = 1
              · have e1 : ((v2 : Int) == 1) = true := by rw [beq_iff_eq]; omega
                have HV2 : Hid (tyE p x = v2) := hid (by rw [HV.out, HTY.out, if_pos (.inl h1)])
                clear h1
                go_wp2_with (fail)
                go_ret
                exact ⟨by rw [HV2.out]; rfl, HB4.out⟩
              · have e1 : ((v2 : Int) == 1) = false := by rw [beq_eq_false_iff_ne]; omega
                by_cases h2 : v2 = 2
                · have e2 : ((v2 : Int) == 2) = true := by rw [beq_iff_eq]; omega
                  have HV2 : Hid (tyE p x = v2) := hid (by rw [HV.out, HTY.out, if_pos (.inr h2)])
                  clear h1 h2
                  go_wp2_with (fail)
                  go_ret
                  exact ⟨by rw [HV2.out]; rfl, HB4.out⟩
                · have e2 : ((v2 : Int) == 2) = false := by rw [beq_eq_false_iff_ne]; omega
                  have HV2 : Hid (tyE p x = 0) := hid (by rw [HV.out, HTY.out, if_neg (by omega)])
                  clear h1 h2
                  go_wp2_with (fail)
                  go_ret
                  exact ⟨by rw [HV2.out]; rfl, HB4.out⟩
            · have q0 : wr.cell? ⟨w.heap.size + 1, 0, none⟩ = some (.int .u8 4) := by rw [cell_kept Q0 HY.out.below, hop']; rfl
              by_cases ha : com ts = 1
              · have ea : ((com ts : Int) == 1) = true := by rw [beq_iff_eq]; omega
                have HV : Hid (tyE p x = 1) := hid (by rw [tyE_eq, HTS.out]; simp [hop', ruleT, ha])
                have HBW := hid (bstep B2.out HY.out.below)
                clear ha
                generalize com ts = tc at *
                go_wp2_with (fail)
                go_ret
                exact ⟨by rw [HV.out]; rfl, HBW.out⟩
              · have ea : ((com ts : Int) == 1) = false := by rw [beq_eq_false_iff_ne]; omega
                have HV : Hid (tyE p x = 0) := hid (by rw [tyE_eq, HTS.out]; simp [hop', ruleT, ha])
                have HBW := hid (bstep B2.out HY.out.below)
                clear ha
                generalize com ts = tc at *
                go_wp2_with (fail)
                go_ret
                exact ⟨by rw [HV.out]; rfl, HBW.out⟩
            · have q0 : wr.cell? ⟨w.heap.size + 1, 0, none⟩ = some (.int .u8 5) := by rw [cell_kept Q0 HY.out.below, hop']; rfl
              by_cases ha : com ts = 2
              · have ea : ((com ts : Int) == 2) = true := by rw [beq_iff_eq]; omega
                have HV : Hid (tyE p x = 2) := hid (by rw [tyE_eq, HTS.out]; simp [hop', ruleT, ha])
                have HBW := hid (bstep B2.out HY.out.below)
                clear ha
                generalize com ts = tc at *
                go_wp2_with (fail)
                go_ret
                exact ⟨by rw [HV.out]; rfl, HBW.out⟩
              · have ea : ((com ts : Int) == 2) = false := by rw [beq_eq_false_iff_ne]; omega
                have HV : Hid (tyE p x = 0) := hid (by rw [tyE_eq, HTS.out]; simp [hop', ruleT, ha])
                have HBW := hid (bstep B2.out HY.out.below)
                clear ha
                generalize com ts = tc at *
                go_wp2_with (fail)
                go_ret
                exact ⟨by rw [HV.out]; rfl, HBW.out⟩
            · have q0 : wr.cell? ⟨w.heap.size + 1, 0, none⟩ = some (.int .u8 6) := by rw [cell_kept Q0 HY.out.below, hop']; rfl
              by_cases ha : com ts = 1
              · have ea : ((com ts : Int) == 1) = true := by rw [beq_iff_eq]; omega
                have HV : Hid (tyE p x = 1) := hid (by rw [tyE_eq, HTS.out]; simp [hop', ruleT, ha])
                have HBW := hid (bstep B2.out HY.out.below)
                clear ha
                generalize com ts = tc at *
                go_wp2_with (fail)
                go_ret
                exact ⟨by rw [HV.out]; rfl, HBW.out⟩
              · have ea : ((com ts : Int) == 1) = false := by rw [beq_eq_false_iff_ne]; omega
                have HV : Hid (tyE p x = 0) := hid (by rw [tyE_eq, HTS.out]; simp [hop', ruleT, ha])
                have HBW := hid (bstep B2.out HY.out.below)
                clear ha
                generalize com ts = tc at *
                go_wp2_with (fail)
                go_ret
                exact ⟨by rw [HV.out]; rfl, HBW.out⟩
            · have q0 : wr.cell? ⟨w.heap.size + 1, 0, none⟩ = some (.int .u8 7) := by rw [cell_kept Q0 HY.out.below, hop']; rfl
              by_cases ha : com ts = 1
              · have ea : ((com ts : Int) == 1) = true := by rw [beq_iff_eq]; omega
                have HV : Hid (tyE p x = 1) := hid (by rw [tyE_eq, HTS.out]; simp [hop', ruleT, ha])
                have HBW := hid (bstep B2.out HY.out.below)
                clear ha
                generalize com ts = tc at *
                go_wp2_with (fail)
                go_ret
                exact ⟨by rw [HV.out]; rfl, HBW.out⟩
              · have ea : ((com ts : Int) == 1) = false := by rw [beq_eq_false_iff_ne]; omega
                have HV : Hid (tyE p x = 0) := hid (by rw [tyE_eq, HTS.out]; simp [hop', ruleT, ha])
                have HBW := hid (bstep B2.out HY.out.below)
                clear ha
                generalize com ts = tc at *
                go_wp2_with (fail)
                go_ret
                exact ⟨by rw [HV.out]; rfl, HBW.out⟩
            · have q0 : wr.cell? ⟨w.heap.size + 1, 0, none⟩ = some (.int .u8 8) := by rw [cell_kept Q0 HY.out.below, hop']; rfl
              by_cases ha : com ts = 1
              · have ea : ((com ts : Int) == 1) = true := by rw [beq_iff_eq]; omega
                have HV : Hid (tyE p x = 1) := hid (by rw [tyE_eq, HTS.out]; simp [hop', ruleT, ha])
                have HBW := hid (bstep B2.out HY.out.below)
                clear ha
                generalize com ts = tc at *
                go_wp2_with (fail)
                go_ret
                exact ⟨by rw [HV.out]; rfl, HBW.out⟩
              · have ea : ((com ts : Int) == 1) = false := by rw [beq_eq_false_iff_ne]; omega
                have HV : Hid (tyE p x = 0) := hid (by rw [tyE_eq, HTS.out]; simp [hop', ruleT, ha])
                have HBW := hid (bstep B2.out HY.out.below)
                clear ha
                generalize com ts = tc at *
                go_wp2_with (fail)
                go_ret
                exact ⟨by rw [HV.out]; rfl, HBW.out⟩
            · have q0 : wr.cell? ⟨w.heap.size + 1, 0, none⟩ = some (.int .u8 9) := by rw [cell_kept Q0 HY.out.below, hop']; rfl
              by_cases ha : com ts = 1
              · have ea : ((com ts : Int) == 1) = true := by rw [beq_iff_eq]; omega
                have HV : Hid (tyE p x = 1) := hid (by rw [tyE_eq, HTS.out]; simp [hop', ruleT, ha])
                have HBW := hid (bstep B2.out HY.out.below)
                clear ha
                generalize com ts = tc at *
                go_wp2_with (fail)
                go_ret
                exact ⟨by rw [HV.out]; rfl, HBW.out⟩
              · have ea : ((com ts : Int) == 1) = false := by rw [beq_eq_false_iff_ne]; omega
                have HV : Hid (tyE p x = 0) := hid (by rw [tyE_eq, HTS.out]; simp [hop', ruleT, ha])
                have HBW := hid (bstep B2.out HY.out.below)
                clear ha
                generalize com ts = tc at *
                go_wp2_with (fail)
                go_ret
                exact ⟨by rw [HV.out]; rfl, HBW.out⟩
            · have q0 : wr.cell? ⟨w.heap.size + 1, 0, none⟩ = some (.int .u8 10) := by rw [cell_kept Q0 HY.out.below, hop']; rfl
              by_cases ha : com ts = 1
              · have ea : ((com ts : Int) == 1) = true := by rw [beq_iff_eq]; omega
                have HV : Hid (tyE p x = 1) := hid (by rw [tyE_eq, HTS.out]; simp [hop', ruleT, ha])
                have HBW := hid (bstep B2.out HY.out.below)
                clear ha
                generalize com ts = tc at *
                go_wp2_with (fail)
                go_ret
                exact ⟨by rw [HV.out]; rfl, HBW.out⟩
              · have ea : ((com ts : Int) == 1) = false := by rw [beq_eq_false_iff_ne]; omega
                have HV : Hid (tyE p x = 0) := hid (by rw [tyE_eq, HTS.out]; simp [hop', ruleT, ha])
                have HBW := hid (bstep B2.out HY.out.below)
                clear ha
                generalize com ts = tc at *
                go_wp2_with (fail)
                go_ret
                exact ⟨by rw [HV.out]; rfl, HBW.out⟩
            · have q0 : wr.cell? ⟨w.heap.size + 1, 0, none⟩ = some (.int .u8 11) := by rw [cell_kept Q0 HY.out.below, hop']; rfl
              by_cases ha : com ts = 0
              · have ea : ((com ts : Int) != 0) = false := by rw [bne_eq_false_iff_eq]; omega
                have HV : Hid (tyE p x = 0) := hid (by rw [tyE_eq, HTS.out]; simp [hop', ruleT, ha])
                have HBW := hid (bstep B2.out HY.out.below)
                clear ha
                generalize com ts = tc at *
                go_wp2_with (fail)
                go_ret
                exact ⟨by rw [HV.out]; rfl, HBW.out⟩
              · have ea : ((com ts : Int) != 0) = true := by simp; omega
                have HV : Hid (tyE p x = 2) := hid (by rw [tyE_eq, HTS.out]; simp [hop', ruleT, ha])
                have HBW := hid (bstep B2.out HY.out.below)
                clear ha
                generalize com ts = tc at *
                go_wp2_with (fail)
                go_ret
                exact ⟨by rw [HV.out]; rfl, HBW.out⟩
            · have q0 : wr.cell? ⟨w.heap.size + 1, 0, none⟩ = some (.int .u8 12) := by rw [cell_kept Q0 HY.out.below, hop']; rfl
              by_cases ha : com ts = 0
              · have ea : ((com ts : Int) != 0) = false := by rw [bne_eq_false_iff_eq]; omega
                have HV : Hid (tyE p x = 0) := hid (by rw [tyE_eq, HTS.out]; simp [hop', ruleT, ha])
                have HBW := hid (bstep B2.out HY.out.below)
                clear ha
                generalize com ts = tc at *
                go_wp2_with (fail)
                go_ret
                exact ⟨by rw [HV.out]; rfl, HBW.out⟩
              · have ea : ((com ts : Int) != 0) = true := by simp; omega
                have HV : Hid (tyE p x = 2) := hid (by rw [tyE_eq, HTS.out]; simp [hop', ruleT, ha])
                have HBW := hid (bstep B2.out HY.out.below)
                clear ha
                generalize com ts = tc at *
                go_wp2_with (fail)
                go_ret
                exact ⟨by rw [HV.out]; rfl, HBW.out⟩
            · have q0 : wr.cell? ⟨w.heap.size + 1, 0, none⟩ = some (.int .u8 13) := by rw [cell_kept Q0 HY.out.below, hop']; rfl
              by_cases ha : com ts = 1
              · have ea : ((com ts : Int) == 1) = true := by rw [beq_iff_eq]; omega
                have HV : Hid (tyE p x = 2) := hid (by rw [tyE_eq, HTS.out]; simp [hop', ruleT, ha])
                have HBW := hid (bstep B2.out HY.out.below)
                clear ha
                generalize com ts = tc at *
                go_wp2_with (fail)
                go_ret
                exact ⟨by rw [HV.out]; rfl, HBW.out⟩
              · have ea : ((com ts : Int) == 1) = false := by rw [beq_eq_false_iff_ne]; omega
                have HV : Hid (tyE p x = 0) := hid (by rw [tyE_eq, HTS.out]; simp [hop', ruleT, ha])
                have HBW := hid (bstep B2.out HY.out.below)
                clear ha
                generalize com ts = tc at *
                go_wp2_with (fail)
                go_ret
                exact ⟨by rw [HV.out]; rfl, HBW.out⟩
            · have q0 : wr.cell? ⟨w.heap.size + 1, 0, none⟩ = some (.int .u8 14) := by rw [cell_kept Q0 HY.out.below, hop']; rfl
              by_cases ha : com ts = 1
              · have ea : ((com ts : Int) == 1) = true := by rw [beq_iff_eq]; omega
                have HV : Hid (tyE p x = 2) := hid (by rw [tyE_eq, HTS.out]; simp [hop', ruleT, ha])
                have HBW := hid (bstep B2.out HY.out.below)
                clear ha
                generalize com ts = tc at *
                go_wp2_with (fail)
                go_ret
                exact ⟨by rw [HV.out]; rfl, HBW.out⟩
              · have ea : ((com ts : Int) == 1) = false := by rw [beq_eq_false_iff_ne]; omega
                have HV : Hid (tyE p x = 0) := hid (by rw [tyE_eq, HTS.out]; simp [hop', ruleT, ha])
                have HBW := hid (bstep B2.out HY.out.below)
                clear ha
                generalize com ts = tc at *
                go_wp2_with (fail)
                go_ret
                exact ⟨by rw [HV.out]; rfl, HBW.out⟩
            · have q0 : wr.cell? ⟨w.heap.size + 1, 0, none⟩ = some (.int .u8 15) := by rw [cell_kept Q0 HY.out.below, hop']; rfl
              by_cases ha : com ts = 2
              · have ea : ((com ts : Int) == 2) = true := by rw [beq_iff_eq]; omega
                have HV : Hid (tyE p x = 2) := hid (by rw [tyE_eq, HTS.out]; simp [hop', ruleT, ha])
                have HBW := hid (bstep B2.out HY.out.below)
                clear ha
                generalize com ts = tc at *
                go_wp2_with (fail)
                go_ret
                exact ⟨by rw [HV.out]; rfl, HBW.out⟩
              · have ea : ((com ts : Int) == 2) = false := by rw [beq_eq_false_iff_ne]; omega
                have HV : Hid (tyE p x = 0) := hid (by rw [tyE_eq, HTS.out]; simp [hop', ruleT, ha])
                have HBW := hid (bstep B2.out HY.out.below)
                clear ha
                generalize com ts = tc at *
                go_wp2_with (fail)
                go_ret
                exact ⟨by rw [HV.out]; rfl, HBW.out⟩
            · have q0 : wr.cell? ⟨w.heap.size + 1, 0, none⟩ = some (.int .u8 16) := by rw [cell_kept Q0 HY.out.below, hop']; rfl
              by_cases ha : com ts = 2
              · have ea : ((com ts : Int) == 2) = true := by rw [beq_iff_eq]; omega
                have HV : Hid (tyE p x = 2) := hid (by rw [tyE_eq, HTS.out]; simp [hop', ruleT, ha])
                have HBW := hid (bstep B2.out HY.out.below)
                clear ha
                generalize com ts = tc at *
                go_wp2_with (fail)
                go_ret
                exact ⟨by rw [HV.out]; rfl, HBW.out⟩
              · have ea : ((com ts : Int) == 2) = false := by rw [beq_eq_false_iff_ne]; omega
                have HV : Hid (tyE p x = 0) := hid (by rw [tyE_eq, HTS.out]; simp [hop', ruleT, ha])
                have HBW := hid (bstep B2.out HY.out.below)
                clear ha
                generalize com ts = tc at *
                go_wp2_with (fail)
                go_ret
                exact ⟨by rw [HV.out]; rfl, HBW.out⟩
            · have q0 : wr.cell? ⟨w.heap.size + 1, 0, none⟩ = some (.int .u8 17) := by rw [cell_kept Q0 HY.out.below, hop']; rfl
              have hl3 : x.args.length = 3 := (ok_parts HF.out (by rw [hop']; decide) (by rw [hop']; decide) (by rw [hop']; decide)).2.2.2.2 hop'
              have hts : ts.length = 3 := HTL.out.trans hl3
              obtain ⟨t0, t1, t2, rfl⟩ : ∃ t0 t1 t2, ts = [t0, t1, t2] := by
                match ts, hts with
                | [a, b, c], _ => exact ⟨a, b, c, rfl⟩
              have HV0 : Hid (tyE p x = if t0 = 2 then com [t1, t2] else 0) := hid (by rw [tyE_eq, HTS.out]; simp [hop', ruleT])
              have z0 := HTY.out 0 (by simp)
              have z1 := HTY.out 1 (by simp)
              have z2 := HTY.out 2 (by simp)
              simp only [List.getElem_cons_zero, List.getElem_cons_succ, Nat.zero_add] at z0 z1 z2
              have HBW := hid (bstep B2.out HY.out.below)
              clear hts hl3
              generalize com [t0, t1, t2] = tc at *
              by_cases h0 : t0 = 2
              · have e0 : ((t0 : Int) == 2) = true := by rw [beq_iff_eq]; omega
                by_cases h1 : t1 = t2
                · have e1 : ((t1 : Int) == (t2 : Int)) = true := by rw [beq_iff_eq]; omega
                  have HV : Hid (tyE p x = t1) := hid (by rw [HV0.out, if_pos h0]; simp [com, h1])
                  clear h0 h1 HV0
                  go_wp2_with (fail)
                  refine wp_region_held_drew (S := fun W => W.cell? ⟨g, 0, none⟩ = some (.int .u8 (t0 : Int)) ∧ W.cell? ⟨g, 1, none⟩ = some (.int .u8 (t1 : Int)) ∧ W.cell? ⟨g, 2, none⟩ = some (.int .u8 (t2 : Int))) (by kernel_rfl) ?_ (fun hHeld => ?_)
                  · exact ⟨z0, z1, z2⟩
                  refine wpAnyH_take (i := 0) (oi := { dst := some 99, op := Go.Op.move (Go.Operand.tmp 5), type := 45, pos := _, after := #[], guard := none }) (v := ?_) rfl (by kernel_rfl) (by kernel_rfl) (by kernel_rfl) (fun _ _ _ h => h) (Or.inl ⟨by rfl, ?_⟩) (by assumption) ?_
                  rotate_left
                  · intro w hSw; (try dsimp only at hSw); go_simp <;> first | with_reducible rfl | (rw [if_neg (by first | omega | (simp only [ByteArray.size_append] at *; omega))])
                  simp only [Act.put, List.setIfInBounds_toArray, List.set_cons_zero, List.set_cons_succ]
                  refine wpAnyH_take (i := 1) (oi := { dst := some 100, op := Go.Op.indexAddr 45 (Go.Operand.tmp 99) (Go.Operand.const (Go.Value.int Go.IntKind.i64 0)), type := 0, pos := _, after := #[{ on := 0, ground := Go.Ground.data }], guard := none }) (v := ?_) rfl (by kernel_rfl) (by kernel_rfl) (by kernel_rfl) (fun _ _ _ h => h) (Or.inl ⟨by rfl, ?_⟩) (by assumption) ?_
                  rotate_left
                  · intro w hSw; (try dsimp only at hSw); go_simp <;> first | with_reducible rfl | (rw [if_neg (by first | omega | (simp only [ByteArray.size_append] at *; omega))])
                  simp only [Act.put, List.setIfInBounds_toArray, List.set_cons_zero, List.set_cons_succ]
                  refine wpAnyH_take (i := 2) (oi := { dst := some 101, op := Go.Op.load 35 (Go.Operand.tmp 100), type := 35, pos := _, after := #[{ on := 1, ground := Go.Ground.data }], guard := none }) (v := ?_) rfl (by kernel_rfl) (by kernel_rfl) (by kernel_rfl) (fun _ _ _ h => h) (Or.inl ⟨by rfl, ?_⟩) (by assumption) ?_
                  rotate_left
                  · intro w hSw; (try dsimp only at hSw); go_simp <;> first | with_reducible rfl | (rw [if_neg (by first | omega | (simp only [ByteArray.size_append] at *; omega))])
                  simp only [Act.put, List.setIfInBounds_toArray, List.set_cons_zero, List.set_cons_succ]
                  refine wpAnyH_take (i := 3) (oi := { dst := some 102, op := Go.Op.binOp Go.BinOp.eql 35 (Go.Operand.tmp 101) (Go.Operand.const (Go.Value.int Go.IntKind.u8 2)) 35, type := 4, pos := _, after := #[{ on := 2, ground := Go.Ground.data }], guard := none }) (v := ?_) rfl (by kernel_rfl) (by kernel_rfl) (by kernel_rfl) (fun _ _ _ h => h) (Or.inl ⟨by rfl, ?_⟩) (by assumption) ?_
                  rotate_left
                  · intro w hSw; (try dsimp only at hSw); go_simp <;> first | with_reducible rfl | (rw [if_neg (by first | omega | (simp only [ByteArray.size_append] at *; omega))])
                  simp only [Act.put, List.setIfInBounds_toArray, List.set_cons_zero, List.set_cons_succ]
                  refine wpAnyH_take (i := 4) (oi := { dst := some 103, op := Go.Op.move (Go.Operand.tmp 102), type := 4, pos := _, after := #[{ on := 3, ground := Go.Ground.data }], guard := none }) (v := ?_) rfl (by kernel_rfl) (by kernel_rfl) (by kernel_rfl) (fun _ _ _ h => h) (Or.inl ⟨by rfl, ?_⟩) (by assumption) ?_
                  rotate_left
                  · intro w hSw; (try dsimp only at hSw); go_simp <;> first | with_reducible rfl | (rw [if_neg (by first | omega | (simp only [ByteArray.size_append] at *; omega))])
                  simp only [Act.put, List.setIfInBounds_toArray, List.set_cons_zero, List.set_cons_succ]
                  refine wpAnyH_take (i := 5) (oi := { dst := some 104, op := Go.Op.move (Go.Operand.tmp 5), type := 45, pos := _, after := #[{ on := 4, ground := Go.Ground.guard }], guard := some (4, true) }) (v := ?_) rfl (by kernel_rfl) (by kernel_rfl) (by kernel_rfl) (fun _ _ _ h => h) (Or.inl ⟨by rfl, ?_⟩) (by assumption) ?_
                  rotate_left
                  · intro w hSw; (try dsimp only at hSw); go_simp <;> first | with_reducible rfl | (rw [if_neg (by first | omega | (simp only [ByteArray.size_append] at *; omega))])
                  simp only [Act.put, List.setIfInBounds_toArray, List.set_cons_zero, List.set_cons_succ]
                  refine wpAnyH_take (i := 6) (oi := { dst := some 105, op := Go.Op.indexAddr 45 (Go.Operand.tmp 104) (Go.Operand.const (Go.Value.int Go.IntKind.i64 1)), type := 0, pos := _, after := #[{ on := 5, ground := Go.Ground.data }, { on := 4, ground := Go.Ground.guard }], guard := some (4, true) }) (v := ?_) rfl (by kernel_rfl) (by kernel_rfl) (by kernel_rfl) (fun _ _ _ h => h) (Or.inl ⟨by rfl, ?_⟩) (by assumption) ?_
                  rotate_left
                  · intro w hSw; (try dsimp only at hSw); go_simp <;> first | with_reducible rfl | (rw [if_neg (by first | omega | (simp only [ByteArray.size_append] at *; omega))])
                  simp only [Act.put, List.setIfInBounds_toArray, List.set_cons_zero, List.set_cons_succ]
                  refine wpAnyH_take (i := 7) (oi := { dst := some 106, op := Go.Op.load 35 (Go.Operand.tmp 105), type := 35, pos := _, after := #[{ on := 6, ground := Go.Ground.data }, { on := 4, ground := Go.Ground.guard }], guard := some (4, true) }) (v := ?_) rfl (by kernel_rfl) (by kernel_rfl) (by kernel_rfl) (fun _ _ _ h => h) (Or.inl ⟨by rfl, ?_⟩) (by assumption) ?_
                  rotate_left
                  · intro w hSw; (try dsimp only at hSw); go_simp <;> first | with_reducible rfl | (rw [if_neg (by first | omega | (simp only [ByteArray.size_append] at *; omega))])
                  simp only [Act.put, List.setIfInBounds_toArray, List.set_cons_zero, List.set_cons_succ]
                  refine wpAnyH_take (i := 8) (oi := { dst := some 107, op := Go.Op.move (Go.Operand.tmp 5), type := 45, pos := _, after := #[{ on := 4, ground := Go.Ground.guard }], guard := some (4, true) }) (v := ?_) rfl (by kernel_rfl) (by kernel_rfl) (by kernel_rfl) (fun _ _ _ h => h) (Or.inl ⟨by rfl, ?_⟩) (by assumption) ?_
                  rotate_left
                  · intro w hSw; (try dsimp only at hSw); go_simp <;> first | with_reducible rfl | (rw [if_neg (by first | omega | (simp only [ByteArray.size_append] at *; omega))])
                  simp only [Act.put, List.setIfInBounds_toArray, List.set_cons_zero, List.set_cons_succ]
                  refine wpAnyH_take (i := 9) (oi := { dst := some 108, op := Go.Op.indexAddr 45 (Go.Operand.tmp 107) (Go.Operand.const (Go.Value.int Go.IntKind.i64 2)), type := 0, pos := _, after := #[{ on := 8, ground := Go.Ground.data }, { on := 4, ground := Go.Ground.guard }], guard := some (4, true) }) (v := ?_) rfl (by kernel_rfl) (by kernel_rfl) (by kernel_rfl) (fun _ _ _ h => h) (Or.inl ⟨by rfl, ?_⟩) (by assumption) ?_
                  rotate_left
                  · intro w hSw; (try dsimp only at hSw); go_simp <;> first | with_reducible rfl | (rw [if_neg (by first | omega | (simp only [ByteArray.size_append] at *; omega))])
                  simp only [Act.put, List.setIfInBounds_toArray, List.set_cons_zero, List.set_cons_succ]
                  refine wpAnyH_take (i := 10) (oi := { dst := some 109, op := Go.Op.load 35 (Go.Operand.tmp 108), type := 35, pos := _, after := #[{ on := 9, ground := Go.Ground.data }, { on := 4, ground := Go.Ground.guard }], guard := some (4, true) }) (v := ?_) rfl (by kernel_rfl) (by kernel_rfl) (by kernel_rfl) (fun _ _ _ h => h) (Or.inl ⟨by rfl, ?_⟩) (by assumption) ?_
                  rotate_left
                  · intro w hSw; (try dsimp only at hSw); go_simp <;> first | with_reducible rfl | (rw [if_neg (by first | omega | (simp only [ByteArray.size_append] at *; omega))])
                  simp only [Act.put, List.setIfInBounds_toArray, List.set_cons_zero, List.set_cons_succ]
                  refine wpAnyH_take (i := 11) (oi := { dst := some 110, op := Go.Op.binOp Go.BinOp.eql 35 (Go.Operand.tmp 106) (Go.Operand.tmp 109) 35, type := 4, pos := _, after := #[{ on := 7, ground := Go.Ground.data }, { on := 10, ground := Go.Ground.data }, { on := 4, ground := Go.Ground.guard }], guard := some (4, true) }) (v := ?_) rfl (by kernel_rfl) (by kernel_rfl) (by kernel_rfl) (fun _ _ _ h => h) (Or.inl ⟨by rfl, ?_⟩) (by assumption) ?_
                  rotate_left
                  · intro w hSw; (try dsimp only at hSw); go_simp <;> first | with_reducible rfl | (rw [if_neg (by first | omega | (simp only [ByteArray.size_append] at *; omega))])
                  simp only [Act.put, List.setIfInBounds_toArray, List.set_cons_zero, List.set_cons_succ]
                  refine wpAnyH_take (i := 12) (oi := { dst := some 111, op := Go.Op.pick (Go.Operand.tmp 103) (Go.Operand.tmp 110) (Go.Operand.const (Go.Value.bool false)), type := 4, pos := _, after := #[{ on := 4, ground := Go.Ground.data }, { on := 11, ground := Go.Ground.data }], guard := none }) (v := ?_) rfl (by kernel_rfl) (by kernel_rfl) (by kernel_rfl) (fun _ _ _ h => h) (Or.inl ⟨by rfl, ?_⟩) (by assumption) ?_
                  rotate_left
                  · intro w hSw; (try dsimp only at hSw); go_simp <;> first | with_reducible rfl | (rw [if_neg (by first | omega | (simp only [ByteArray.size_append] at *; omega))])
                  simp only [Act.put, List.setIfInBounds_toArray, List.set_cons_zero, List.set_cons_succ]
                  refine wpAnyH_done (by kernel_rfl) ?_ _
                  go_wp2_with (fail)
                  go_ret
                  exact ⟨by rw [HV.out]; rfl, below_drewN HBW.out _⟩
                · have e1 : ((t1 : Int) == (t2 : Int)) = false := by rw [beq_eq_false_iff_ne]; omega
                  have HV : Hid (tyE p x = 0) := hid (by rw [HV0.out, if_pos h0]; have : ¬ t2 = t1 := fun h => h1 h.symm; simp [com, this])
                  clear h0 h1 HV0
                  go_wp2_with (fail)
                  refine wp_region_held_drew (S := fun W => W.cell? ⟨g, 0, none⟩ = some (.int .u8 (t0 : Int)) ∧ W.cell? ⟨g, 1, none⟩ = some (.int .u8 (t1 : Int)) ∧ W.cell? ⟨g, 2, none⟩ = some (.int .u8 (t2 : Int))) (by kernel_rfl) ?_ (fun hHeld => ?_)
                  · exact ⟨z0, z1, z2⟩
                  refine wpAnyH_take (i := 0) (oi := { dst := some 99, op := Go.Op.move (Go.Operand.tmp 5), type := 45, pos := _, after := #[], guard := none }) (v := ?_) rfl (by kernel_rfl) (by kernel_rfl) (by kernel_rfl) (fun _ _ _ h => h) (Or.inl ⟨by rfl, ?_⟩) (by assumption) ?_
                  rotate_left
                  · intro w hSw; (try dsimp only at hSw); go_simp <;> first | with_reducible rfl | (rw [if_neg (by first | omega | (simp only [ByteArray.size_append] at *; omega))])
                  simp only [Act.put, List.setIfInBounds_toArray, List.set_cons_zero, List.set_cons_succ]
                  refine wpAnyH_take (i := 1) (oi := { dst := some 100, op := Go.Op.indexAddr 45 (Go.Operand.tmp 99) (Go.Operand.const (Go.Value.int Go.IntKind.i64 0)), type := 0, pos := _, after := #[{ on := 0, ground := Go.Ground.data }], guard := none }) (v := ?_) rfl (by kernel_rfl) (by kernel_rfl) (by kernel_rfl) (fun _ _ _ h => h) (Or.inl ⟨by rfl, ?_⟩) (by assumption) ?_
                  rotate_left
                  · intro w hSw; (try dsimp only at hSw); go_simp <;> first | with_reducible rfl | (rw [if_neg (by first | omega | (simp only [ByteArray.size_append] at *; omega))])
                  simp only [Act.put, List.setIfInBounds_toArray, List.set_cons_zero, List.set_cons_succ]
                  refine wpAnyH_take (i := 2) (oi := { dst := some 101, op := Go.Op.load 35 (Go.Operand.tmp 100), type := 35, pos := _, after := #[{ on := 1, ground := Go.Ground.data }], guard := none }) (v := ?_) rfl (by kernel_rfl) (by kernel_rfl) (by kernel_rfl) (fun _ _ _ h => h) (Or.inl ⟨by rfl, ?_⟩) (by assumption) ?_
                  rotate_left
                  · intro w hSw; (try dsimp only at hSw); go_simp <;> first | with_reducible rfl | (rw [if_neg (by first | omega | (simp only [ByteArray.size_append] at *; omega))])
                  simp only [Act.put, List.setIfInBounds_toArray, List.set_cons_zero, List.set_cons_succ]
                  refine wpAnyH_take (i := 3) (oi := { dst := some 102, op := Go.Op.binOp Go.BinOp.eql 35 (Go.Operand.tmp 101) (Go.Operand.const (Go.Value.int Go.IntKind.u8 2)) 35, type := 4, pos := _, after := #[{ on := 2, ground := Go.Ground.data }], guard := none }) (v := ?_) rfl (by kernel_rfl) (by kernel_rfl) (by kernel_rfl) (fun _ _ _ h => h) (Or.inl ⟨by rfl, ?_⟩) (by assumption) ?_
                  rotate_left
                  · intro w hSw; (try dsimp only at hSw); go_simp <;> first | with_reducible rfl | (rw [if_neg (by first | omega | (simp only [ByteArray.size_append] at *; omega))])
                  simp only [Act.put, List.setIfInBounds_toArray, List.set_cons_zero, List.set_cons_succ]
                  refine wpAnyH_take (i := 4) (oi := { dst := some 103, op := Go.Op.move (Go.Operand.tmp 102), type := 4, pos := _, after := #[{ on := 3, ground := Go.Ground.data }], guard := none }) (v := ?_) rfl (by kernel_rfl) (by kernel_rfl) (by kernel_rfl) (fun _ _ _ h => h) (Or.inl ⟨by rfl, ?_⟩) (by assumption) ?_
                  rotate_left
                  · intro w hSw; (try dsimp only at hSw); go_simp <;> first | with_reducible rfl | (rw [if_neg (by first | omega | (simp only [ByteArray.size_append] at *; omega))])
                  simp only [Act.put, List.setIfInBounds_toArray, List.set_cons_zero, List.set_cons_succ]
                  refine wpAnyH_take (i := 5) (oi := { dst := some 104, op := Go.Op.move (Go.Operand.tmp 5), type := 45, pos := _, after := #[{ on := 4, ground := Go.Ground.guard }], guard := some (4, true) }) (v := ?_) rfl (by kernel_rfl) (by kernel_rfl) (by kernel_rfl) (fun _ _ _ h => h) (Or.inl ⟨by rfl, ?_⟩) (by assumption) ?_
                  rotate_left
                  · intro w hSw; (try dsimp only at hSw); go_simp <;> first | with_reducible rfl | (rw [if_neg (by first | omega | (simp only [ByteArray.size_append] at *; omega))])
                  simp only [Act.put, List.setIfInBounds_toArray, List.set_cons_zero, List.set_cons_succ]
                  refine wpAnyH_take (i := 6) (oi := { dst := some 105, op := Go.Op.indexAddr 45 (Go.Operand.tmp 104) (Go.Operand.const (Go.Value.int Go.IntKind.i64 1)), type := 0, pos := _, after := #[{ on := 5, ground := Go.Ground.data }, { on := 4, ground := Go.Ground.guard }], guard := some (4, true) }) (v := ?_) rfl (by kernel_rfl) (by kernel_rfl) (by kernel_rfl) (fun _ _ _ h => h) (Or.inl ⟨by rfl, ?_⟩) (by assumption) ?_
                  rotate_left
                  · intro w hSw; (try dsimp only at hSw); go_simp <;> first | with_reducible rfl | (rw [if_neg (by first | omega | (simp only [ByteArray.size_append] at *; omega))])
                  simp only [Act.put, List.setIfInBounds_toArray, List.set_cons_zero, List.set_cons_succ]
                  refine wpAnyH_take (i := 7) (oi := { dst := some 106, op := Go.Op.load 35 (Go.Operand.tmp 105), type := 35, pos := _, after := #[{ on := 6, ground := Go.Ground.data }, { on := 4, ground := Go.Ground.guard }], guard := some (4, true) }) (v := ?_) rfl (by kernel_rfl) (by kernel_rfl) (by kernel_rfl) (fun _ _ _ h => h) (Or.inl ⟨by rfl, ?_⟩) (by assumption) ?_
                  rotate_left
                  · intro w hSw; (try dsimp only at hSw); go_simp <;> first | with_reducible rfl | (rw [if_neg (by first | omega | (simp only [ByteArray.size_append] at *; omega))])
                  simp only [Act.put, List.setIfInBounds_toArray, List.set_cons_zero, List.set_cons_succ]
                  refine wpAnyH_take (i := 8) (oi := { dst := some 107, op := Go.Op.move (Go.Operand.tmp 5), type := 45, pos := _, after := #[{ on := 4, ground := Go.Ground.guard }], guard := some (4, true) }) (v := ?_) rfl (by kernel_rfl) (by kernel_rfl) (by kernel_rfl) (fun _ _ _ h => h) (Or.inl ⟨by rfl, ?_⟩) (by assumption) ?_
                  rotate_left
                  · intro w hSw; (try dsimp only at hSw); go_simp <;> first | with_reducible rfl | (rw [if_neg (by first | omega | (simp only [ByteArray.size_append] at *; omega))])
                  simp only [Act.put, List.setIfInBounds_toArray, List.set_cons_zero, List.set_cons_succ]
                  refine wpAnyH_take (i := 9) (oi := { dst := some 108, op := Go.Op.indexAddr 45 (Go.Operand.tmp 107) (Go.Operand.const (Go.Value.int Go.IntKind.i64 2)), type := 0, pos := _, after := #[{ on := 8, ground := Go.Ground.data }, { on := 4, ground := Go.Ground.guard }], guard := some (4, true) }) (v := ?_) rfl (by kernel_rfl) (by kernel_rfl) (by kernel_rfl) (fun _ _ _ h => h) (Or.inl ⟨by rfl, ?_⟩) (by assumption) ?_
                  rotate_left
                  · intro w hSw; (try dsimp only at hSw); go_simp <;> first | with_reducible rfl | (rw [if_neg (by first | omega | (simp only [ByteArray.size_append] at *; omega))])
                  simp only [Act.put, List.setIfInBounds_toArray, List.set_cons_zero, List.set_cons_succ]
                  refine wpAnyH_take (i := 10) (oi := { dst := some 109, op := Go.Op.load 35 (Go.Operand.tmp 108), type := 35, pos := _, after := #[{ on := 9, ground := Go.Ground.data }, { on := 4, ground := Go.Ground.guard }], guard := some (4, true) }) (v := ?_) rfl (by kernel_rfl) (by kernel_rfl) (by kernel_rfl) (fun _ _ _ h => h) (Or.inl ⟨by rfl, ?_⟩) (by assumption) ?_
                  rotate_left
                  · intro w hSw; (try dsimp only at hSw); go_simp <;> first | with_reducible rfl | (rw [if_neg (by first | omega | (simp only [ByteArray.size_append] at *; omega))])
                  simp only [Act.put, List.setIfInBounds_toArray, List.set_cons_zero, List.set_cons_succ]
                  refine wpAnyH_take (i := 11) (oi := { dst := some 110, op := Go.Op.binOp Go.BinOp.eql 35 (Go.Operand.tmp 106) (Go.Operand.tmp 109) 35, type := 4, pos := _, after := #[{ on := 7, ground := Go.Ground.data }, { on := 10, ground := Go.Ground.data }, { on := 4, ground := Go.Ground.guard }], guard := some (4, true) }) (v := ?_) rfl (by kernel_rfl) (by kernel_rfl) (by kernel_rfl) (fun _ _ _ h => h) (Or.inl ⟨by rfl, ?_⟩) (by assumption) ?_
                  rotate_left
                  · intro w hSw; (try dsimp only at hSw); go_simp <;> first | with_reducible rfl | (rw [if_neg (by first | omega | (simp only [ByteArray.size_append] at *; omega))])
                  simp only [Act.put, List.setIfInBounds_toArray, List.set_cons_zero, List.set_cons_succ]
                  refine wpAnyH_take (i := 12) (oi := { dst := some 111, op := Go.Op.pick (Go.Operand.tmp 103) (Go.Operand.tmp 110) (Go.Operand.const (Go.Value.bool false)), type := 4, pos := _, after := #[{ on := 4, ground := Go.Ground.data }, { on := 11, ground := Go.Ground.data }], guard := none }) (v := ?_) rfl (by kernel_rfl) (by kernel_rfl) (by kernel_rfl) (fun _ _ _ h => h) (Or.inl ⟨by rfl, ?_⟩) (by assumption) ?_
                  rotate_left
                  · intro w hSw; (try dsimp only at hSw); go_simp <;> first | with_reducible rfl | (rw [if_neg (by first | omega | (simp only [ByteArray.size_append] at *; omega))])
                  simp only [Act.put, List.setIfInBounds_toArray, List.set_cons_zero, List.set_cons_succ]
                  refine wpAnyH_done (by kernel_rfl) ?_ _
                  go_wp2_with (fail)
                  go_ret
                  exact ⟨by rw [HV.out]; rfl, below_drewN HBW.out _⟩
              · have e0 : ((t0 : Int) == 2) = false := by rw [beq_eq_false_iff_ne]; omega
                have HV : Hid (tyE p x = 0) := hid (by rw [HV0.out, if_neg h0])
                clear h0 HV0
                go_wp2_with (fail)
                refine wp_region_held_drew (S := fun W => W.cell? ⟨g, 0, none⟩ = some (.int .u8 (t0 : Int)) ∧ W.cell? ⟨g, 1, none⟩ = some (.int .u8 (t1 : Int)) ∧ W.cell? ⟨g, 2, none⟩ = some (.int .u8 (t2 : Int))) (by kernel_rfl) ?_ (fun hHeld => ?_)
                · exact ⟨z0, z1, z2⟩
                refine wpAnyH_take (i := 0) (oi := { dst := some 99, op := Go.Op.move (Go.Operand.tmp 5), type := 45, pos := _, after := #[], guard := none }) (v := ?_) rfl (by kernel_rfl) (by kernel_rfl) (by kernel_rfl) (fun _ _ _ h => h) (Or.inl ⟨by rfl, ?_⟩) (by assumption) ?_
                rotate_left
                · intro w hSw; (try dsimp only at hSw); go_simp <;> first | with_reducible rfl | (rw [if_neg (by first | omega | (simp only [ByteArray.size_append] at *; omega))])
                simp only [Act.put, List.setIfInBounds_toArray, List.set_cons_zero, List.set_cons_succ]
                refine wpAnyH_take (i := 1) (oi := { dst := some 100, op := Go.Op.indexAddr 45 (Go.Operand.tmp 99) (Go.Operand.const (Go.Value.int Go.IntKind.i64 0)), type := 0, pos := _, after := #[{ on := 0, ground := Go.Ground.data }], guard := none }) (v := ?_) rfl (by kernel_rfl) (by kernel_rfl) (by kernel_rfl) (fun _ _ _ h => h) (Or.inl ⟨by rfl, ?_⟩) (by assumption) ?_
                rotate_left
                · intro w hSw; (try dsimp only at hSw); go_simp <;> first | with_reducible rfl | (rw [if_neg (by first | omega | (simp only [ByteArray.size_append] at *; omega))])
                simp only [Act.put, List.setIfInBounds_toArray, List.set_cons_zero, List.set_cons_succ]
                refine wpAnyH_take (i := 2) (oi := { dst := some 101, op := Go.Op.load 35 (Go.Operand.tmp 100), type := 35, pos := _, after := #[{ on := 1, ground := Go.Ground.data }], guard := none }) (v := ?_) rfl (by kernel_rfl) (by kernel_rfl) (by kernel_rfl) (fun _ _ _ h => h) (Or.inl ⟨by rfl, ?_⟩) (by assumption) ?_
                rotate_left
                · intro w hSw; (try dsimp only at hSw); go_simp <;> first | with_reducible rfl | (rw [if_neg (by first | omega | (simp only [ByteArray.size_append] at *; omega))])
                simp only [Act.put, List.setIfInBounds_toArray, List.set_cons_zero, List.set_cons_succ]
                refine wpAnyH_take (i := 3) (oi := { dst := some 102, op := Go.Op.binOp Go.BinOp.eql 35 (Go.Operand.tmp 101) (Go.Operand.const (Go.Value.int Go.IntKind.u8 2)) 35, type := 4, pos := _, after := #[{ on := 2, ground := Go.Ground.data }], guard := none }) (v := ?_) rfl (by kernel_rfl) (by kernel_rfl) (by kernel_rfl) (fun _ _ _ h => h) (Or.inl ⟨by rfl, ?_⟩) (by assumption) ?_
                rotate_left
                · intro w hSw; (try dsimp only at hSw); go_simp <;> first | with_reducible rfl | (rw [if_neg (by first | omega | (simp only [ByteArray.size_append] at *; omega))])
                simp only [Act.put, List.setIfInBounds_toArray, List.set_cons_zero, List.set_cons_succ]
                refine wpAnyH_take (i := 4) (oi := { dst := some 103, op := Go.Op.move (Go.Operand.tmp 102), type := 4, pos := _, after := #[{ on := 3, ground := Go.Ground.data }], guard := none }) (v := ?_) rfl (by kernel_rfl) (by kernel_rfl) (by kernel_rfl) (fun _ _ _ h => h) (Or.inl ⟨by rfl, ?_⟩) (by assumption) ?_
                rotate_left
                · intro w hSw; (try dsimp only at hSw); go_simp <;> first | with_reducible rfl | (rw [if_neg (by first | omega | (simp only [ByteArray.size_append] at *; omega))])
                simp only [Act.put, List.setIfInBounds_toArray, List.set_cons_zero, List.set_cons_succ]
                refine wpAnyH_take (i := 5) (oi := { dst := some 104, op := Go.Op.move (Go.Operand.tmp 5), type := 45, pos := _, after := #[{ on := 4, ground := Go.Ground.guard }], guard := some (4, true) }) (v := undef) rfl (by kernel_rfl) (by kernel_rfl) (by kernel_rfl) (fun _ _ _ h => h) (Or.inr ⟨by rfl, rfl⟩) (by assumption) ?_
                simp only [Act.put, List.setIfInBounds_toArray, List.set_cons_zero, List.set_cons_succ]
                refine wpAnyH_take (i := 6) (oi := { dst := some 105, op := Go.Op.indexAddr 45 (Go.Operand.tmp 104) (Go.Operand.const (Go.Value.int Go.IntKind.i64 1)), type := 0, pos := _, after := #[{ on := 5, ground := Go.Ground.data }, { on := 4, ground := Go.Ground.guard }], guard := some (4, true) }) (v := undef) rfl (by kernel_rfl) (by kernel_rfl) (by kernel_rfl) (fun _ _ _ h => h) (Or.inr ⟨by rfl, rfl⟩) (by assumption) ?_
                simp only [Act.put, List.setIfInBounds_toArray, List.set_cons_zero, List.set_cons_succ]
                refine wpAnyH_take (i := 7) (oi := { dst := some 106, op := Go.Op.load 35 (Go.Operand.tmp 105), type := 35, pos := _, after := #[{ on := 6, ground := Go.Ground.data }, { on := 4, ground := Go.Ground.guard }], guard := some (4, true) }) (v := undef) rfl (by kernel_rfl) (by kernel_rfl) (by kernel_rfl) (fun _ _ _ h => h) (Or.inr ⟨by rfl, rfl⟩) (by assumption) ?_
                simp only [Act.put, List.setIfInBounds_toArray, List.set_cons_zero, List.set_cons_succ]
                refine wpAnyH_take (i := 8) (oi := { dst := some 107, op := Go.Op.move (Go.Operand.tmp 5), type := 45, pos := _, after := #[{ on := 4, ground := Go.Ground.guard }], guard := some (4, true) }) (v := undef) rfl (by kernel_rfl) (by kernel_rfl) (by kernel_rfl) (fun _ _ _ h => h) (Or.inr ⟨by rfl, rfl⟩) (by assumption) ?_
                simp only [Act.put, List.setIfInBounds_toArray, List.set_cons_zero, List.set_cons_succ]
                refine wpAnyH_take (i := 9) (oi := { dst := some 108, op := Go.Op.indexAddr 45 (Go.Operand.tmp 107) (Go.Operand.const (Go.Value.int Go.IntKind.i64 2)), type := 0, pos := _, after := #[{ on := 8, ground := Go.Ground.data }, { on := 4, ground := Go.Ground.guard }], guard := some (4, true) }) (v := undef) rfl (by kernel_rfl) (by kernel_rfl) (by kernel_rfl) (fun _ _ _ h => h) (Or.inr ⟨by rfl, rfl⟩) (by assumption) ?_
                simp only [Act.put, List.setIfInBounds_toArray, List.set_cons_zero, List.set_cons_succ]
                refine wpAnyH_take (i := 10) (oi := { dst := some 109, op := Go.Op.load 35 (Go.Operand.tmp 108), type := 35, pos := _, after := #[{ on := 9, ground := Go.Ground.data }, { on := 4, ground := Go.Ground.guard }], guard := some (4, true) }) (v := undef) rfl (by kernel_rfl) (by kernel_rfl) (by kernel_rfl) (fun _ _ _ h => h) (Or.inr ⟨by rfl, rfl⟩) (by assumption) ?_
                simp only [Act.put, List.setIfInBounds_toArray, List.set_cons_zero, List.set_cons_succ]
                refine wpAnyH_take (i := 11) (oi := { dst := some 110, op := Go.Op.binOp Go.BinOp.eql 35 (Go.Operand.tmp 106) (Go.Operand.tmp 109) 35, type := 4, pos := _, after := #[{ on := 7, ground := Go.Ground.data }, { on := 10, ground := Go.Ground.data }, { on := 4, ground := Go.Ground.guard }], guard := some (4, true) }) (v := undef) rfl (by kernel_rfl) (by kernel_rfl) (by kernel_rfl) (fun _ _ _ h => h) (Or.inr ⟨by rfl, rfl⟩) (by assumption) ?_
                simp only [Act.put, List.setIfInBounds_toArray, List.set_cons_zero, List.set_cons_succ]
                refine wpAnyH_take (i := 12) (oi := { dst := some 111, op := Go.Op.pick (Go.Operand.tmp 103) (Go.Operand.tmp 110) (Go.Operand.const (Go.Value.bool false)), type := 4, pos := _, after := #[{ on := 4, ground := Go.Ground.data }, { on := 11, ground := Go.Ground.data }], guard := none }) (v := ?_) rfl (by kernel_rfl) (by kernel_rfl) (by kernel_rfl) (fun _ _ _ h => h) (Or.inl ⟨by rfl, ?_⟩) (by assumption) ?_
                rotate_left
                · intro w hSw; (try dsimp only at hSw); go_simp <;> first | with_reducible rfl | (rw [if_neg (by first | omega | (simp only [ByteArray.size_append] at *; omega))])
                simp only [Act.put, List.setIfInBounds_toArray, List.set_cons_zero, List.set_cons_succ]
                refine wpAnyH_done (by kernel_rfl) ?_ _
                go_wp2_with (fail)
                go_ret
                exact ⟨by rw [HV.out]; rfl, below_drewN HBW.out _⟩
            · have q0 : wr.cell? ⟨w.heap.size + 1, 0, none⟩ = some (.int .u8 18) := by rw [cell_kept Q0 HY.out.below, hop']; rfl
              have HV : Hid (tyE p x = com ts) := hid (by rw [tyE_eq, HTS.out]; simp [hop', ruleT])
              have HBW := hid (bstep B2.out HY.out.below)
              generalize com ts = tc at *
              go_wp2_with (fail)
              go_ret
              exact ⟨by rw [HV.out]; rfl, HBW.out⟩
            · have q0 : wr.cell? ⟨w.heap.size + 1, 0, none⟩ = some (.int .u8 19) := by rw [cell_kept Q0 HY.out.below, hop']; rfl
              have HV : Hid (tyE p x = com ts) := hid (by rw [tyE_eq, HTS.out]; simp [hop', ruleT])
              have HBW := hid (bstep B2.out HY.out.below)
              generalize com ts = tc at *
              go_wp2_with (fail)
              go_ret
              exact ⟨by rw [HV.out]; rfl, HBW.out⟩
      · have h0' : ¬ (0 : Int) < (ts.length : Int) := by omega
        have hts : ts = [] := List.eq_nil_of_length_eq_zero (by omega)
        have q2 := cell_kept Q2 HY.out.below
        have hopp : x.op = 1 ∨ x.op = 2 ∨ x.op = 3 := by
          by_cases h1 : x.op = 1
          · omega
          by_cases h2 : x.op = 2
          · omega
          by_cases h3 : x.op = 3
          · omega
          have := ok_parts HF.out h1 h2 h3
          have := HTL.out
          omega
        subst hts
        go_wp2_with (fail)
        go_loopw [8] (fun i wr' => i = .int .i64 1 ∧ wr' = wr) (fun _ _ => 0)
        case atStart => exact ⟨rfl, rfl⟩
        case round =>
          obtain ⟨rfl, rfl⟩ := hrel
          obtain hop' | hop' | hop' := hopp
          · have q0 : wr.cell? ⟨w.heap.size + 1, 0, none⟩ = some (.int .u8 1) := by rw [cell_kept Q0 HY.out.below, hop']; rfl
            have HV : Hid (tyE p x = 1) := hid (by rw [tyE_eq]; simp [hop'])
            have HBW := hid (bstep B2.out HY.out.below)
            go_wp2_with (fail)
            go_ret
            exact ⟨by rw [HV.out]; rfl, HBW.out⟩
          · have q0 : wr.cell? ⟨w.heap.size + 1, 0, none⟩ = some (.int .u8 2) := by rw [cell_kept Q0 HY.out.below, hop']; rfl
            have HV : Hid (tyE p x = 2) := hid (by rw [tyE_eq]; simp [hop'])
            have HBW := hid (bstep B2.out HY.out.below)
            go_wp2_with (fail)
            go_ret
            exact ⟨by rw [HV.out]; rfl, HBW.out⟩
          · have q0 : wr.cell? ⟨w.heap.size + 1, 0, none⟩ = some (.int .u8 3) := by rw [cell_kept Q0 HY.out.below, hop']; rfl
            have HV : Hid (tyE p x = tyN p x.name) := hid (by rw [tyE_eq]; simp [hop'])
            have HBW := hid (bstep B2.out HY.out.below)
            have r0 := cell_kept R0 HY.out.below
            have r1 := cell_kept R1 HY.out.below
            have r2 := cell_kept R2 HY.out.below
            have r3 := cell_kept R3 HY.out.below
            have c35 := rfind p x.name _ _ _ _ (HP.out.keep HBW.out)
            obtain ⟨v1, v2, v3, v4, hfo, hty⟩ : ∃ (v1 : Int) (v2 : Nat) (v3 : Int) (v4 : Bool), foV (findT (thingsL p) x.name) = #[.int .i64 v1, .int .u8 (v2 : Int), .int .i64 v3, .bool v4] ∧ tyN p x.name = if v2 = 1 ∨ v2 = 2 then v2 else 0 := by
              unfold tyN
              cases findT (thingsL p) x.name with
              | none => exact ⟨0, 0, 0, false, rfl, rfl⟩
              | some z => exact ⟨z.2.st, z.2.ty, z.1, true, rfl, rfl⟩
            rw [hfo] at c35
            have HTY := hid hty
            clear hty hfo
            go_wp2_with (fail)
            refine c35.mono ?_
            rintro e w4 ⟨rfl, hb4⟩
            have HB4 := hid (bstep HBW.out hb4)
            clear hb4
            by_cases h1 : v2 = 1
            · have e1 : ((v2 : Int) == 1) = true := by rw [beq_iff_eq]; omega
              have HV2 : Hid (tyE p x = v2) := hid (by rw [HV.out, HTY.out, if_pos (.inl h1)])
              clear h1
              go_wp2_with (fail)
              go_ret
              exact ⟨by rw [HV2.out]; rfl, HB4.out⟩
            · have e1 : ((v2 : Int) == 1) = false := by rw [beq_eq_false_iff_ne]; omega
              by_cases h2 : v2 = 2
              · have e2 : ((v2 : Int) == 2) = true := by rw [beq_iff_eq]; omega
                have HV2 : Hid (tyE p x = v2) := hid (by rw [HV.out, HTY.out, if_pos (.inr h2)])
                clear h1 h2
                go_wp2_with (fail)
                go_ret
                exact ⟨by rw [HV2.out]; rfl, HB4.out⟩
              · have e2 : ((v2 : Int) == 2) = false := by rw [beq_eq_false_iff_ne]; omega
                have HV2 : Hid (tyE p x = 0) := hid (by rw [HV.out, HTY.out, if_neg (by omega)])
                clear h1 h2
                go_wp2_with (fail)
                go_ret
                exact ⟨by rw [HV2.out]; rfl, HB4.out⟩
theorem rof_d (p : Pg) : ∀ (d : Nat) (x : Ex), okD d x → RTyC p x
  | 0, _, h => h.elim
  | d + 1, x, h => rof_any p d (fun y hy => rof_d p d y hy) x h
theorem rof_ok (p : Pg) (x : Ex) (h : chk x = true) : RTyC p x := rof_d p 32 x (chk_ok h)
end Go.Proofs.YtakjkhfglihggaaDoor.Lex
