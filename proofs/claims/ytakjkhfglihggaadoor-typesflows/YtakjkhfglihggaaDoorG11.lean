/-
  Is each flow of its type: the contract of types.Check.
  The document's Check of types, over the contract of its of.
  What the document's Check of types answers is what types.Check answers.
  A program with another type, or another default, for one of its flows: plain mathematics, and its memory.
  What the chapter's program has for names, and the type of something in it: the contracts of name, of, small, is.
-/
import Derived.Test.YtakjkhfglihggaaDoorG4
import Derived.Test.YtakjkhfglihggaaDoorG5
import Derived.Test.YtakjkhfglihggaaDoorG10
import Derived.Test.YtakjkhfglihggaaDoorG8
import Derived.Test.YtakjkhfglihggaaDoorG7
import Derived.Test.YtakjkhfglihggaaDoorG6
import Derived.Laws.ResultCell
namespace Go.Proofs.YtakjkhfglihggaaDoor.Lex
open Go.ChangeShapes Go.WideShapes Go.ChangeAt Go.RowKit Go.Joins
/-- Is a flow of its type, and its default? -/
def flT (p : Pg) (f : Fl) : Bool := decide (tyE p f.body = f.ty) && fitT f.df f.ty
/-- What types.Check answers. -/
def ckV (p : Pg) : Int := if nmErr p = 0 then (if p.flows.all (flT p) then 0 else 7) else nmErr p
theorem nmErr_ok {p : Pg} (h : nmErr p = 0) : pgOk p = true := by
  unfold nmErr at h
  by_cases hp : pgOk p = true
  · exact hp
  · rw [if_neg hp] at h; omega
set_option maxRecDepth 100000 in
set_option maxHeartbeats 4000000 in
theorem types_check (p : Pg) (w : World) (A B C : Value) (hP : PgAt w p A B C) (hR : TabR w) (hJ : TabJ w) : Calls Tryd.prog 17 #[pgV p A B C] w fun e w' => e = .returned (.int .i64 (ckV p)) ∧ Below w.heap.size w w' := by
  have X0 := hid (FV.new hP hR hJ)
  obtain ⟨ao, cap, sl0, rfl, _⟩ := hP.flows
  clear hP hR hJ
  go_enter Tryd.func17, Tryd.ntmps17
  go_wp2_with (fail)
  refine ((callsIn_wide (n := 20)).1 (names_check p _ _ _ _ X0.out.P X0.out.R X0.out.J)).mono ?_
  rintro e w1 ⟨rfl, hb1⟩
  have X1 := hid (X0.out.keep hb1)
  clear hb1 X0
  by_cases hn : nmErr p = 0
  · have HK := hid (pgOk_chk (nmErr_ok hn))
    have HOV : Hid (ckV p = if p.flows.all (flT p) then 0 else 7) := hid (by unfold ckV; rw [if_pos hn])
    rw [hn]
    clear hn
    go_wp2_with (fail)
    refine (rules _).mono ?_
    rintro e w2 ⟨ab, rfl, hasks, hb2⟩
    have X2 := hid (X1.out.keep hb2)
    have AS := hid hasks
    generalize w1.heap.size = an at AS
    obtain ⟨s0, s1, s2, s3⟩ := row4 X2.out.row
    clear hb2 hasks X1
    go_wp2_with (fail)
    clear s0 s1 s2 s3
    obtain ⟨ao', cap', sl, heq, hlen, _, hok, hc, hs⟩ := X2.out.P.flows
    obtain ⟨rfl, rfl⟩ : ao = ao' ∧ cap = cap' := by simpa using heq
    have HC := hid hc
    have HS := hid hs
    clear hc hs hok heq
    go_loopw [16] (fun i wr => ∃ r : Nat, r ≤ p.flows.length ∧ i = .int .i64 (r : Int) ∧ Hid (∀ z ∈ p.flows.take r, flT p z = true) ∧ Hid (Below w2.heap.size w2 wr)) (fun i _ => p.flows.length - (intOf i).toNat)
    case atStart => exact ⟨0, Nat.zero_le _, rfl, hid (by simp), hid (Below.refl _ _)⟩
    case round =>
      obtain ⟨r, hr, rfl, HE, hB⟩ := hrel
      have FX := hid (X2.out.keep hB.out)
      by_cases hrl : r < p.flows.length
      · have hrl' : (r : Int) < (p.flows.length : Int) := by omega
        have hr0 : (0 : Int) ≤ (r : Int) := by omega
        obtain ⟨gb, go, rfl, hcc⟩ := HC.out.resolve_left (by omega)
        obtain ⟨y0, y1, y2, y3, y4, y5, y6, y7⟩ := (hcc r hrl).keep hB.out
        have HTK := hid (List.take_succ_eq_append_getElem hrl)
        have HMG := hid (List.getElem_mem hrl)
        have HST := hid ((HS.out r hrl).keep hB.out)
        clear hcc
        generalize sl r = sv at *
        generalize hy : p.flows[r] = y at *
        clear hy
        obtain ⟨sa, sc, _, rfl, _⟩ := HST.out.out
        have BA := hid ((Below.refl wr.heap.size wr).alloc (Nat.le_refl _) (.cells #[.string y.name, .int .u8 (y.ty : Int), .int .i64 y.st, .int .i64 y.df, .int .u8 (y.body.op : Int), .int .i64 y.body.n, .string y.body.name, .slice sa y.body.args.length sc] 52))
        have FA := hid (FX.out.keep BA.out)
        have bx := fun j v => box_at wr #[.string y.name, .int .u8 (y.ty : Int), .int .i64 y.st, .int .i64 y.df, .int .u8 (y.body.op : Int), .int .i64 y.body.n, .string y.body.name, .slice sa y.body.args.length sc] 52 j v
        have q0 := bx 0 _ rfl
        have q1 := bx 1 _ rfl
        have q2 := bx 2 _ rfl
        have q3 := bx 3 _ rfl
        have q4 := bx 4 _ rfl
        have q5 := bx 5 _ rfl
        have q6 := bx 6 _ rfl
        have q7 := bx 7 _ rfl
        clear bx
        obtain ⟨s0, s1, s2, s3⟩ := row4 FA.out.row
        have c31 := type_of p y.body (HK.out y HMG.out) _ _ _ _ _ an ab (FA.out.P.keep (Below.refl _ _).drew) ((AS.out.keep (hB.out.trans (BA.out.mono hB.out.size))).keep (Below.refl _ _).drew) ((HST.out.keep BA.out).keep (Below.refl _ _).drew)
        by_cases ht : tyE p y.body = y.ty
        · rw [ht] at c31
          have HTB : Hid (((y.ty : Int) != (y.ty : Int)) = false) := hid (by simp)
          go_wp2_with (fail)
          refine wp_region_held_drew (S := fun W => W.cell? ⟨w.heap.size, 0, none⟩ = some (.int .i64 p.st) ∧ W.cell? ⟨w.heap.size, 1, none⟩ = some (A) ∧ W.cell? ⟨w.heap.size, 2, none⟩ = some ((.slice (some ⟨gb, go, none⟩) p.flows.length cap)) ∧ W.cell? ⟨w.heap.size, 3, none⟩ = some (C) ∧ W.cell? ⟨wr.heap.size, 0, none⟩ = some (.string y.name) ∧ W.cell? ⟨wr.heap.size, 1, none⟩ = some (.int .u8 (y.ty : Int)) ∧ W.cell? ⟨wr.heap.size, 2, none⟩ = some (.int .i64 y.st) ∧ W.cell? ⟨wr.heap.size, 3, none⟩ = some (.int .i64 y.df) ∧ W.cell? ⟨wr.heap.size, 4, none⟩ = some (.int .u8 (y.body.op : Int)) ∧ W.cell? ⟨wr.heap.size, 5, none⟩ = some (.int .i64 y.body.n) ∧ W.cell? ⟨wr.heap.size, 6, none⟩ = some (.string y.body.name) ∧ W.cell? ⟨wr.heap.size, 7, none⟩ = some (.slice sa y.body.args.length sc)) (by kernel_rfl) ?_ (fun hHeld => ?_)
          · exact ⟨s0, s1, s2, s3, q0, q1, q2, q3, q4, q5, q6, q7⟩
          refine wpAnyH_take (i := 0) (oi := { dst := some 20, op := Go.Op.load 26 (Go.Operand.tmp 1), type := 26, pos := _, after := #[], guard := none }) (v := ?_) rfl (by kernel_rfl) (by kernel_rfl) (by kernel_rfl) (fun _ _ _ h => h) (Or.inl ⟨by rfl, ?_⟩) (by assumption) ?_
          rotate_left
          · intro w hSw; (try dsimp only at hSw); go_simp <;> first | with_reducible rfl | (rw [if_neg (by first | omega | (simp only [ByteArray.size_append] at *; omega))])
          simp only [Act.put, List.setIfInBounds_toArray, List.set_cons_zero, List.set_cons_succ]
          refine wpAnyH_take (i := 1) (oi := { dst := some 21, op := Go.Op.move (Go.Operand.tmp 4), type := 68, pos := _, after := #[], guard := none }) (v := ?_) rfl (by kernel_rfl) (by kernel_rfl) (by kernel_rfl) (fun _ _ _ h => h) (Or.inl ⟨by rfl, ?_⟩) (by assumption) ?_
          rotate_left
          · intro w hSw; (try dsimp only at hSw); go_simp <;> first | with_reducible rfl | (rw [if_neg (by first | omega | (simp only [ByteArray.size_append] at *; omega))])
          simp only [Act.put, List.setIfInBounds_toArray, List.set_cons_zero, List.set_cons_succ]
          refine wpAnyH_take (i := 2) (oi := { dst := some 22, op := Go.Op.fieldAddr 52 (Go.Operand.tmp 6) 4, type := 0, pos := _, after := #[], guard := none }) (v := ?_) rfl (by kernel_rfl) (by kernel_rfl) (by kernel_rfl) (fun _ _ _ h => h) (Or.inl ⟨by rfl, ?_⟩) (by assumption) ?_
          rotate_left
          · intro w hSw; (try dsimp only at hSw); go_simp <;> first | with_reducible rfl | (rw [if_neg (by first | omega | (simp only [ByteArray.size_append] at *; omega))])
          simp only [Act.put, List.setIfInBounds_toArray, List.set_cons_zero, List.set_cons_succ]
          refine wpAnyH_take (i := 3) (oi := { dst := some 23, op := Go.Op.load 30 (Go.Operand.tmp 22), type := 30, pos := _, after := #[{ on := 2, ground := Go.Ground.data }], guard := none }) (v := ?_) rfl (by kernel_rfl) (by kernel_rfl) (by kernel_rfl) (fun _ _ _ h => h) (Or.inl ⟨by rfl, ?_⟩) (by assumption) ?_
          rotate_left
          · intro w hSw; (try dsimp only at hSw); go_simp <;> first | with_reducible rfl | (rw [if_neg (by first | omega | (simp only [ByteArray.size_append] at *; omega))])
          simp only [Act.put, List.setIfInBounds_toArray, List.set_cons_zero, List.set_cons_succ]
          refine wpAnyH_take (i := 5) (oi := { dst := some 25, op := Go.Op.fieldAddr 52 (Go.Operand.tmp 6) 1, type := 0, pos := _, after := #[], guard := none }) (v := ?_) rfl (by kernel_rfl) (by kernel_rfl) (by kernel_rfl) (fun _ _ _ h => h) (Or.inl ⟨by rfl, ?_⟩) (by assumption) ?_
          rotate_left
          · intro w hSw; (try dsimp only at hSw); go_simp <;> first | with_reducible rfl | (rw [if_neg (by first | omega | (simp only [ByteArray.size_append] at *; omega))])
          simp only [Act.put, List.setIfInBounds_toArray, List.set_cons_zero, List.set_cons_succ]
          refine wpAnyH_take (i := 6) (oi := { dst := some 26, op := Go.Op.load 35 (Go.Operand.tmp 25), type := 35, pos := _, after := #[{ on := 5, ground := Go.Ground.data }], guard := none }) (v := ?_) rfl (by kernel_rfl) (by kernel_rfl) (by kernel_rfl) (fun _ _ _ h => h) (Or.inl ⟨by rfl, ?_⟩) (by assumption) ?_
          rotate_left
          · intro w hSw; (try dsimp only at hSw); go_simp <;> first | with_reducible rfl | (rw [if_neg (by first | omega | (simp only [ByteArray.size_append] at *; omega))])
          simp only [Act.put, List.setIfInBounds_toArray, List.set_cons_zero, List.set_cons_succ]
          refine wpAnyH_ready (rs := [4]) (by kernel_rfl) (by simp) ?_
          refine AllReadyH.cons (o := { dst := some 24, op := Go.Op.call { callee := Go.Callee.value (Go.Operand.func 31), args := #[Go.Operand.tmp 20, Go.Operand.tmp 21, Go.Operand.tmp 23], argTypes := #[26, 68, 30] }, type := 35, pos := _, after := #[{ on := 0, ground := Go.Ground.data }, { on := 1, ground := Go.Ground.data }, { on := 3, ground := Go.Ground.data }], guard := none }) rfl (fun K hK => ?_) AllReadyH.nil
          go_simp
          refine c31.mono ?_
          rintro e v1 ⟨rfl, hb1⟩
          have HG1 : Hid (Below (wr.alloc (.cells #[.string y.name, .int .u8 (y.ty : Int), .int .i64 y.st, .int .i64 y.df, .int .u8 (y.body.op : Int), .int .i64 y.body.n, .string y.body.name, .slice sa y.body.args.length sc] 52)).heap.size (wr.alloc (.cells #[.string y.name, .int .u8 (y.ty : Int), .int .i64 y.st, .int .i64 y.df, .int .u8 (y.body.op : Int), .int .i64 y.body.n, .string y.body.name, .slice sa y.body.args.length sc] 52)) v1) := hid ((Below.refl _ _).drew.trans (hb1.mono (by simp)))
          have X1 := hid (FA.out.keep HG1.out)
          obtain ⟨t0, t1, t2, t3⟩ := row4 X1.out.row
          have u0 := cell_kept q0 HG1.out
          have u1 := cell_kept q1 HG1.out
          have u2 := cell_kept q2 HG1.out
          have u3 := cell_kept q3 HG1.out
          have u4 := cell_kept q4 HG1.out
          have u5 := cell_kept q5 HG1.out
          have u6 := cell_kept q6 HG1.out
          have u7 := cell_kept q7 HG1.out
          clear hb1
          go_wp2_with fail
          refine hK.out _ _ ?_ (fun hHeld1 => ?_)
          · exact ⟨t0, t1, t2, t3, u0, u1, u2, u3, u4, u5, u6, u7⟩
          clear hK K
          refine wpAnyH_take (i := 7) (oi := { dst := some 27, op := Go.Op.binOp Go.BinOp.neq 35 (Go.Operand.tmp 24) (Go.Operand.tmp 26) 35, type := 4, pos := _, after := #[{ on := 4, ground := Go.Ground.data }, { on := 6, ground := Go.Ground.data }], guard := none }) (v := ?_) rfl (by kernel_rfl) (by kernel_rfl) (by kernel_rfl) (fun _ _ _ h => h) (Or.inl ⟨by rfl, ?_⟩) (by assumption) ?_
          rotate_left
          · intro w hSw; (try dsimp only at hSw); go_simp <;> first | with_reducible rfl | (rw [if_neg (by first | omega | (simp only [ByteArray.size_append] at *; omega))])
          simp only [Act.put, List.setIfInBounds_toArray, List.set_cons_zero, List.set_cons_succ]
          (try simp only [HTB.out])
          refine wpAnyH_take (i := 8) (oi := { dst := some 28, op := Go.Op.move (Go.Operand.tmp 27), type := 4, pos := _, after := #[{ on := 7, ground := Go.Ground.data }, { on := 4, ground := Go.Ground.chain }], guard := none }) (v := ?_) rfl (by kernel_rfl) (by kernel_rfl) (by kernel_rfl) (fun _ _ _ h => h) (Or.inl ⟨by rfl, ?_⟩) (by assumption) ?_
          rotate_left
          · intro w hSw; (try dsimp only at hSw); go_simp <;> first | with_reducible rfl | (rw [if_neg (by first | omega | (simp only [ByteArray.size_append] at *; omega))])
          simp only [Act.put, List.setIfInBounds_toArray, List.set_cons_zero, List.set_cons_succ]
          refine wpAnyH_take (i := 9) (oi := { dst := some 29, op := Go.Op.fieldAddr 52 (Go.Operand.tmp 6) 3, type := 0, pos := _, after := #[{ on := 8, ground := Go.Ground.guard }], guard := some (8, false) }) (v := ?_) rfl (by kernel_rfl) (by kernel_rfl) (by kernel_rfl) (fun _ _ _ h => h) (Or.inl ⟨by rfl, ?_⟩) (by assumption) ?_
          rotate_left
          · intro w hSw; (try dsimp only at hSw); go_simp <;> first | with_reducible rfl | (rw [if_neg (by first | omega | (simp only [ByteArray.size_append] at *; omega))])
          simp only [Act.put, List.setIfInBounds_toArray, List.set_cons_zero, List.set_cons_succ]
          refine wpAnyH_take (i := 10) (oi := { dst := some 30, op := Go.Op.load 2 (Go.Operand.tmp 29), type := 2, pos := _, after := #[{ on := 9, ground := Go.Ground.data }, { on := 8, ground := Go.Ground.guard }], guard := some (8, false) }) (v := ?_) rfl (by kernel_rfl) (by kernel_rfl) (by kernel_rfl) (fun _ _ _ h => h) (Or.inl ⟨by rfl, ?_⟩) (by assumption) ?_
          rotate_left
          · intro w hSw; (try dsimp only at hSw); go_simp <;> first | with_reducible rfl | (rw [if_neg (by first | omega | (simp only [ByteArray.size_append] at *; omega))])
          simp only [Act.put, List.setIfInBounds_toArray, List.set_cons_zero, List.set_cons_succ]
          refine wpAnyH_take (i := 11) (oi := { dst := some 31, op := Go.Op.fieldAddr 52 (Go.Operand.tmp 6) 1, type := 0, pos := _, after := #[{ on := 8, ground := Go.Ground.guard }], guard := some (8, false) }) (v := ?_) rfl (by kernel_rfl) (by kernel_rfl) (by kernel_rfl) (fun _ _ _ h => h) (Or.inl ⟨by rfl, ?_⟩) (by assumption) ?_
          rotate_left
          · intro w hSw; (try dsimp only at hSw); go_simp <;> first | with_reducible rfl | (rw [if_neg (by first | omega | (simp only [ByteArray.size_append] at *; omega))])
          simp only [Act.put, List.setIfInBounds_toArray, List.set_cons_zero, List.set_cons_succ]
          refine wpAnyH_take (i := 12) (oi := { dst := some 32, op := Go.Op.load 35 (Go.Operand.tmp 31), type := 35, pos := _, after := #[{ on := 11, ground := Go.Ground.data }, { on := 8, ground := Go.Ground.guard }], guard := some (8, false) }) (v := ?_) rfl (by kernel_rfl) (by kernel_rfl) (by kernel_rfl) (fun _ _ _ h => h) (Or.inl ⟨by rfl, ?_⟩) (by assumption) ?_
          rotate_left
          · intro w hSw; (try dsimp only at hSw); go_simp <;> first | with_reducible rfl | (rw [if_neg (by first | omega | (simp only [ByteArray.size_append] at *; omega))])
          simp only [Act.put, List.setIfInBounds_toArray, List.set_cons_zero, List.set_cons_succ]
          refine wpAnyH_ready (rs := [13]) (by kernel_rfl) (by simp) ?_
          refine AllReadyH.cons (o := { dst := some 33, op := Go.Op.call { callee := Go.Callee.value (Go.Operand.func 41), args := #[Go.Operand.tmp 30, Go.Operand.tmp 32], argTypes := #[2, 35] }, type := 4, pos := _, after := #[{ on := 10, ground := Go.Ground.data }, { on := 12, ground := Go.Ground.data }, { on := 8, ground := Go.Ground.chain }, { on := 8, ground := Go.Ground.guard }], guard := some (8, false) }) rfl (fun K hK => ?_) AllReadyH.nil
          go_simp
          refine (fits_t y.df y.ty _).mono ?_
          rintro e v2 ⟨rfl, hb2⟩
          have X2' := hid (X1.out.keep hb2)
          obtain ⟨m0, m1, m2, m3⟩ := row4 X2'.out.row
          have n0 := cell_kept u0 hb2
          have n1 := cell_kept u1 hb2
          have n2 := cell_kept u2 hb2
          have n3 := cell_kept u3 hb2
          have n4 := cell_kept u4 hb2
          have n5 := cell_kept u5 hb2
          have n6 := cell_kept u6 hb2
          have n7 := cell_kept u7 hb2
          have HG2 := hid hb2
          clear hb2
          go_wp2_with fail
          refine hK.out _ _ ?_ (fun hHeld2 => ?_)
          · exact ⟨m0, m1, m2, m3, n0, n1, n2, n3, n4, n5, n6, n7⟩
          clear hK K
          refine wpAnyH_take (i := 14) (oi := { dst := some 34, op := Go.Op.unOp Go.UnOp.not 4 (Go.Operand.tmp 33), type := 4, pos := _, after := #[{ on := 13, ground := Go.Ground.data }, { on := 8, ground := Go.Ground.guard }], guard := some (8, false) }) (v := ?_) rfl (by kernel_rfl) (by kernel_rfl) (by kernel_rfl) (fun _ _ _ h => h) (Or.inl ⟨by rfl, ?_⟩) (by assumption) ?_
          rotate_left
          · intro w hSw; (try dsimp only at hSw); go_simp <;> first | with_reducible rfl | (rw [if_neg (by first | omega | (simp only [ByteArray.size_append] at *; omega))])
          simp only [Act.put, List.setIfInBounds_toArray, List.set_cons_zero, List.set_cons_succ]
          refine wpAnyH_take (i := 15) (oi := { dst := some 35, op := Go.Op.pick (Go.Operand.tmp 28) (Go.Operand.const (Go.Value.bool true)) (Go.Operand.tmp 34), type := 4, pos := _, after := #[{ on := 8, ground := Go.Ground.data }, { on := 14, ground := Go.Ground.data }], guard := none }) (v := ?_) rfl (by kernel_rfl) (by kernel_rfl) (by kernel_rfl) (fun _ _ _ h => h) (Or.inl ⟨by rfl, ?_⟩) (by assumption) ?_
          rotate_left
          · intro w hSw; (try dsimp only at hSw); go_simp <;> first | with_reducible rfl | (rw [if_neg (by first | omega | (simp only [ByteArray.size_append] at *; omega))])
          simp only [Act.put, List.setIfInBounds_toArray, List.set_cons_zero, List.set_cons_succ]
          refine wpAnyH_done (by kernel_rfl) ?_ _
          clear s0 s1 s2 s3 t0 t1 t2 t3 m0 m1 m2 m3 q0 q1 q2 q3 q4 q5 q6 q7 u0 u1 u2 u3 u4 u5 u6 u7 n0 n1 n2 n3 n4 n5 n6 n7 y0 y1 y2 y3 y4 y5 y6 y7
          cases hf : fitT y.df y.ty with
          | true =>
            have HE2 : Hid (∀ q ∈ p.flows.take (r + 1), flT p q = true) := hid (fun q hq => by
              rw [HTK.out] at hq
              rcases List.mem_append.1 hq with h | h
              · exact HE.out q h
              · rw [List.mem_singleton.1 h]; unfold flT; rw [hf, ht]; simp)
            have HB3 := hid (hB.out.trans ((bstep (bstep BA.out HG1.out) HG2.out).mono hB.out.size))
            clear hf ht
            go_wp2_with (fail)
            go_roundw
            case rel => exact ⟨r + 1, by omega, by go_num, HE2, HB3⟩
            case measure => simp [intOf]; omega
          | false =>
            have HV : Hid (ckV p = 7) := hid (by rw [HOV.out, if_neg]; intro h; have := List.all_eq_true.1 h y HMG.out; unfold flT at this; rw [hf] at this; simp at this)
            clear hf ht
            go_wp2_with (fail)
            go_ret
            exact ⟨by rw [HV.out]; rfl, X2'.out.below⟩
        · have HTB : Hid (((tyE p y.body : Int) != (y.ty : Int)) = true) := hid (by rw [bne_iff_ne]; omega)
          have HV : Hid (ckV p = 7) := hid (by rw [HOV.out, if_neg]; intro h; have := List.all_eq_true.1 h y HMG.out; unfold flT at this; simp [ht] at this)
          generalize tyE p y.body = ty at *
          go_wp2_with (fail)
          refine wp_region_held_drew (S := fun W => W.cell? ⟨w.heap.size, 0, none⟩ = some (.int .i64 p.st) ∧ W.cell? ⟨w.heap.size, 1, none⟩ = some (A) ∧ W.cell? ⟨w.heap.size, 2, none⟩ = some ((.slice (some ⟨gb, go, none⟩) p.flows.length cap)) ∧ W.cell? ⟨w.heap.size, 3, none⟩ = some (C) ∧ W.cell? ⟨wr.heap.size, 0, none⟩ = some (.string y.name) ∧ W.cell? ⟨wr.heap.size, 1, none⟩ = some (.int .u8 (y.ty : Int)) ∧ W.cell? ⟨wr.heap.size, 2, none⟩ = some (.int .i64 y.st) ∧ W.cell? ⟨wr.heap.size, 3, none⟩ = some (.int .i64 y.df) ∧ W.cell? ⟨wr.heap.size, 4, none⟩ = some (.int .u8 (y.body.op : Int)) ∧ W.cell? ⟨wr.heap.size, 5, none⟩ = some (.int .i64 y.body.n) ∧ W.cell? ⟨wr.heap.size, 6, none⟩ = some (.string y.body.name) ∧ W.cell? ⟨wr.heap.size, 7, none⟩ = some (.slice sa y.body.args.length sc)) (by kernel_rfl) ?_ (fun hHeld => ?_)
          · exact ⟨s0, s1, s2, s3, q0, q1, q2, q3, q4, q5, q6, q7⟩
          refine wpAnyH_take (i := 0) (oi := { dst := some 20, op := Go.Op.load 26 (Go.Operand.tmp 1), type := 26, pos := _, after := #[], guard := none }) (v := ?_) rfl (by kernel_rfl) (by kernel_rfl) (by kernel_rfl) (fun _ _ _ h => h) (Or.inl ⟨by rfl, ?_⟩) (by assumption) ?_
          rotate_left
          · intro w hSw; (try dsimp only at hSw); go_simp <;> first | with_reducible rfl | (rw [if_neg (by first | omega | (simp only [ByteArray.size_append] at *; omega))])
          simp only [Act.put, List.setIfInBounds_toArray, List.set_cons_zero, List.set_cons_succ]
          refine wpAnyH_take (i := 1) (oi := { dst := some 21, op := Go.Op.move (Go.Operand.tmp 4), type := 68, pos := _, after := #[], guard := none }) (v := ?_) rfl (by kernel_rfl) (by kernel_rfl) (by kernel_rfl) (fun _ _ _ h => h) (Or.inl ⟨by rfl, ?_⟩) (by assumption) ?_
          rotate_left
          · intro w hSw; (try dsimp only at hSw); go_simp <;> first | with_reducible rfl | (rw [if_neg (by first | omega | (simp only [ByteArray.size_append] at *; omega))])
          simp only [Act.put, List.setIfInBounds_toArray, List.set_cons_zero, List.set_cons_succ]
          refine wpAnyH_take (i := 2) (oi := { dst := some 22, op := Go.Op.fieldAddr 52 (Go.Operand.tmp 6) 4, type := 0, pos := _, after := #[], guard := none }) (v := ?_) rfl (by kernel_rfl) (by kernel_rfl) (by kernel_rfl) (fun _ _ _ h => h) (Or.inl ⟨by rfl, ?_⟩) (by assumption) ?_
          rotate_left
          · intro w hSw; (try dsimp only at hSw); go_simp <;> first | with_reducible rfl | (rw [if_neg (by first | omega | (simp only [ByteArray.size_append] at *; omega))])
          simp only [Act.put, List.setIfInBounds_toArray, List.set_cons_zero, List.set_cons_succ]
          refine wpAnyH_take (i := 3) (oi := { dst := some 23, op := Go.Op.load 30 (Go.Operand.tmp 22), type := 30, pos := _, after := #[{ on := 2, ground := Go.Ground.data }], guard := none }) (v := ?_) rfl (by kernel_rfl) (by kernel_rfl) (by kernel_rfl) (fun _ _ _ h => h) (Or.inl ⟨by rfl, ?_⟩) (by assumption) ?_
          rotate_left
          · intro w hSw; (try dsimp only at hSw); go_simp <;> first | with_reducible rfl | (rw [if_neg (by first | omega | (simp only [ByteArray.size_append] at *; omega))])
          simp only [Act.put, List.setIfInBounds_toArray, List.set_cons_zero, List.set_cons_succ]
          refine wpAnyH_take (i := 5) (oi := { dst := some 25, op := Go.Op.fieldAddr 52 (Go.Operand.tmp 6) 1, type := 0, pos := _, after := #[], guard := none }) (v := ?_) rfl (by kernel_rfl) (by kernel_rfl) (by kernel_rfl) (fun _ _ _ h => h) (Or.inl ⟨by rfl, ?_⟩) (by assumption) ?_
          rotate_left
          · intro w hSw; (try dsimp only at hSw); go_simp <;> first | with_reducible rfl | (rw [if_neg (by first | omega | (simp only [ByteArray.size_append] at *; omega))])
          simp only [Act.put, List.setIfInBounds_toArray, List.set_cons_zero, List.set_cons_succ]
          refine wpAnyH_take (i := 6) (oi := { dst := some 26, op := Go.Op.load 35 (Go.Operand.tmp 25), type := 35, pos := _, after := #[{ on := 5, ground := Go.Ground.data }], guard := none }) (v := ?_) rfl (by kernel_rfl) (by kernel_rfl) (by kernel_rfl) (fun _ _ _ h => h) (Or.inl ⟨by rfl, ?_⟩) (by assumption) ?_
          rotate_left
          · intro w hSw; (try dsimp only at hSw); go_simp <;> first | with_reducible rfl | (rw [if_neg (by first | omega | (simp only [ByteArray.size_append] at *; omega))])
          simp only [Act.put, List.setIfInBounds_toArray, List.set_cons_zero, List.set_cons_succ]
          refine wpAnyH_ready (rs := [4]) (by kernel_rfl) (by simp) ?_
          refine AllReadyH.cons (o := { dst := some 24, op := Go.Op.call { callee := Go.Callee.value (Go.Operand.func 31), args := #[Go.Operand.tmp 20, Go.Operand.tmp 21, Go.Operand.tmp 23], argTypes := #[26, 68, 30] }, type := 35, pos := _, after := #[{ on := 0, ground := Go.Ground.data }, { on := 1, ground := Go.Ground.data }, { on := 3, ground := Go.Ground.data }], guard := none }) rfl (fun K hK => ?_) AllReadyH.nil
          go_simp
          refine c31.mono ?_
          rintro e v1 ⟨rfl, hb1⟩
          have HG1 : Hid (Below (wr.alloc (.cells #[.string y.name, .int .u8 (y.ty : Int), .int .i64 y.st, .int .i64 y.df, .int .u8 (y.body.op : Int), .int .i64 y.body.n, .string y.body.name, .slice sa y.body.args.length sc] 52)).heap.size (wr.alloc (.cells #[.string y.name, .int .u8 (y.ty : Int), .int .i64 y.st, .int .i64 y.df, .int .u8 (y.body.op : Int), .int .i64 y.body.n, .string y.body.name, .slice sa y.body.args.length sc] 52)) v1) := hid ((Below.refl _ _).drew.trans (hb1.mono (by simp)))
          have X1 := hid (FA.out.keep HG1.out)
          obtain ⟨t0, t1, t2, t3⟩ := row4 X1.out.row
          have u0 := cell_kept q0 HG1.out
          have u1 := cell_kept q1 HG1.out
          have u2 := cell_kept q2 HG1.out
          have u3 := cell_kept q3 HG1.out
          have u4 := cell_kept q4 HG1.out
          have u5 := cell_kept q5 HG1.out
          have u6 := cell_kept q6 HG1.out
          have u7 := cell_kept q7 HG1.out
          clear hb1
          go_wp2_with fail
          refine hK.out _ _ ?_ (fun hHeld1 => ?_)
          · exact ⟨t0, t1, t2, t3, u0, u1, u2, u3, u4, u5, u6, u7⟩
          clear hK K
          refine wpAnyH_take (i := 7) (oi := { dst := some 27, op := Go.Op.binOp Go.BinOp.neq 35 (Go.Operand.tmp 24) (Go.Operand.tmp 26) 35, type := 4, pos := _, after := #[{ on := 4, ground := Go.Ground.data }, { on := 6, ground := Go.Ground.data }], guard := none }) (v := ?_) rfl (by kernel_rfl) (by kernel_rfl) (by kernel_rfl) (fun _ _ _ h => h) (Or.inl ⟨by rfl, ?_⟩) (by assumption) ?_
          rotate_left
          · intro w hSw; (try dsimp only at hSw); go_simp <;> first | with_reducible rfl | (rw [if_neg (by first | omega | (simp only [ByteArray.size_append] at *; omega))])
          simp only [Act.put, List.setIfInBounds_toArray, List.set_cons_zero, List.set_cons_succ]
          (try simp only [HTB.out])
          refine wpAnyH_take (i := 8) (oi := { dst := some 28, op := Go.Op.move (Go.Operand.tmp 27), type := 4, pos := _, after := #[{ on := 7, ground := Go.Ground.data }, { on := 4, ground := Go.Ground.chain }], guard := none }) (v := ?_) rfl (by kernel_rfl) (by kernel_rfl) (by kernel_rfl) (fun _ _ _ h => h) (Or.inl ⟨by rfl, ?_⟩) (by assumption) ?_
          rotate_left
          · intro w hSw; (try dsimp only at hSw); go_simp <;> first | with_reducible rfl | (rw [if_neg (by first | omega | (simp only [ByteArray.size_append] at *; omega))])
          simp only [Act.put, List.setIfInBounds_toArray, List.set_cons_zero, List.set_cons_succ]
          refine wpAnyH_take (i := 9) (oi := { dst := some 29, op := Go.Op.fieldAddr 52 (Go.Operand.tmp 6) 3, type := 0, pos := _, after := #[{ on := 8, ground := Go.Ground.guard }], guard := some (8, false) }) (v := undef) rfl (by kernel_rfl) (by kernel_rfl) (by kernel_rfl) (fun _ _ _ h => h) (Or.inr ⟨by rfl, rfl⟩) (by assumption) ?_
          simp only [Act.put, List.setIfInBounds_toArray, List.set_cons_zero, List.set_cons_succ]
          refine wpAnyH_take (i := 10) (oi := { dst := some 30, op := Go.Op.load 2 (Go.Operand.tmp 29), type := 2, pos := _, after := #[{ on := 9, ground := Go.Ground.data }, { on := 8, ground := Go.Ground.guard }], guard := some (8, false) }) (v := undef) rfl (by kernel_rfl) (by kernel_rfl) (by kernel_rfl) (fun _ _ _ h => h) (Or.inr ⟨by rfl, rfl⟩) (by assumption) ?_
          simp only [Act.put, List.setIfInBounds_toArray, List.set_cons_zero, List.set_cons_succ]
          refine wpAnyH_take (i := 11) (oi := { dst := some 31, op := Go.Op.fieldAddr 52 (Go.Operand.tmp 6) 1, type := 0, pos := _, after := #[{ on := 8, ground := Go.Ground.guard }], guard := some (8, false) }) (v := undef) rfl (by kernel_rfl) (by kernel_rfl) (by kernel_rfl) (fun _ _ _ h => h) (Or.inr ⟨by rfl, rfl⟩) (by assumption) ?_
          simp only [Act.put, List.setIfInBounds_toArray, List.set_cons_zero, List.set_cons_succ]
          refine wpAnyH_take (i := 12) (oi := { dst := some 32, op := Go.Op.load 35 (Go.Operand.tmp 31), type := 35, pos := _, after := #[{ on := 11, ground := Go.Ground.data }, { on := 8, ground := Go.Ground.guard }], guard := some (8, false) }) (v := undef) rfl (by kernel_rfl) (by kernel_rfl) (by kernel_rfl) (fun _ _ _ h => h) (Or.inr ⟨by rfl, rfl⟩) (by assumption) ?_
          simp only [Act.put, List.setIfInBounds_toArray, List.set_cons_zero, List.set_cons_succ]
          refine wpAnyH_take (i := 13) (oi := { dst := some 33, op := Go.Op.call { callee := Go.Callee.value (Go.Operand.func 41), args := #[Go.Operand.tmp 30, Go.Operand.tmp 32], argTypes := #[2, 35] }, type := 4, pos := _, after := #[{ on := 10, ground := Go.Ground.data }, { on := 12, ground := Go.Ground.data }, { on := 8, ground := Go.Ground.chain }, { on := 8, ground := Go.Ground.guard }], guard := some (8, false) }) (v := undef) rfl (by kernel_rfl) (by kernel_rfl) (by kernel_rfl) (fun _ _ _ h => h) (Or.inr ⟨by rfl, rfl⟩) (by assumption) ?_
          simp only [Act.put, List.setIfInBounds_toArray, List.set_cons_zero, List.set_cons_succ]
          refine wpAnyH_take (i := 14) (oi := { dst := some 34, op := Go.Op.unOp Go.UnOp.not 4 (Go.Operand.tmp 33), type := 4, pos := _, after := #[{ on := 13, ground := Go.Ground.data }, { on := 8, ground := Go.Ground.guard }], guard := some (8, false) }) (v := undef) rfl (by kernel_rfl) (by kernel_rfl) (by kernel_rfl) (fun _ _ _ h => h) (Or.inr ⟨by rfl, rfl⟩) (by assumption) ?_
          simp only [Act.put, List.setIfInBounds_toArray, List.set_cons_zero, List.set_cons_succ]
          refine wpAnyH_take (i := 15) (oi := { dst := some 35, op := Go.Op.pick (Go.Operand.tmp 28) (Go.Operand.const (Go.Value.bool true)) (Go.Operand.tmp 34), type := 4, pos := _, after := #[{ on := 8, ground := Go.Ground.data }, { on := 14, ground := Go.Ground.data }], guard := none }) (v := ?_) rfl (by kernel_rfl) (by kernel_rfl) (by kernel_rfl) (fun _ _ _ h => h) (Or.inl ⟨by rfl, ?_⟩) (by assumption) ?_
          rotate_left
          · intro w hSw; (try dsimp only at hSw); go_simp <;> first | with_reducible rfl | (rw [if_neg (by first | omega | (simp only [ByteArray.size_append] at *; omega))])
          simp only [Act.put, List.setIfInBounds_toArray, List.set_cons_zero, List.set_cons_succ]
          refine wpAnyH_done (by kernel_rfl) ?_ _
          go_wp2_with (fail)
          go_ret
          exact ⟨by rw [HV.out]; rfl, X1.out.below⟩
      · have hrl' : ¬ (r : Int) < (p.flows.length : Int) := by omega
        obtain rfl : r = p.flows.length := by omega
        have HV : Hid (ckV p = 0) := hid (by rw [HOV.out, if_pos]; exact List.all_eq_true.2 (fun q hq => HE.out q (by rw [List.take_length]; exact hq)))
        go_wp2_with (fail)
        go_ret
        exact ⟨by rw [HV.out]; rfl, FX.out.below⟩
  · have HV : Hid (ckV p = nmErr p) := hid (by unfold ckV; rw [if_neg hn])
    generalize nmErr p = ne at *
    go_wp2_with (fail)
    go_ret
    exact ⟨by rw [HV.out]; rfl, X1.out.below⟩
end Go.Proofs.YtakjkhfglihggaaDoor.Lex
namespace Go.Proofs.YtakjkhfglihggaaDoor.Lex
open Go.ChangeShapes Go.WideShapes Go.ChangeAt Go.RowKit Go.Joins
/-- Is a flow of its type, and its default? -/
def rflT (p : Pg) (f : Fl) : Bool := decide ((ofV p f.body).1 = f.ty) && fitT f.df f.ty
/-- What the document's Check answers. -/
def rckV (p : Pg) : Int := if nmErr p = 0 then (if p.flows.all (rflT p) then 0 else 7) else nmErr p
set_option maxRecDepth 100000 in
set_option maxHeartbeats 4000000 in
theorem rtypes_check (p : Pg) (hof : ∀ x, chk x = true → RTyC p x) (w : World) (A B C : Value) (hP : PgAt w p A B C) (hR : TabR w) (hJ : TabJ w) : Calls Tryd.prog 18 #[pgV p A B C] w fun e w' => e = .returned (.int .i64 (rckV p)) ∧ Below w.heap.size w w' := by
  have X0 := hid (FV.new hP hR hJ)
  have HOF := hid hof
  obtain ⟨ao, cap, sl0, rfl, _⟩ := hP.flows
  clear hP hR hJ hof
  go_enter Tryd.func18, Tryd.ntmps18
  go_wp2_with (fail)
  refine (rnames p _ _ _ _ X0.out.P X0.out.R X0.out.J).mono ?_
  rintro e w1 ⟨rfl, hb1⟩
  have X2 := hid (X0.out.keep hb1)
  clear hb1 X0
  by_cases hn : nmErr p = 0
  · have HOV : Hid (rckV p = if p.flows.all (rflT p) then 0 else 7) := hid (by unfold rckV; rw [if_pos hn])
    rw [hn]
    clear hn
    go_wp2_with (fail)
    obtain ⟨ao', cap', sl, heq, hlen, _, hok, hc, hs⟩ := X2.out.P.flows
    obtain ⟨rfl, rfl⟩ : ao = ao' ∧ cap = cap' := by simpa using heq
    have HC := hid hc
    have HS := hid hs
    clear hc hs hok heq
    go_loopw [4] (fun i wr => ∃ r : Nat, r ≤ p.flows.length ∧ i = .int .i64 (r : Int) ∧ Hid (∀ z ∈ p.flows.take r, rflT p z = true) ∧ Hid (Below w1.heap.size w1 wr)) (fun i _ => p.flows.length - (intOf i).toNat)
    case atStart => exact ⟨0, Nat.zero_le _, rfl, hid (by simp), hid (Below.refl _ _)⟩
    case round =>
      obtain ⟨r, hr, rfl, HE, hB⟩ := hrel
      have FX := hid (X2.out.keep hB.out)
      obtain ⟨s0, s1, s2, s3⟩ := row4 FX.out.row
      by_cases hrl : r < p.flows.length
      · have hrl' : (r : Int) < (p.flows.length : Int) := by omega
        have hr0 : (0 : Int) ≤ (r : Int) := by omega
        obtain ⟨gb, go, rfl, hcc⟩ := HC.out.resolve_left (by omega)
        obtain ⟨y0, y1, y2, y3, y4, y5, y6, y7⟩ := (hcc r hrl).keep hB.out
        have HTK := hid (List.take_succ_eq_append_getElem hrl)
        have HMG := hid (List.getElem_mem hrl)
        have HST := hid ((HS.out r hrl).keep hB.out)
        clear hcc
        generalize sl r = sv at *
        generalize hy : p.flows[r] = y at *
        clear hy
        obtain ⟨sa, sc, _, rfl, _⟩ := HST.out.out
        have BA := hid ((Below.refl wr.heap.size wr).alloc (Nat.le_refl _) (.cells #[.string y.name, .int .u8 (y.ty : Int), .int .i64 y.st, .int .i64 y.df, .int .u8 (y.body.op : Int), .int .i64 y.body.n, .string y.body.name, .slice sa y.body.args.length sc] 52))
        have FA := hid (FX.out.keep BA.out)
        have bx := fun j v => box_at wr #[.string y.name, .int .u8 (y.ty : Int), .int .i64 y.st, .int .i64 y.df, .int .u8 (y.body.op : Int), .int .i64 y.body.n, .string y.body.name, .slice sa y.body.args.length sc] 52 j v
        have q0 := bx 0 _ rfl
        have q1 := bx 1 _ rfl
        have q2 := bx 2 _ rfl
        have q3 := bx 3 _ rfl
        have q4 := bx 4 _ rfl
        have q5 := bx 5 _ rfl
        have q6 := bx 6 _ rfl
        have q7 := bx 7 _ rfl
        clear bx
        obtain ⟨p0, p1, p2, p3⟩ := row4 FA.out.row
        have c14 := rof_ p y.body (HOF.out y.body) _ _ _ _ _ FA.out.P (HST.out.keep BA.out) FA.out.R FA.out.J
        go_wp2_with (fail)
        refine c14.mono ?_
        clear c14
        rintro e w3 ⟨rfl, hb3⟩
        have XB := hid (FA.out.keep hb3).below
        have HB3 := hid (hB.out.trans ((bstep BA.out hb3).mono hB.out.size))
        have u1 := cell_kept q1 hb3
        have u3 := cell_kept q3 hb3
        clear s0 s1 s2 s3 p0 p1 p2 p3 q0 q1 q2 q3 q4 q5 q6 q7 y0 y1 y2 y3 y4 y5 y6 y7 hb3
        generalize hoo : ofV p y.body = ov at *
        have HOO := hid hoo
        clear hoo
        obtain ⟨o1, o2⟩ := ov
        by_cases ht : o1 = y.ty
        · subst ht
          by_cases h2 : y.ty = 2
          · have h2' : (y.ty : Int) = 2 := by omega
            by_cases h0 : y.df = 0
            · have HE2 : Hid (∀ q ∈ p.flows.take (r + 1), rflT p q = true) := hid (fun q hq => by
                rw [HTK.out] at hq
                rcases List.mem_append.1 hq with h | h
                · exact HE.out q h
                · rw [List.mem_singleton.1 h]; unfold rflT fitT; rw [HOO.out]; simp [h2, h0])
              go_wp2_with (fail)
              all_goals (refine ⟨⟨r + 1, by omega, by go_num, HE2, HB3⟩, ?_⟩; simp [intOf]; omega)
            · by_cases h1 : y.df = 1
              · have HE2 : Hid (∀ q ∈ p.flows.take (r + 1), rflT p q = true) := hid (fun q hq => by
                  rw [HTK.out] at hq
                  rcases List.mem_append.1 hq with h | h
                  · exact HE.out q h
                  · rw [List.mem_singleton.1 h]; unfold rflT fitT; rw [HOO.out]; simp [h2, h1])
                go_wp2_with (fail)
                all_goals (refine ⟨⟨r + 1, by omega, by go_num, HE2, HB3⟩, ?_⟩; simp [intOf]; omega)
              · have HV : Hid (rckV p = 7) := hid (by rw [HOV.out, if_neg]; intro h; have := List.all_eq_true.1 h y HMG.out; unfold rflT fitT at this; rw [HOO.out] at this; simp [h2, h0, h1] at this)
                go_wp2_with (fail)
                all_goals first | (go_ret; exact ⟨by rw [HV.out]; rfl, XB.out⟩) | (exfalso; rename_i hx; simp [h0, h1] at hx)
          · have h2' : ¬ (y.ty : Int) = 2 := by omega
            have HE2 : Hid (∀ q ∈ p.flows.take (r + 1), rflT p q = true) := hid (fun q hq => by
              rw [HTK.out] at hq
              rcases List.mem_append.1 hq with h | h
              · exact HE.out q h
              · rw [List.mem_singleton.1 h]; unfold rflT fitT; rw [HOO.out]; simp [h2])
            go_wp2_with (fail)
            all_goals (refine ⟨⟨r + 1, by omega, by go_num, HE2, HB3⟩, ?_⟩; simp [intOf]; omega)
        · have ht' : ¬ (o1 : Int) = (y.ty : Int) := by omega
          have HV : Hid (rckV p = 7) := hid (by rw [HOV.out, if_neg]; intro h; have := List.all_eq_true.1 h y HMG.out; unfold rflT fitT at this; rw [HOO.out] at this; simp [ht] at this)
          go_wp2_with (fail)
          go_ret
          exact ⟨by rw [HV.out]; rfl, XB.out⟩
      · have hrl' : ¬ (r : Int) < (p.flows.length : Int) := by omega
        obtain rfl : r = p.flows.length := by omega
        have HV : Hid (rckV p = 0) := hid (by rw [HOV.out, if_pos]; exact List.all_eq_true.2 (fun q hq => HE.out q (by rw [List.take_length]; exact hq)))
        go_wp2_with (fail)
        go_ret
        exact ⟨by rw [HV.out]; rfl, FX.out.below⟩
  · have HV : Hid (rckV p = nmErr p) := hid (by unfold rckV; rw [if_neg hn])
    generalize nmErr p = ne at *
    go_wp2_with (fail)
    go_ret
    exact ⟨by rw [HV.out]; rfl, X2.out.below⟩
end Go.Proofs.YtakjkhfglihggaaDoor.Lex
namespace Go.Proofs.YtakjkhfglihggaaDoor.Lex
theorem nmErr_nm {p : Pg} (h : nmErr p = 0) : nmOk p = true := by
  have hp := nmErr_ok h
  unfold nmErr at h
  rw [if_pos hp] at h
  by_cases hq : nmOk p = true
  · exact hq
  · rw [if_neg hq] at h; omega
theorem asks_ok {p : Pg} (h : nmOk p = true) {f : Fl} (hf : f ∈ p.flows) : asksAll p f.body = true := by
  unfold asksAll
  refine List.all_eq_true.2 (fun r hr => ?_)
  obtain ⟨x, hx⟩ := find_asked_ok h (s := r.1) (by
    unfold askedL asksOf
    exact List.mem_flatMap.2 ⟨f, hf, List.mem_map.2 ⟨r, hr, rfl⟩⟩)
  rw [hx]; rfl
theorem of_ty {p : Pg} (h : nmErr p = 0) {f : Fl} (hf : f ∈ p.flows) : (ofV p f.body).1 = tyE p f.body := by
  have h1 := pgOk_chk (nmErr_ok h) f hf
  have h2 := asks_ok (nmErr_nm h) hf
  unfold ofV
  rw [if_neg (by rw [h1]; simp), if_neg (by rw [h2]; simp)]
  by_cases h3 : tyE p f.body = 0
  · rw [if_pos h3, h3]
  · rw [if_neg h3]
theorem rck_eq (p : Pg) : rckV p = ckV p := by
  unfold rckV ckV
  by_cases h : nmErr p = 0
  · rw [if_pos h, if_pos h]
    have e : p.flows.all (rflT p) = p.flows.all (flT p) := by
      rw [Bool.eq_iff_iff, List.all_eq_true, List.all_eq_true]
      constructor
      · intro g f hf; have := g f hf; unfold rflT at this; rw [of_ty h hf] at this; exact this
      · intro g f hf; have := g f hf; unfold rflT; rw [of_ty h hf]; exact this
    rw [e]
  · rw [if_neg h, if_neg h]
end Go.Proofs.YtakjkhfglihggaaDoor.Lex
namespace Go.Proofs.YtakjkhfglihggaaDoor.Lex
open Go.ChangeShapes Go.WideShapes Go.ChangeAt Go.RowKit Go.Joins
/-- With another flow in the place of one. -/
def updF (g : Fl → Fl) (p : Pg) (k : Nat) : Pg := ⟨p.st, p.ins, p.flows.modify k g, p.outs⟩
theorem map_mod {α β : Type} (f : α → β) (g : α → α) (h : ∀ a, f (g a) = f a) : ∀ (l : List α) (k : Nat), (l.modify k g).map f = l.map f
  | [], k => by simp
  | a :: l, 0 => by simp [h a]
  | a :: l, k + 1 => by simp [map_mod f g h l k]
theorem names_upd {g : Fl → Fl} (hn : ∀ f, (g f).name = f.name) (p : Pg) (k : Nat) : namesOf (updF g p k) = namesOf p := by
  unfold namesOf updF
  rw [map_mod (·.name) g hn]
theorem asked_upd {g : Fl → Fl} (hb : ∀ f, (g f).body = f.body) (p : Pg) (k : Nat) : askedL (updF g p k) = askedL p := by
  unfold askedL updF
  rw [List.flatMap_def, List.flatMap_def, map_mod asksOf g (fun f => by unfold asksOf; rw [hb])]
theorem nmOk_upd {g : Fl → Fl} (hn : ∀ f, (g f).name = f.name) (hb : ∀ f, (g f).body = f.body) (p : Pg) (k : Nat) : nmOk (updF g p k) = nmOk p := by
  have hc : ∀ u, cntT (thingsL (updF g p k)) u = cntT (thingsL p) u := fun u => by rw [cntT_names, cntT_names, names_upd hn]
  have h1 : ∀ s, twice (updF g p k) s = twice p s := fun s => by unfold twice; rw [hc]
  have h2 : ∀ s, none_ (updF g p k) s = none_ p s := fun s => by unfold none_; rw [hc]
  have h3 : ∀ s, told (updF g p k) s = told p s := fun s => rfl
  unfold nmOk
  rw [all_names (updF g p k) (fun s => !twice (updF g p k) s), all_names p (fun s => !twice p s)]
  simp only [h1, h2, h3]
  rw [names_upd hn, asked_upd hb]
  rfl
theorem mem_modify {α : Type} {g : α → α} : ∀ {l : List α} {k : Nat} {x : α}, x ∈ l.modify k g → (∃ a, l[k]? = some a ∧ x = g a) ∨ x ∈ l
  | [], k, x, h => by simp at h
  | a :: l, 0, x, h => by
    simp only [List.modify_zero_cons, List.mem_cons] at h
    rcases h with h | h
    · exact .inl ⟨a, rfl, h⟩
    · exact .inr (List.mem_cons_of_mem _ h)
  | a :: l, k + 1, x, h => by
    simp only [List.modify_succ_cons, List.mem_cons] at h
    rcases h with h | h
    · exact .inr (by rw [h]; exact List.mem_cons_self ..)
    · rcases mem_modify h with ⟨b, hb, e⟩ | h'
      · exact .inl ⟨b, by simpa using hb, e⟩
      · exact .inr (List.mem_cons_of_mem _ h')
theorem pgOk_upd {g : Fl → Fl} {p : Pg} {k : Nat} (h : pgOk p = true) (hg : ∀ f, p.flows[k]? = some f → flOk f p.st = true → flOk (g f) p.st = true) : pgOk (updF g p k) = true := by
  unfold pgOk at h ⊢
  simp only [Bool.and_eq_true] at h ⊢
  obtain ⟨⟨h1, h2⟩, h3, h4, h5⟩ := h
  refine ⟨⟨h1, ?_⟩, h3, ?_, h5⟩
  · unfold roomOk updF at *
    simpa using h2
  · rw [List.all_eq_true] at h4 ⊢
    intro x hx
    rcases mem_modify hx with ⟨a, ha, rfl⟩ | hx
    · exact hg a ha (h4 a (List.mem_of_getElem? ha))
    · exact h4 x hx
theorem nmErr_upd {g : Fl → Fl} (hn : ∀ f, (g f).name = f.name) (hb : ∀ f, (g f).body = f.body) {p : Pg} {k : Nat} (h : nmErr p = 0) (hg : ∀ f, p.flows[k]? = some f → flOk f p.st = true → flOk (g f) p.st = true) : nmErr (updF g p k) = 0 := by
  obtain ⟨h1, h2⟩ := nmErr_zero h
  unfold nmErr
  rw [if_pos (pgOk_upd h1 hg), if_pos (by rw [nmOk_upd hn hb]; exact h2)]
theorem flowsL_hd (p : Pg) : flowsL p = (List.range p.flows.length).map fun (i : Nat) => ((i : Int), ((p.flows.map Fl.hd)[i]?).getD ⟨ByteArray.empty, 0, 0⟩) := by
  unfold flowsL
  simp only [List.getElem?_map]
theorem things_df {g : Fl → Fl} (hh : ∀ f, (g f).hd = f.hd) (p : Pg) (k : Nat) : thingsL (updF g p k) = thingsL p := by
  unfold thingsL
  have e1 : insL (updF g p k) = insL p := rfl
  rw [e1, flowsL_hd, flowsL_hd]
  unfold updF
  simp only [map_mod Fl.hd g hh, List.length_modify]
/-- The types of names are what counts. -/
theorem tyE_names {p q : Pg} : ∀ (d : Nat) (x : Ex), okD d x → (∀ s ∈ nmz d x, tyN q s = tyN p s) → tyE q x = tyE p x
  | 0, _, h, _ => h.elim
  | d + 1, x, h, hs => by
    rw [tyE_eq q, tyE_eq p]
    by_cases h3 : x.op = 3
    · rw [if_neg (by omega), if_neg (by omega), if_pos h3, if_neg (by omega), if_neg (by omega), if_pos h3]
      refine hs _ ?_
      rw [nmz, if_pos h3]
      simp
    · have e : x.args.map (tyE q) = x.args.map (tyE p) := List.map_congr_left fun y hy => tyE_names d y (h.2 y hy) fun s hss => hs s (by
        rw [nmz]
        exact List.mem_append.2 (.inr (List.mem_flatMap.2 ⟨y, hy, hss⟩)))
      rw [e, if_neg h3, if_neg h3]
/-- Another type, for the thing of that place. -/
def tyAt (k t : Nat) (x : Int × Hd) : Int × Hd := if x.1 = (k : Int) then (x.1, ⟨x.2.name, t, x.2.st⟩) else x
abbrev withTy (t : Nat) (f : Fl) : Fl := ⟨f.name, t, f.st, f.df, f.body⟩
abbrev withDf (d : Int) (f : Fl) : Fl := ⟨f.name, f.ty, f.st, d, f.body⟩
theorem things_ty (p : Pg) (k t : Nat) : thingsL (updF (withTy t) p k) = (thingsL p).map (tyAt k t) := by
  unfold thingsL
  rw [List.map_append]
  congr 1
  · unfold insL updF
    rw [List.map_map]
    refine List.map_congr_left fun x _ => ?_
    show (_ : Int × Hd) = tyAt k t (-1, x)
    unfold tyAt
    rw [if_neg (by show ¬ (-1 : Int) = (k : Int); omega)]
  · unfold flowsL updF
    rw [List.map_map]
    simp only [List.length_modify]
    refine List.map_congr_left fun i hi => ?_
    have hi' : i < p.flows.length := List.mem_range.1 hi
    show ((i : Int), (((p.flows.modify k (withTy t))[i]?.map Fl.hd).getD ⟨ByteArray.empty, 0, 0⟩)) = tyAt k t ((i : Int), ((p.flows[i]?.map Fl.hd).getD ⟨ByteArray.empty, 0, 0⟩))
    rw [List.getElem?_modify, List.getElem?_eq_getElem hi']
    unfold tyAt
    by_cases e : k = i
    · subst e; simp [Fl.hd]
    · rw [if_neg (by show ¬ (i : Int) = (k : Int); omega)]
      simp [e]
theorem find_map (h : Int × Hd → Int × Hd) (hn : ∀ x, (h x).2.name = x.2.name) (l : List (Int × Hd)) (s : ByteArray) : findT (l.map h) s = (findT l s).map h := by
  unfold findT
  rw [List.find?_map]
  congr 1
  congr 1
  funext x
  show ((h x).2.name.toList == s.toList) = _
  rw [hn]
theorem tyAt_name (k t : Nat) (x : Int × Hd) : (tyAt k t x).2.name = x.2.name := by unfold tyAt; split <;> rfl
theorem flow_thing {p : Pg} {x : Int × Hd} {k : Nat} (hx : x ∈ thingsL p) (h1 : x.1 = (k : Int)) : ∃ f, p.flows[k]? = some f ∧ x.2.name = f.name := by
  unfold thingsL at hx
  rcases List.mem_append.1 hx with hx | hx
  · obtain ⟨y, _, rfl⟩ := List.mem_map.1 hx
    exact absurd h1 (by show ¬ (-1 : Int) = (k : Int); omega)
  · unfold flowsL at hx
    obtain ⟨i, hi, rfl⟩ := List.mem_map.1 hx
    have hi' : i < p.flows.length := List.mem_range.1 hi
    have e : i = k := by have : (i : Int) = (k : Int) := h1; omega
    subst e
    refine ⟨p.flows[i], List.getElem?_eq_getElem hi', ?_⟩
    show (((p.flows[i]?.map Fl.hd).getD ⟨ByteArray.empty, 0, 0⟩)).name = _
    rw [List.getElem?_eq_getElem hi']
    rfl
theorem tyN_ty {p : Pg} {k t : Nat} {f : Fl} (hf : p.flows[k]? = some f) {s : ByteArray} (hs : (s.toList == f.name.toList) = false) : tyN (updF (withTy t) p k) s = tyN p s := by
  unfold tyN
  rw [things_ty, find_map _ (tyAt_name k t)]
  cases hz : findT (thingsL p) s with
  | none => rfl
  | some x =>
    have hx : tyAt k t x = x := by
      unfold tyAt
      refine if_neg fun h1 => ?_
      obtain ⟨g, hg, hn⟩ := flow_thing (List.mem_of_find?_eq_some hz) h1
      rw [hf] at hg
      obtain rfl := Option.some.inj hg
      have h2 := List.find?_some hz
      simp only [hn, beq_iff_eq] at h2
      rw [← h2] at hs
      simp at hs
    show (match (some (tyAt k t x) : Option (Int × Hd)) with | some x => if x.2.ty = 1 ∨ x.2.ty = 2 then x.2.ty else 0 | none => 0) = _
    rw [hx]
theorem ck_zero {p : Pg} (h : ckV p = 0) : nmErr p = 0 ∧ ∀ f ∈ p.flows, flT p f = true := by
  unfold ckV at h
  by_cases h1 : nmErr p = 0
  · rw [if_pos h1] at h
    by_cases h2 : p.flows.all (flT p) = true
    · exact ⟨h1, List.all_eq_true.1 h2⟩
    · rw [if_neg h2] at h; omega
  · rw [if_neg h1] at h; exact (h1 h).elim
theorem ck_other {p : Pg} (h : ckV p ≠ 0) : (nmErr p ≠ 0 ∧ ckV p = nmErr p) ∨ (nmErr p = 0 ∧ ckV p = 7) := by
  unfold ckV at h ⊢
  by_cases h1 : nmErr p = 0
  · rw [if_pos h1] at h ⊢
    by_cases h2 : p.flows.all (flT p) = true
    · rw [if_pos h2] at h; exact (h rfl).elim
    · rw [if_neg h2]; exact .inr ⟨h1, rfl⟩
  · rw [if_neg h1]; exact .inl ⟨h1, rfl⟩
theorem flow_ty {p : Pg} (h : nmErr p = 0) {f : Fl} (hf : f ∈ p.flows) : f.ty = 1 ∨ f.ty = 2 := by
  have h1 := nmErr_ok h
  unfold pgOk at h1
  simp only [Bool.and_eq_true] at h1
  have h2 := List.all_eq_true.1 h1.2.2.1 f hf
  unfold flOk hdOk at h2
  simp only [Bool.and_eq_true, Bool.or_eq_true, beq_iff_eq] at h2
  exact h2.1.2.1
theorem flow_of {p : Pg} (h : ckV p = 0) {f : Fl} (hf : f ∈ p.flows) : ofV p f.body = (f.ty, 0) := by
  obtain ⟨h1, h2⟩ := ck_zero h
  have h3 := h2 f hf
  unfold flT at h3
  simp only [Bool.and_eq_true, decide_eq_true_eq] at h3
  have h4 := flow_ty h1 hf
  rw [of_ok (pgOk_chk (nmErr_ok h1) f hf) (asks_ok (nmErr_nm h1) hf) (by rw [h3.1]; omega), h3.1]
/-- The other type for one of them. -/
theorem ck_ty {p : Pg} (h : ckV p = 0) {k : Nat} {f : Fl} (hf : p.flows[k]? = some f) (ho : ((gat 32 f.body 0 []).any fun r => r.1.toList == f.name.toList) = false) : ckV (updF (withTy (3 - f.ty)) p k) = 7 := by
  obtain ⟨h1, h2⟩ := ck_zero h
  have hm := List.mem_of_getElem? hf
  have ht := flow_ty h1 hm
  have h5 : nmErr (updF (withTy (3 - f.ty)) p k) = 0 := nmErr_upd (g := withTy (3 - f.ty)) (fun _ => rfl) (fun _ => rfl) h1 (fun g hg hok => by
    rw [hf] at hg
    obtain rfl := Option.some.inj hg
    unfold flOk hdOk at hok ⊢
    simp only [Bool.and_eq_true, Bool.or_eq_true, beq_iff_eq] at hok ⊢
    exact ⟨⟨hok.1.1, by show 3 - f.ty = 1 ∨ 3 - f.ty = 2; omega, hok.1.2.2⟩, hok.2⟩)
  unfold ckV
  rw [if_pos h5, if_neg]
  intro hall
  have hin : withTy (3 - f.ty) f ∈ (updF (withTy (3 - f.ty)) p k).flows := by
    refine List.mem_of_getElem? (i := k) ?_
    show (p.flows.modify k (withTy (3 - f.ty)))[k]? = _
    rw [List.getElem?_modify, hf]
    simp
  have h6 := List.all_eq_true.1 hall _ hin
  unfold flT at h6
  simp only [Bool.and_eq_true, decide_eq_true_eq] at h6
  have h7 := h2 f hm
  unfold flT at h7
  simp only [Bool.and_eq_true, decide_eq_true_eq] at h7
  have hck := pgOk_chk (nmErr_ok h1) f hm
  have e : tyE (updF (withTy (3 - f.ty)) p k) f.body = tyE p f.body := tyE_names 32 f.body (chk_ok hck) (fun s hs => tyN_ty hf (by
    have h8 := ho
    rw [List.any_eq_false] at h8
    rw [← pl_nmz 32 f.body 0] at hs
    obtain ⟨r, hr, rfl⟩ := List.mem_map.1 hs
    have := h8 r ((gat_mem 32 f.body 0 r).2 hr)
    simpa using this))
  rw [e, h7.1] at h6
  omega
/-- Another default for one of them. -/
theorem ck_df {p : Pg} (h : ckV p = 0) {k : Nat} {f : Fl} (hf : p.flows[k]? = some f) : ckV (updF (withDf 2) p k) = if f.ty = 1 then 0 else 7 := by
  obtain ⟨h1, h2⟩ := ck_zero h
  have hm := List.mem_of_getElem? hf
  have ht := flow_ty h1 hm
  have h5 : nmErr (updF (withDf 2) p k) = 0 := nmErr_upd (g := withDf 2) (fun _ => rfl) (fun _ => rfl) h1 (fun g _ hok => by
    unfold flOk at hok ⊢
    simp only [Bool.and_eq_true] at hok ⊢
    exact ⟨hok.1, by show (!((2 : Int) == -9223372036854775808)) = true; decide, hok.2.2⟩)
  have hth : thingsL (updF (withDf 2) p k) = thingsL p := things_df (g := withDf 2) (fun _ => rfl) p k
  have hty : ∀ x, okD 32 x → tyE (updF (withDf 2) p k) x = tyE p x := fun x hx => tyE_names 32 x hx (fun s _ => by unfold tyN; rw [hth])
  unfold ckV
  rw [if_pos h5]
  by_cases h3 : f.ty = 1
  · rw [if_pos h3, if_pos]
    refine List.all_eq_true.2 fun g hg => ?_
    rcases mem_modify (l := p.flows) hg with ⟨a, ha, rfl⟩ | hg
    · rw [hf] at ha
      obtain rfl := Option.some.inj ha
      have h7 := h2 f hm
      unfold flT at h7 ⊢
      simp only [Bool.and_eq_true, decide_eq_true_eq] at h7 ⊢
      refine ⟨(hty _ (chk_ok (pgOk_chk (nmErr_ok h1) f hm))).trans h7.1, ?_⟩
      show fitT 2 f.ty = true
      unfold fitT
      rw [h3]; rfl
    · have h7 := h2 g hg
      unfold flT at h7 ⊢
      rw [hty _ (chk_ok (pgOk_chk (nmErr_ok h1) g hg))]
      exact h7
  · rw [if_neg h3, if_neg]
    intro hall
    have hin : withDf 2 f ∈ (updF (withDf 2) p k).flows := by
      refine List.mem_of_getElem? (i := k) ?_
      show (p.flows.modify k (withDf 2))[k]? = _
      rw [List.getElem?_modify, hf]
      simp
    have h6 := List.all_eq_true.1 hall _ hin
    unfold flT at h6
    simp only [Bool.and_eq_true] at h6
    have h8 : fitT 2 f.ty = true := h6.2
    unfold fitT at h8
    rw [show f.ty = 2 by omega] at h8
    exact absurd h8 (by decide)
theorem withTy_ok {t : Nat} (ht : t < 256) (f : Fl) : (withTy t f).ok ∨ ¬ f.ok := by
  by_cases hf : f.ok
  · exact .inl ⟨hf.1, ht, hf.2.2⟩
  · exact .inr hf
theorem withDf_ok (f : Fl) : (withDf 2 f).ok ∨ ¬ f.ok := by
  by_cases hf : f.ok
  · exact .inl ⟨hf.1, hf.2.1, hf.2.2.1, by show (-9223372036854775808 : Int) ≤ 2 ∧ (2 : Int) ≤ 9223372036854775807; omega⟩
  · exact .inr hf
theorem Blk.ne8 {w : World} {a b t u c d e f : Nat} (h : Blk w a t c e) (h' : Blk w b u d f) (hne : t ≠ u) : a ≠ b := fun e => by
  subst e
  obtain ⟨c1, h1, _⟩ := h
  obtain ⟨c2, h2, _⟩ := h'
  rw [h1] at h2
  injection h2 with h2
  injection h2 with _ h2 _
  exact hne h2
theorem set_far {W : World} {b o b' o' : Nat} {v u : Value} (h : W.cell? ⟨b', o', none⟩ = some v) (hne : b' ≠ b ∨ o' ≠ o) : (W.setCell ⟨b, o, none⟩ u).cell? ⟨b', o', none⟩ = some v := by
  rw [World.cell?_setCell_other _ _ _ _ (by intro e; injection e with e1 e2 _; rcases hne with h | h <;> omega)]
  exact h
/-- A twin with another cell in one of its flows. -/
theorem TwPg.put {W : World} {lo : Nat} {p : Pg} {ib ic fb fc ob oc : Nat} (h : TwPg W lo p (.slice (some ⟨ib, 0, none⟩) p.ins.length ic) (.slice (some ⟨fb, 0, none⟩) p.flows.length fc) (.slice (some ⟨ob, 0, none⟩) p.outs.length oc)) {k : Nat} (hk : k < p.flows.length) (j : Nat) (u : Value) (g : Fl → Fl) (hj : j < 8)
    (hg : ∀ f : Fl, (g f).ok ∨ ¬ f.ok) (hbd : ∀ f, (g f).body = f.body) (hcell : ∀ (V : World) (f : Fl) (s : Value), FlCells W fb (k * 8) f s → (∀ i v, i ≠ j → W.cell? ⟨fb, k * 8 + i, none⟩ = some v → V.cell? ⟨fb, k * 8 + i, none⟩ = some v) → V.cell? ⟨fb, k * 8 + j, none⟩ = some u → FlCells V fb (k * 8) (g f) s) :
    PgAt (W.setCell ⟨fb, k * 8 + j, none⟩ u) (updF g p k) (.slice (some ⟨ib, 0, none⟩) p.ins.length ic) (.slice (some ⟨fb, 0, none⟩) p.flows.length fc) (.slice (some ⟨ob, 0, none⟩) p.outs.length oc) := by
  obtain ⟨b1, c1, e1, _, l1, m1, r1, k1, _, g1⟩ := id h.ins
  obtain ⟨b2, c2, sl, e2, _, l2, m2, r2, k2, _, t2, g2⟩ := id h.flows
  obtain ⟨b3, c3, e3, _, l3, m3, r3, k3, _, g3⟩ := id h.outs
  injection e1 with e1 _ e1'
  injection e1 with e1
  injection e1 with e1 _ _
  injection e2 with e2 _ e2'
  injection e2 with e2
  injection e2 with e2 _ _
  injection e3 with e3 _ e3'
  injection e3 with e3
  injection e3 with e3 _ _
  subst e1 e1' e2 e2' e3 e3'
  have n1 := g1.ne8 g2 (by decide)
  have n3 := g3.ne8 g2 (by decide)
  have hfl : (updF g p k).flows.length = p.flows.length := by unfold updF; simp
  refine ⟨h.st, ⟨_, ic, rfl, l1, by show p.ins.length ≤ ic; omega, r1, .inr ⟨ib, 0, rfl, fun i hi => ?_⟩⟩, ⟨_, fc, sl, by rw [hfl], by rw [hfl]; exact l2, by rw [hfl]; omega, ?_, .inr ⟨fb, 0, rfl, fun i hi => ?_⟩, fun i hi => ?_⟩, ⟨_, oc, rfl, l3, by show p.outs.length ≤ oc; omega, r3, .inr ⟨ob, 0, rfl, fun i hi => ?_⟩⟩⟩
  · rw [Nat.zero_add]
    exact ⟨set_far (k1 i hi).1 (.inl n1), set_far (k1 i hi).2.1 (.inl n1), set_far (k1 i hi).2.2 (.inl n1)⟩
  · intro x hx
    rcases mem_modify (l := p.flows) hx with ⟨a, ha, rfl⟩ | hx
    · exact (hg a).resolve_right (fun hh => hh (r2 a (List.mem_of_getElem? ha)))
    · exact r2 x hx
  · have hi' : i < p.flows.length := by omega
    rw [Nat.zero_add]
    by_cases e : i = k
    · subst e
      have ex : (updF g p i).flows[i] = g p.flows[i] := by
        show (p.flows.modify i g)[i]'(by simpa using hi') = _
        rw [List.getElem_modify]; simp
      rw [ex]
      obtain ⟨v, hv⟩ := Option.isSome_iff_exists.1 ((g2.there (o := i * 8 + j) (n := 1) (by omega)) 0 (by omega)).1
      exact hcell _ _ _ (k2 i hi') (fun q v hq hv => set_far hv (.inr (by omega))) (World.cell?_setCell_same _ _ _ hv)
    · have ex : (updF g p k).flows[i] = p.flows[i] := by
        show (p.flows.modify k g)[i]'(by simpa using hi') = _
        rw [List.getElem_modify]; simp [Ne.symm e]
      rw [ex]
      obtain ⟨d0, d1, d2, d3, d4, d5, d6, d7⟩ := k2 i hi'
      exact ⟨set_far d0 (.inr (by omega)), set_far d1 (.inr (by omega)), set_far d2 (.inr (by omega)), set_far d3 (.inr (by omega)), set_far d4 (.inr (by omega)), set_far d5 (.inr (by omega)), set_far d6 (.inr (by omega)), set_far d7 (.inr (by omega))⟩
  · have hi' : i < p.flows.length := by omega
    have ex : (updF g p k).flows[i].body = p.flows[i].body := by
      show ((p.flows.modify k g)[i]'(by simpa using hi')).body = _
      rw [List.getElem_modify]
      split
      · exact hbd _
      · rfl
    rw [ex]
    exact ((t2 i hi').carry (w' := W.setCell ⟨fb, k * 8 + j, none⟩ u) (fun b hb _ => Below.heap_setCell _ _ _ _ (by show b ≠ fb; omega))).st
  · rw [Nat.zero_add]
    exact set_far (k3 i hi) (.inl n3)
end Go.Proofs.YtakjkhfglihggaaDoor.Lex
namespace Go.Proofs.YtakjkhfglihggaaDoor.Lex
open Go.ChangeShapes Go.WideShapes Go.ChangeAt Go.RowKit Go.Joins
theorem row4e {W : World} {k : Nat} {x : Ex} {D : Value} (h : W.heap[k]? = some (.cells #[.int .u8 (x.op : Int), .int .i64 x.n, .string x.name, D] 30 (0, 0))) : W.cell? ⟨k, 0, none⟩ = some (.int .u8 (x.op : Int)) ∧ W.cell? ⟨k, 1, none⟩ = some (.int .i64 x.n) ∧ W.cell? ⟨k, 2, none⟩ = some (.string x.name) ∧ W.cell? ⟨k, 3, none⟩ = some D :=
  ⟨(cell_of_row _ _ _ _ 30 (0, 0) h).trans rfl, (cell_of_row _ _ _ _ 30 (0, 0) h).trans rfl, (cell_of_row _ _ _ _ 30 (0, 0) h).trans rfl, (cell_of_row _ _ _ _ 30 (0, 0) h).trans rfl⟩
/-- The chapter's program. -/
def smQ : Pg := ⟨1, [⟨⟨#[97]⟩, 1, 1⟩, ⟨⟨#[98]⟩, 2, 1⟩], [], []⟩
abbrev N0 : Value := .slice none 0 0
theorem pg_small {W : World} {b : Nat} (h : W.heap[b]? = some (.cells #[.string ⟨#[97]⟩, .int .u8 1, .int .i64 1, .string ⟨#[98]⟩, .int .u8 2, .int .i64 1] 59 (0, 0))) : PgAt W smQ (.slice (some ⟨b, 0, none⟩) 2 2) N0 N0 where
  ins := by
    refine ⟨some ⟨b, 0, none⟩, 2, rfl, by decide, by decide, ?_, .inr ⟨b, 0, rfl, fun i hi => ?_⟩⟩
    · intro x hx
      simp only [smQ, List.mem_cons, List.not_mem_nil, or_false] at hx
      rcases hx with rfl | rfl <;> refine ⟨by show (1 : Nat) ≤ _; omega, by decide, by decide, by decide⟩
    · have hi2 : i < 2 := hi
      rcases (by omega : i = 0 ∨ i = 1) with rfl | rfl <;> refine ⟨?_, ?_, ?_⟩ <;> (rw [cell_of_row _ _ _ _ 59 (0, 0) h]; rfl)
  flows := ⟨none, 0, fun _ => N0, rfl, by decide, by decide, fun x hx => (List.not_mem_nil hx).elim, .inl rfl, fun i hi => absurd hi (Nat.not_lt_zero i)⟩
  outs := ⟨none, 0, rfl, by decide, by decide, fun x hx => (List.not_mem_nil hx).elim, .inl rfl⟩
  st := by decide
set_option maxRecDepth 100000 in
set_option maxHeartbeats 1000000 in
theorem small_at (w : World) : Calls Tryd.prog 46 #[] w fun e w' => ∃ b, e = .returned (pgV smQ (.slice (some ⟨b, 0, none⟩) 2 2) N0 N0) ∧ PgAt w' smQ (.slice (some ⟨b, 0, none⟩) 2 2) N0 N0 ∧ Below w.heap.size w w' := by
  go_enter Tryd.func46, Tryd.ntmps46
  go_wp2
  have hb := fun o0 o1 => ((Below.refl w.heap.size w).alloc (by simp; try omega) o0).alloc (by simp; try omega) o1
  refine bodyPost_ret (v := pgV smQ (.slice (some ⟨w.heap.size + 1, 0, none⟩) 2 2) N0 N0) ?_ rfl ⟨_, rfl, pg_small (push_new _ _ _ (by simp)), hb _ _⟩
  simp [results, Tryd.f46, go_sem]
  rfl
abbrev c30 : Array Value := #[.int .u8 0, .int .i64 0, .string ⟨#[]⟩, .slice none 0 0]
theorem info30 : (Tryd.prog.info? 30).map (·.size) = some 4 := by kernel_rfl
theorem name_at (s : ByteArray) (w : World) : Calls Tryd.prog 43 #[.string s] w fun e w' => e = .returned (exV ⟨3, 0, s, []⟩ (.slice none 0 0)) ∧ Below w.heap.size w w' := by
  have B0 := hid ((Below.refl w.heap.size w).alloc (Nat.le_refl _) (.cells c30 30))
  have X0 := heap_alloc_new w (.cells c30 30)
  go_enter Tryd.func43, Tryd.ntmps43
  go_wp2_with (refine wpList_store_row rfl 30 _ _ rfl w.heap.size #[.int .u8 3, .int .i64 0, .string s, .slice none 0 0] rfl rfl 30 _ X0 info30 rfl (by simp [Value.oneCell']) ?_)
  exact bodyPost_ret (results_cell_row rfl _ _ w.heap.size 30 #[.int .u8 3, .int .i64 0, .string s, .slice none 0 0] (0, 0) _ rfl (setRow_heap _ _ _ _ _ _ X0) Tryd.underlying30 rfl info30) rfl ⟨rfl, below_row B0.out B0.out.size (Nat.le_refl _) _⟩
/-- of, as a value. -/
theorem of_pl (z : Int) (a : Option Addr) (n c : Nat) (w : World) : Calls Tryd.prog 45 #[.int .u8 z, .slice a n c] w fun e w' => e = .returned (.agg #[.int .u8 z, .int .i64 0, .string ⟨#[]⟩, .slice a n c]) ∧ Below w.heap.size w w' := by
  have B0 := hid ((Below.refl w.heap.size w).alloc (Nat.le_refl _) (.cells c30 30))
  have X0 := heap_alloc_new w (.cells c30 30)
  go_enter Tryd.func45, Tryd.ntmps45
  go_wp2_with (refine wpList_store_row rfl 30 _ _ rfl w.heap.size #[.int .u8 z, .int .i64 0, .string ⟨#[]⟩, .slice a n c] rfl rfl 30 _ X0 info30 rfl (by simp [Value.oneCell']) ?_)
  exact bodyPost_ret (results_cell_row rfl _ _ w.heap.size 30 #[.int .u8 z, .int .i64 0, .string ⟨#[]⟩, .slice a n c] (0, 0) _ rfl (setRow_heap _ _ _ _ _ _ X0) Tryd.underlying30 rfl info30) rfl ⟨rfl, below_row B0.out B0.out.size (Nat.le_refl _) _⟩
/-- Something that is worked out, in its variable. -/
structure XQ (w : World) (x : Ex) (ao : Option Addr) (cap : Nat) (W : World) : Prop where
  row : W.heap[w.heap.size]? = some (.cells #[.int .u8 (x.op : Int), .int .i64 x.n, .string x.name, .slice ao x.args.length cap] 30 (0, 0))
  S : St W x (.slice ao x.args.length cap)
  R : TabR W
  J : TabJ W
  below : Below w.heap.size w W
theorem XQ.keep {w W W' : World} {x : Ex} {ao : Option Addr} {cap : Nat} (h : XQ w x ao cap W) (hb : Below W.heap.size W W') : XQ w x ao cap W' :=
  ⟨keep_row h.row hb, h.S.keep hb, h.R.below hb, h.J.below hb, h.below.trans (hb.mono h.below.size)⟩
theorem XQ.cells {w W : World} {x : Ex} {ao : Option Addr} {cap : Nat} (h : XQ w x ao cap W) : W.cell? ⟨w.heap.size, 0, none⟩ = some (.int .u8 (x.op : Int)) ∧ W.cell? ⟨w.heap.size, 1, none⟩ = some (.int .i64 x.n) ∧ W.cell? ⟨w.heap.size, 2, none⟩ = some (.string x.name) ∧ W.cell? ⟨w.heap.size, 3, none⟩ = some (.slice ao x.args.length cap) := row4e h.row
set_option maxRecDepth 100000 in
set_option maxHeartbeats 2000000 in
theorem is_at (x : Ex) (t : Nat) (er : Int) (ho : ofV smQ x = (t, er)) (w : World) (s : Value) (hS : St w x s) (hR : TabR w) (hJ : TabJ w) : Calls Tryd.prog 44 #[exV x s, .int .u8 (t : Int), .int .i64 er] w fun e w' => e = .returned (.bool true) ∧ Below w.heap.size w w' := by
  obtain ⟨ao, cap, _, rfl, _⟩ := hS.out
  have b0 := (Below.refl w.heap.size w).alloc (Nat.le_refl _) (.cells #[.int .u8 (x.op : Int), .int .i64 x.n, .string x.name, .slice ao x.args.length cap] 30)
  have X0 : Hid (XQ w x ao cap (w.alloc (.cells #[.int .u8 (x.op : Int), .int .i64 x.n, .string x.name, .slice ao x.args.length cap] 30))) := hid ⟨heap_alloc_new w _, hS.keep b0, hR.below b0, hJ.below b0, b0⟩
  have HO := hid ho
  clear b0 hS hR hJ ho
  obtain ⟨p0, p1, p2, p3⟩ := X0.out.cells
  go_enter Tryd.func44, Tryd.ntmps44
  go_wp2_with (fail)
  generalize w.alloc (.cells #[.int .u8 (x.op : Int), .int .i64 x.n, .string x.name, .slice ao x.args.length cap] 30) = W0 at *
  refine wp_region_held_drew (S := fun W => W.cell? ⟨w.heap.size, 0, none⟩ = some (.int .u8 (x.op : Int)) ∧ W.cell? ⟨w.heap.size, 1, none⟩ = some (.int .i64 x.n) ∧ W.cell? ⟨w.heap.size, 2, none⟩ = some (.string x.name) ∧ W.cell? ⟨w.heap.size, 3, none⟩ = some (.slice ao x.args.length cap)) (by kernel_rfl) ?_ (fun hHeld => ?_)
  · exact ⟨p0, p1, p2, p3⟩
  refine wpAnyH_take (i := 1) (oi := { dst := some 11, op := Go.Op.load 30 (Go.Operand.tmp 3), type := 30, pos := _, after := #[], guard := none }) (v := ?_) rfl (by kernel_rfl) (by kernel_rfl) (by kernel_rfl) (fun _ _ _ h => h) (Or.inl ⟨by rfl, ?_⟩) (by assumption) ?_
  rotate_left
  · intro w hSw; (try dsimp only at hSw); go_simp <;> first | with_reducible rfl | (rw [if_neg (by first | omega | (simp only [ByteArray.size_append] at *; omega))])
  simp only [Act.put, List.setIfInBounds_toArray, List.set_cons_zero, List.set_cons_succ]
  refine wpAnyH_ready (rs := [0]) (by kernel_rfl) (by simp) ?_
  refine AllReadyH.cons (o := { dst := some 10, op := Go.Op.call { callee := Go.Callee.value (Go.Operand.func 46), args := #[], argTypes := #[] }, type := 26, pos := _, after := #[], guard := none }) rfl (fun K hK => ?_) AllReadyH.nil
  go_simp
  refine (small_at _).mono ?_
  rintro e w1 ⟨sb, rfl, hP1, hb1'⟩
  have hb1 : Below W0.heap.size W0 w1 := (Below.refl _ _).drew.trans (hb1'.mono (by simp))
  have X1 := hid (X0.out.keep hb1)
  have P1 := hid hP1
  obtain ⟨q0, q1, q2, q3⟩ := X1.out.cells
  clear hP1 hb1 hb1'
  go_wp2_with fail
  refine hK.out _ _ ?_ (fun hHeld1 => ?_)
  · exact ⟨q0, q1, q2, q3⟩
  clear hK K
  refine wpAnyH_ready (rs := [2]) (by kernel_rfl) (by simp) ?_
  refine AllReadyH.cons (o := { dst := some 12, op := Go.Op.call { callee := Go.Callee.value (Go.Operand.func 13), args := #[Go.Operand.tmp 10, Go.Operand.tmp 11], argTypes := #[26, 30] }, type := 37, pos := _, after := #[{ on := 0, ground := Go.Ground.data }, { on := 1, ground := Go.Ground.data }, { on := 0, ground := Go.Ground.chain }], guard := none }) rfl (fun K hK => ?_) AllReadyH.nil
  go_simp
  refine (of_ smQ x _ _ _ _ _ P1.out X1.out.S X1.out.R X1.out.J).mono ?_
  rintro e w2 ⟨rfl, hb2⟩
  have X2 := hid (X1.out.keep hb2)
  obtain ⟨t0, t1, t2, t3⟩ := X2.out.cells
  rw [HO.out]
  clear hb2
  go_wp2_with fail
  refine hK.out _ _ ?_ (fun hHeld2 => ?_)
  · exact ⟨t0, t1, t2, t3⟩
  clear hK K
  refine wpAnyH_take (i := 3) (oi := { dst := some 9, op := Go.Op.move (Go.Operand.tmp 12), type := 37, pos := _, after := #[{ on := 2, ground := Go.Ground.data }], guard := none }) (v := ?_) rfl (by kernel_rfl) (by kernel_rfl) (by kernel_rfl) (fun _ _ _ h => h) (Or.inl ⟨by rfl, ?_⟩) (by assumption) ?_
  rotate_left
  · intro w hSw; (try dsimp only at hSw); go_simp <;> first | with_reducible rfl | (rw [if_neg (by first | omega | (simp only [ByteArray.size_append] at *; omega))])
  simp only [Act.put, List.setIfInBounds_toArray, List.set_cons_zero, List.set_cons_succ]
  refine wpAnyH_take (i := 4) (oi := { dst := some 13, op := Go.Op.extract (Go.Operand.tmp 9) 0, type := 35, pos := _, after := #[{ on := 3, ground := Go.Ground.data }], guard := none }) (v := ?_) rfl (by kernel_rfl) (by kernel_rfl) (by kernel_rfl) (fun _ _ _ h => h) (Or.inl ⟨by rfl, ?_⟩) (by assumption) ?_
  rotate_left
  · intro w hSw; (try dsimp only at hSw); go_simp <;> first | with_reducible rfl | (rw [if_neg (by first | omega | (simp only [ByteArray.size_append] at *; omega))])
  simp only [Act.put, List.setIfInBounds_toArray, List.set_cons_zero, List.set_cons_succ]
  refine wpAnyH_take (i := 5) (oi := { dst := some 14, op := Go.Op.extract (Go.Operand.tmp 9) 1, type := 36, pos := _, after := #[{ on := 3, ground := Go.Ground.data }, { on := 6, ground := Go.Ground.gcOnly Go.Departure.lateStores }], guard := none }) (v := ?_) rfl (by kernel_rfl) (by kernel_rfl) (by kernel_rfl) (fun _ _ _ h => h) (Or.inl ⟨by rfl, ?_⟩) (by assumption) ?_
  rotate_left
  · intro w hSw; (try dsimp only at hSw); go_simp <;> first | with_reducible rfl | (rw [if_neg (by first | omega | (simp only [ByteArray.size_append] at *; omega))])
  simp only [Act.put, List.setIfInBounds_toArray, List.set_cons_zero, List.set_cons_succ]
  refine wpAnyH_take (i := 6) (oi := { dst := some 7, op := Go.Op.assign (Go.Operand.tmp 13), type := 35, pos := _, after := #[{ on := 4, ground := Go.Ground.data }, { on := 2, ground := Go.Ground.chain }, { on := 0, ground := Go.Ground.phase }, { on := 1, ground := Go.Ground.phase }, { on := 2, ground := Go.Ground.phase }, { on := 3, ground := Go.Ground.phase }, { on := 4, ground := Go.Ground.phase }, { on := 5, ground := Go.Ground.textOnly Go.Departure.lateStores }], guard := none }) (v := ?_) rfl (by kernel_rfl) (by kernel_rfl) (by kernel_rfl) (fun _ _ _ h => h) (Or.inl ⟨by rfl, ?_⟩) (by assumption) ?_
  rotate_left
  · intro w hSw; (try dsimp only at hSw); go_simp <;> first | with_reducible rfl | (rw [if_neg (by first | omega | (simp only [ByteArray.size_append] at *; omega))])
  simp only [Act.put, List.setIfInBounds_toArray, List.set_cons_zero, List.set_cons_succ]
  refine wpAnyH_take (i := 7) (oi := { dst := some 8, op := Go.Op.assign (Go.Operand.tmp 14), type := 36, pos := _, after := #[{ on := 5, ground := Go.Ground.data }, { on := 6, ground := Go.Ground.chain }, { on := 0, ground := Go.Ground.phase }, { on := 1, ground := Go.Ground.phase }, { on := 2, ground := Go.Ground.phase }, { on := 3, ground := Go.Ground.phase }, { on := 4, ground := Go.Ground.phase }, { on := 5, ground := Go.Ground.phase }, { on := 6, ground := Go.Ground.phase }], guard := none }) (v := ?_) rfl (by kernel_rfl) (by kernel_rfl) (by kernel_rfl) (fun _ _ _ h => h) (Or.inl ⟨by rfl, ?_⟩) (by assumption) ?_
  rotate_left
  · intro w hSw; (try dsimp only at hSw); go_simp <;> first | with_reducible rfl | (rw [if_neg (by first | omega | (simp only [ByteArray.size_append] at *; omega))])
  simp only [Act.put, List.setIfInBounds_toArray, List.set_cons_zero, List.set_cons_succ]
  refine wpAnyH_done (by kernel_rfl) ?_ _
  have e1 : ((t : Int) == (t : Int)) = true := by simp
  have e2 : (er == er) = true := by simp
  have hB := X2.out.below
  go_wp2_with (fail)
  go_ret
  exact ⟨rfl, hB⟩
end Go.Proofs.YtakjkhfglihggaaDoor.Lex
