/-
  The walk of the law on brackets, whatever it is and whatever stands behind it.
-/
import Derived.Test.YtkieljleopbhoaaDoorFull
import Derived.Test.YtkieljleopbhoaaDoorBackWalk
namespace Go.Proofs.YtkieljleopbhoaaDoor.Lex
open Go.ChangeShapes Go.WideShapes Go.ChangeAt Go.RowKit Go.Joins
theorem brr_bytes (l : List UInt8) : (⟨#[40, 40]⟩ : ByteArray) ++ ⟨l.toArray⟩ ++ (⟨#[41, 41]⟩ : ByteArray) = ⟨(br (br l)).toArray⟩ := by
  apply ByteArray.ext
  apply Array.toList_inj.1
  simp [br, ByteArray.data_append]
theorem parse_yes {w : World} (v : Value) (ts : List Mark) (x : Ex) (q : Nat) (hP : P ts 0 0 = .ok (x, q)) (hc : chk x = true) (hM : MarksAt w v ts) (hv : ∀ a n c, v = .slice (some a) n c → a.block < w.heap.size) (E : REnv w) (hT : TsOk ts) (hfew : ts.length ≤ 140737488355328) : Calls Tryd.prog 19 #[v, .int .i64 0] w fun e w' => Below w.heap.size w w' ∧ ∃ ao cap, e = .returned (.tuple #[exV x (.slice ao x.args.length cap), .int .i64 (q : Int), .int .i64 0]) ∧ St w' x (.slice ao x.args.length cap) := by
  refine (parse_sum v ts hM hv E hT hfew).mono ?_
  rintro e w' ⟨hb, y, ao, cap, r, f, rfl, st, hd⟩
  rcases hd with ⟨rfl, h2, _⟩ | ⟨_, h2⟩
  · rw [hP] at h2
    injection h2 with h2
    injection h2 with e1 e2
    subst e1 e2
    exact ⟨hb, ao, cap, rfl, st.st⟩
  · rw [h2 x q hP] at hc; cases hc
/-- What the law's calls answer, of what may be. -/
theorem brk_all (x : Ex) (hc : chk x = true) {w : World} {s : Value} (hS : St w x s) : ∃ (T F : ByteArray) (ts : List Tok), T.size ≤ 65000 ∧ F.size ≤ 65000 ∧ ts.length ≤ 65536 ∧
    (∀ (W : World) (s : Value), St W x s → AEnv W → Calls Tryd.prog 9 #[exV x s] W fun e w' => e = .returned (.tuple #[.string T, .int .i64 0]) ∧ Below W.heap.size W w') ∧
    (∀ (W : World), AEnv W → Calls Tryd.prog 15 #[.string ((⟨#[40]⟩ : ByteArray) ++ T ++ (⟨#[41]⟩ : ByteArray))] W fun e w' => Below W.heap.size W w' ∧ ∃ ao cap, e = .returned (.tuple #[exV x (.slice ao x.args.length cap), .bool true]) ∧ St w' x (.slice ao x.args.length cap)) ∧
    (∀ (W : World) (s : Value), St W x s → AEnv W → Calls Tryd.prog 17 #[exV x s] W fun e w' => e = .returned (.string F) ∧ Below W.heap.size W w') ∧
    (∀ (W : World), AEnv W → Calls Tryd.prog 15 #[.string ((⟨#[40, 40]⟩ : ByteArray) ++ F ++ (⟨#[41, 41]⟩ : ByteArray))] W fun e w' => Below W.heap.size W w' ∧ ∃ ao cap, e = .returned (.tuple #[exV x (.slice ao x.args.length cap), .bool true]) ∧ St w' x (.slice ao x.args.length cap)) ∧
    (∀ (W : World), AEnv W → Calls Tryd.prog 18 #[.string T] W fun e w' => Below W.heap.size W w' ∧ ∃ a cap, e = .returned (.tuple #[.slice a ts.length cap, .int .i64 0, .int .i64 0]) ∧ w'.ownsRow W.heap.size 45 3 (.slice a ts.length cap) ts.length (toksV ts)) ∧
    (∀ (t : Tok), t.kind ≤ 3 → t.text.length ≤ 65536 → jAt (tokM t) = none → ∀ (W : World) (v : Value) (B : Nat), W.ownsRow B 45 3 v (ts.length + 1) (toksV ts ++ tokV t) → AEnv W → Calls Tryd.prog 19 #[v, .int .i64 0] W fun e w' => Below W.heap.size W w' ∧ ∃ ao cap, e = .returned (.tuple #[exV x (.slice ao x.args.length cap), .int .i64 (ts.length : Int), .int .i64 0]) ∧ St w' x (.slice ao x.args.length cap)) := by
  have hc' := hc
  unfold chk at hc'
  obtain ⟨k, hk⟩ := Option.isSome_iff_exists.1 hc'
  have hkk := (sz_le _ _ _ _ hk).2
  have hw := wr_len 32 200 x k w s hk hS
  obtain ⟨g1, g2, _, g4⟩ := G_any 32 200 x k w s hk hS
  have gt := (T_any 32 200 x k w s hk hS).g
  have lt := (lex_any 32 200 x k hk).1
  obtain ⟨ts, e1, e2⟩ := lt 0 [] (.inl rfl)
  rw [List.append_nil, toks_nil] at e2
  have e3 : toks 0 (wr x) = .ok ts := by rw [e2]; simp [ahead]
  have hz : ∀ l : List UInt8, (⟨l.toArray⟩ : ByteArray).size = l.length := fun l => by rw [Lib.size_eq]
  have hb : ∀ l : List UInt8, (br l).length = l.length + 2 := fun l => by simp [br]
  obtain ⟨tok1, tok2⟩ := toks_ok e3 (by omega)
  refine ⟨⟨(wr x).toArray⟩, ⟨(fl x).toArray⟩, ts, by rw [hz]; omega, by rw [hz]; omega, tok2, fun W s h A => tx_yes x hc W s h A.env, fun W A => ?_, fun W s h A => full x hc W s h A.env, fun W A => ?_, fun W A => ?_, fun t t1 t2 t3 W v B hR A => ?_⟩
  · rw [br_bytes]
    exact rd_yes _ x (G.read (ms := tkb (tk x)) hc lt.brackets gt.brk) (by rw [hz, hb]; omega) W A
  · rw [brr_bytes]
    exact rd_yes _ x (G.read (ms := tkb (tkb (tf x))) hc (LexC.brackets (show LexC (br (fl x)) (tkb (tf x)) from g2.brackets)) g1.brk.brk) (by rw [hz, hb, hb]; omega) W A
  · refine (read ⟨(wr x).toArray⟩ W A.tabS (by rw [hz]; omega)).mono ?_
    rintro e w' ⟨hb', hc'⟩
    rcases hc' with ⟨b, h1, h2⟩ | ⟨us, v, h1, h2, h3⟩
    · rw [show toks 0 (⟨(wr x).toArray⟩ : ByteArray).data.toList = .ok ts from e3] at h1; cases h1
    · rw [show toks 0 (⟨(wr x).toArray⟩ : ByteArray).data.toList = .ok ts from e3] at h1
      injection h1 with h1
      subst h1
      obtain ⟨m1, m2⟩ := marks_own h3
      obtain ⟨a, cap, e5, m3⟩ := m1
      have e6 : v = .slice a ts.length cap := by rw [e5, List.length_map]
      subst e6
      exact ⟨hb', a, cap, h2, h3⟩
  · have hR' : W.ownsRow B 45 3 v (ts ++ [t]).length (toksV (ts ++ [t])) := by rw [toksV_app, List.length_append]; simpa [toksV] using hR
    obtain ⟨m1, m2⟩ := marks_own hR'
    refine parse_yes v ((ts ++ [t]).map tokM) x ts.length ?_ hc m1 m2 A.renv ?_ (by rw [List.length_map, List.length_append]; simp; omega)
    · rw [List.map_append, e1]
      have := gt.behind (tokM t) t3
      rw [show (tk x).length = ts.length by rw [← e1, List.length_map]] at this
      exact this
    · intro m hm
      rw [List.map_append] at hm
      rcases List.mem_append.1 hm with hm | hm
      · exact tok1 m hm
      · simp only [List.map_cons, List.map_nil, List.mem_singleton] at hm
        subst hm
        refine ⟨by show t.kind < 256; omega, ?_⟩
        show (⟨t.text.toArray⟩ : ByteArray).size ≤ 1048576
        rw [hz]
        omega
theorem three_new' (w : World) (o : Obj) (x y z : Value) : ∀ j u, [x, y, z][j]? = some u → ((w.alloc o).alloc (.cells #[x, y, z] 45)).cell? ((⟨w.heap.size + 1, 0, none⟩ : Addr).add j) = some u := by
  have := three_new (w.alloc o) x y z
  simpa using this
end Go.Proofs.YtkieljleopbhoaaDoor.Lex
