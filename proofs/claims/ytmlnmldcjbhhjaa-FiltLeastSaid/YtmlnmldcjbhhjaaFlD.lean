/-
  A filter in memory; filt.New, Count, Clear, isRight, refusal, samples, Add.
  Conditions: none but that the filter lies in memory.
-/
import Derived.Test.YtmlnmldcjbhhjaaFlC
namespace Go.Proofs.Ytmlnmldcjbhhjaa.Fl
open Go.RowKit Go.ChangeShapes Go.WideShapes Go.ChangeAt Go.Joins
set_option linter.unusedVariables false
set_option linter.unusedSimpArgs false

/-- copy over cells of one block, of elements of whatever size. -/
theorem run_copy_cells {P : Program} (w : World) (t ty e : TypeId) (i : TypeInfo) (hu : P.underlying t = some (.slice e)) (hi : P.info? e = some i) (b off n c : Nat) (ad : Addr) (m c' : Nat) (cs : List Value) (hn : cs.length = Nat.min m n * i.size)
    (hsrc : ∀ j u, cs[j]? = some u → w.cell? (ad.add j) = some u) (ht : w.there b off cs.length) (h1 : ∀ u ∈ cs, u.oneCell' = true) :
    (Builtin.copy_ #[t, t] ty #[.slice (some ⟨b, off, none⟩) n c, .slice (some ad) m c']).run P w = .ok (goInt (Nat.min m n)) (w.setCells b off cs) := by
  have hf := run_firstCells_some (P := P) w i.size (Nat.min m n) ad m c' cs hn hsrc
  have hst := run_storeCells_cells (P := P) b off cs 0 w (fun j hj => by simpa using (ht j hj).1) (fun j hj => by simpa using (ht j hj).2) h1
  rw [Nat.add_zero] at hst
  simp [Builtin.copy_, run_underlying hu, sizeOf, typeInfo, hi, Builtin.lenOf, hf, hst]
theorem step_copy_cells {P : Program} {ops : Array Oper} {o : Oper} {a : Act} {w : World} {K : Act → World → Prop} {Q : Exit → Act → World → Prop} {E : Prop} (hgd : o.guard = none) (d s : Operand) (t : TypeId)
    (ho : o.op = .call { callee := .builtin .copy, args := #[d, s], argTypes := #[t, t] }) (e : TypeId) (hu : P.underlying t = some (.slice e)) (size : Nat) (hi : (P.info? e).map (·.size) = some size)
    (b off n c : Nat) (hd : a.eval d = .slice (some ⟨b, off, none⟩) n c) (ad : Addr) (m c' : Nat) (hs : a.eval s = .slice (some ad) m c') (cs : List Value) (hn : cs.length = Nat.min m n * size)
    (hsrc : ∀ j u, cs[j]? = some u → w.cell? (ad.add j) = some u) (ht : w.there b off cs.length) (h1 : ∀ u ∈ cs, u.oneCell' = true)
    (h : K (a.put o.dst (goInt (Nat.min m n))) (w.setCells b off cs)) :
    if Region.wanted o (yielded ops a.tmps) = true then Oper.wp P o a w K Q else E := by
  have hw : Region.wanted o (yielded ops a.tmps) = true := by simp [Region.wanted, hgd]
  rw [if_pos hw]
  cases hq : P.info? e with
  | none => simp [hq] at hi
  | some i =>
    simp [hq] at hi
    subst hi
    have hrun := run_copy_cells (P := P) w t o.type e i hu hq b off n c ad m c' cs hn hsrc ht h1
    unfold Oper.wp
    simp [execOp, ho, resolve, invoke, builtin, hd, hs, hrun, Result.andThen]
    exact h

theorem info_ft : (Try.prog.info? 42).map (·.size) = some 33 := by kernel_rfl
/-- the filter in block b has these samples, the newest first. -/
def FmV (w : World) (b : Nat) (V : List Value) (L : List Sm) : Prop := V.length = 33 ∧ (∀ v ∈ V, v.oneCell' = true) ∧ Blk w b V ∧ L.length ≤ 8 ∧ V[32]? = some (.int .i64 (L.length : Nat)) ∧ ∀ j s, L[j]? = some s → ∀ i v, (svs s)[i]? = some v → V[j * 4 + i]? = some v
def Fm (w : World) (b : Nat) (L : List Sm) : Prop := ∃ V, FmV w b V L
theorem Fm.below {w w' : World} {b : Nat} {L : List Sm} (h : Fm w b L) (q : Below w.heap.size w w') : Fm w' b L := by
  obtain ⟨V, h1, h2, h3, r⟩ := h
  exact ⟨V, h1, h2, h3.below q, r⟩
theorem Fm.belowB {w w' : World} {b B : Nat} {L : List Sm} (h : Fm w b L) (hb : b < B) (q : Below B w w') : Fm w' b L := by
  obtain ⟨V, h1, h2, h3, r⟩ := h
  exact ⟨V, h1, h2, h3.belowB hb q, r⟩
theorem Fm.keep {w w' : World} {b : Nat} {L : List Sm} (h : Fm w b L) (e : w'.heap[b]? = w.heap[b]?) (hs : w.heap.size ≤ w'.heap.size) : Fm w' b L := by
  obtain ⟨V, h1, h2, h3, r⟩ := h
  exact ⟨V, h1, h2, blk_keep h3 e hs, r⟩
theorem Fm.lt {w : World} {b : Nat} {L : List Sm} (h : Fm w b L) : b < w.heap.size := by obtain ⟨V, _, _, h, _⟩ := h; exact h.1
theorem Fm.len {w : World} {b : Nat} {L : List Sm} (h : Fm w b L) : L.length ≤ 8 := by obtain ⟨V, _, _, _, h, _⟩ := h; exact h
theorem Fm.count {w : World} {b : Nat} {L : List Sm} (h : Fm w b L) : w.cell? ⟨b, 32, none⟩ = some (.int .i64 (L.length : Nat)) ∧ w.frozen? ⟨b, 32, none⟩ = false := by
  obtain ⟨V, _, _, h, _, h2, _⟩ := h
  exact h.2 32 _ h2
theorem Fm.ls {w : World} {b : Nat} {L : List Sm} (h : Fm w b L) : Ls w b 0 L := by
  obtain ⟨V, _, _, h, _, _, h2⟩ := h
  exact ⟨h.1, fun j s hj i v hi => by rw [Nat.zero_add]; exact (h.2 _ _ (h2 j s hj i v hi)).1⟩
theorem Fm.first {w : World} {b : Nat} {s : Sm} {L : List Sm} (h : Fm w b (s :: L)) : w.cell? ⟨b, 3, none⟩ = some (.int .i64 s.at') := by
  have := h.ls.2 0 s rfl 3 _ rfl
  rwa [Nat.zero_mul, Nat.zero_add] at this
def zeros33 : List Value := [.int .i64 0, .int .i64 0, .int .i64 0, .int .i64 0, .int .i64 0, .int .i64 0, .int .i64 0, .int .i64 0, .int .i64 0, .int .i64 0, .int .i64 0, .int .i64 0, .int .i64 0, .int .i64 0, .int .i64 0, .int .i64 0, .int .i64 0, .int .i64 0, .int .i64 0, .int .i64 0, .int .i64 0, .int .i64 0, .int .i64 0, .int .i64 0, .int .i64 0, .int .i64 0, .int .i64 0, .int .i64 0, .int .i64 0, .int .i64 0, .int .i64 0, .int .i64 0, .int .i64 0]
theorem zeros_len : zeros33.length = 33 := rfl
theorem zeros_one : ∀ v ∈ zeros33, v.oneCell' = true := by decide
theorem fm_zeros {w : World} {b : Nat} (h : Blk w b zeros33) : Fm w b [] := ⟨zeros33, rfl, zeros_one, h, by simp, rfl, fun j s hj => by simp at hj⟩
set_option maxRecDepth 100000 in
theorem New_c (w : World) : Calls Try.prog 6 #[] w fun e w' => e = .returned (.pointer (some ⟨w.heap.size, 0, none⟩)) ∧ Fm w' w.heap.size [] ∧ Below w.heap.size w w' := by
  have N := Lib.hid (Blk.new w zeros33 42)
  have B := Lib.hid (balloc (brefl w) (.cells zeros33.toArray 42))
  unfold zeros33 at N B
  go_enter Try.func6, Try.ntmps6
  go_wp2_with fail
  go_ret
  exact ⟨rfl, fm_zeros N.out, B.out⟩
theorem Count_c {w : World} {b : Nat} {L : List Sm} (h : Fm w b L) : Calls Try.prog 8 #[.pointer (some ⟨b, 0, none⟩)] w fun e w' => e = .returned (.int .i64 (L.length : Nat)) ∧ w' = w := by
  have h1 := h.count.1
  generalize L.length = n at *
  clear h
  go_enter Try.func8, Try.ntmps8
  go_wp2_with fail
  go_ret
  exact ⟨rfl, rfl⟩
theorem Count_nil (w : World) : Calls Try.prog 8 #[.pointer none] w fun e w' => e = .returned (.int .i64 0) ∧ w' = w := by
  go_enter Try.func8, Try.ntmps8
  go_wp2_with fail
  go_ret
  exact ⟨rfl, rfl⟩
theorem Clear_nil (w : World) : Calls Try.prog 12 #[.pointer none] w fun e w' => e = .returned (.int .i64 1) ∧ w' = w := by
  go_enter Try.func12, Try.ntmps12
  go_wp2_with fail
  go_ret
  exact ⟨rfl, rfl⟩
set_option maxRecDepth 100000 in
set_option maxHeartbeats 1000000 in
theorem Clear_c {w : World} {b : Nat} {L : List Sm} (h : Fm w b L) : Calls Try.prog 12 #[.pointer (some ⟨b, 0, none⟩)] w fun e w' => e = .returned (.int .i64 0) ∧ Fm w' b [] ∧ Tu (Td b) w w' := by
  obtain ⟨V, h1, _, h2, _⟩ := h
  have N := Lib.hid (h2.over zeros33 (by rw [h1]; rfl))
  have T := Lib.hid (tu_sets (X := Td b) (b := b) rfl zeros33 0 w)
  have TH := Lib.hid (show w.there b 0 33 from h1 ▸ h2.there)
  clear h1 h2
  go_enter Try.func12, Try.ntmps12
  go_wp2_with (refine wpList_store_mid rfl 42 _ _ rfl b 0 zeros33.toArray rfl rfl TH.out (by exact info_ft) (all_oneCell_toArray zeros_one) ?_)
  go_ret
  exact ⟨rfl, fm_zeros N.out, T.out⟩
set_option maxRecDepth 100000 in
set_option maxHeartbeats 2000000 in
theorem isRight_c (s : Sm) (w : World) : Calls Try.prog 13 #[SV s] w fun e w' => e = .returned (.bool (decide (okSm s))) ∧ Below w.heap.size w w' := by
  obtain ⟨a, b, c, d⟩ := s
  show Calls Try.prog 13 #[.agg #[.int .i64 a, .int .i64 b, .int .i64 c, .int .i64 d]] w _
  have B := Lib.hid (balloc (brefl w) (.cells #[.int .i64 a, .int .i64 b, .int .i64 c, .int .i64 d] 30))
  by_cases c0 : -68719476736 ≤ a
  · have e0 := decide_eq_true c0
    by_cases c1 : a ≤ 68719476736
    · have e1 := decide_eq_true c1
      by_cases c2 : 0 ≤ b
      · have e2 := decide_eq_true c2
        by_cases c3 : b ≤ 68719476736
        · have e3 := decide_eq_true c3
          by_cases c4 : 0 ≤ c
          · have e4 := decide_eq_true c4
            by_cases c5 : c ≤ 68719476736
            · have e5 := decide_eq_true c5
              by_cases c6 : 0 ≤ d
              · have e6 := decide_eq_true c6
                by_cases c7 : d ≤ 288230376151711744
                · have e7 := decide_eq_true c7
                  rw [show decide (okSm ⟨a, b, c, d⟩) = true from decide_eq_true ⟨⟨c0, c1⟩, ⟨c2, c3⟩, ⟨c4, c5⟩, c6, c7⟩]
                  go_enter Try.func13, Try.ntmps13
                  go_wp2_with fail
                  go_ret
                  exact ⟨rfl, B.out⟩
                · have e7 := decide_eq_false c7
                  rw [show decide (okSm ⟨a, b, c, d⟩) = false from decide_eq_false fun h => c7 h.2.2.2.2]
                  go_enter Try.func13, Try.ntmps13
                  go_wp2_with fail
                  go_ret
                  exact ⟨rfl, B.out⟩
              · have e6 := decide_eq_false c6
                rw [show decide (okSm ⟨a, b, c, d⟩) = false from decide_eq_false fun h => c6 h.2.2.2.1]
                go_enter Try.func13, Try.ntmps13
                go_wp2_with fail
                go_ret
                exact ⟨rfl, B.out⟩
            · have e5 := decide_eq_false c5
              rw [show decide (okSm ⟨a, b, c, d⟩) = false from decide_eq_false fun h => c5 h.2.2.1.2]
              go_enter Try.func13, Try.ntmps13
              go_wp2_with fail
              go_ret
              exact ⟨rfl, B.out⟩
          · have e4 := decide_eq_false c4
            rw [show decide (okSm ⟨a, b, c, d⟩) = false from decide_eq_false fun h => c4 h.2.2.1.1]
            go_enter Try.func13, Try.ntmps13
            go_wp2_with fail
            go_ret
            exact ⟨rfl, B.out⟩
        · have e3 := decide_eq_false c3
          rw [show decide (okSm ⟨a, b, c, d⟩) = false from decide_eq_false fun h => c3 h.2.1.2]
          go_enter Try.func13, Try.ntmps13
          go_wp2_with fail
          go_ret
          exact ⟨rfl, B.out⟩
      · have e2 := decide_eq_false c2
        rw [show decide (okSm ⟨a, b, c, d⟩) = false from decide_eq_false fun h => c2 h.2.1.1]
        go_enter Try.func13, Try.ntmps13
        go_wp2_with fail
        go_ret
        exact ⟨rfl, B.out⟩
    · have e1 := decide_eq_false c1
      rw [show decide (okSm ⟨a, b, c, d⟩) = false from decide_eq_false fun h => c1 h.1.2]
      go_enter Try.func13, Try.ntmps13
      go_wp2_with fail
      go_ret
      exact ⟨rfl, B.out⟩
  · have e0 := decide_eq_false c0
    rw [show decide (okSm ⟨a, b, c, d⟩) = false from decide_eq_false fun h => c0 h.1.1]
    go_enter Try.func13, Try.ntmps13
    go_wp2_with fail
    go_ret
    exact ⟨rfl, B.out⟩
theorem refusal_nil (now ppm : Int) (w : World) : Calls Try.prog 14 #[.pointer none, .int .i64 now, .int .i64 ppm] w fun e w' => e = .returned (.int .i64 1) ∧ w' = w := by
  go_enter Try.func14, Try.ntmps14
  go_wp2_with fail
  go_ret
  exact ⟨rfl, rfl⟩
theorem refusal_none {w : World} {b : Nat} (h : Fm w b []) (now ppm : Int) : Calls Try.prog 14 #[.pointer (some ⟨b, 0, none⟩), .int .i64 now, .int .i64 ppm] w fun e w' => e = .returned (.int .i64 5) ∧ w' = w := by
  have h1 := h.count.1
  have h2 : (([] : List Sm).length : Int) = 0 := rfl
  rw [h2] at h1
  clear h h2
  go_enter Try.func14, Try.ntmps14
  go_wp2_with fail
  go_ret
  exact ⟨rfl, rfl⟩
/-- whether there can be an answer at now. -/
def inR (s : Sm) (now ppm : Int) : Prop := s.at' ≤ now ∧ now ≤ 288230376151711744 ∧ 0 ≤ ppm ∧ ppm ≤ 1000
instance (s : Sm) (now ppm : Int) : Decidable (inR s now ppm) := by unfold inR; infer_instance
set_option maxRecDepth 100000 in
set_option maxHeartbeats 1000000 in
theorem refusal_some {w : World} {b : Nat} {s : Sm} {L : List Sm} (h : Fm w b (s :: L)) (now ppm : Int) : Calls Try.prog 14 #[.pointer (some ⟨b, 0, none⟩), .int .i64 now, .int .i64 ppm] w fun e w' => e = .returned (.int .i64 (if inR s now ppm then 0 else 2)) ∧ w' = w := by
  have h1 := h.count.1
  have h2 := h.first
  rw [List.length_cons] at h1
  have z : ((((L.length + 1 : Nat) : Int)) == 0) = false := by rw [beq_eq_false_iff_ne]; omega
  generalize L.length + 1 = n at *
  obtain ⟨so, sd, si, a⟩ := s
  simp only at h2
  have HI : (if inR ⟨so, sd, si, a⟩ now ppm then (0 : Int) else 2) = if a ≤ now ∧ now ≤ 288230376151711744 ∧ 0 ≤ ppm ∧ ppm ≤ 1000 then 0 else 2 := rfl
  rw [HI]
  clear h HI
  by_cases c0 : a ≤ now
  · have e0 : decide (now < a) = false := decide_eq_false (by omega)
    by_cases c1 : now ≤ 288230376151711744
    · have e1 : decide (288230376151711744 < now) = false := decide_eq_false (by omega)
      by_cases c2 : 0 ≤ ppm
      · have e2 : decide (ppm < 0) = false := decide_eq_false (by omega)
        by_cases c3 : ppm ≤ 1000
        · have e3 : decide (1000 < ppm) = false := decide_eq_false (by omega)
          rw [if_pos ⟨c0, c1, c2, c3⟩]
          go_enter Try.func14, Try.ntmps14
          go_wp2_with fail
          go_ret
          exact ⟨rfl, rfl⟩
        · have e3 : decide (1000 < ppm) = true := decide_eq_true (by omega)
          rw [if_neg (fun q => c3 q.2.2.2)]
          go_enter Try.func14, Try.ntmps14
          go_wp2_with fail
          go_ret
          exact ⟨rfl, rfl⟩
      · have e2 : decide (ppm < 0) = true := decide_eq_true (by omega)
        rw [if_neg (fun q => c2 q.2.2.1)]
        go_enter Try.func14, Try.ntmps14
        go_wp2_with fail
        go_ret
        exact ⟨rfl, rfl⟩
    · have e1 : decide (288230376151711744 < now) = true := decide_eq_true (by omega)
      rw [if_neg (fun q => c1 q.2.1)]
      go_enter Try.func14, Try.ntmps14
      go_wp2_with fail
      go_ret
      exact ⟨rfl, rfl⟩
  · have e0 : decide (now < a) = true := decide_eq_true (by omega)
    rw [if_neg (fun q => c0 q.1)]
    go_enter Try.func14, Try.ntmps14
    go_wp2_with fail
    go_ret
    exact ⟨rfl, rfl⟩
set_option maxRecDepth 100000 in
theorem samples_c {w : World} {b : Nat} {L : List Sm} (h : Fm w b L) : Calls Try.prog 16 #[.pointer (some ⟨b, 0, none⟩)] w fun e w' => e = .returned (.slice (some ⟨b, 0, none⟩) L.length 8) ∧ Below w.heap.size w w' := by
  have h1 := h.count.1
  have h2 := h.len
  obtain ⟨n, hn⟩ : ∃ n, L.length = n := ⟨_, rfl⟩
  rw [hn] at h1 h2 ⊢
  clear h hn
  have p0 : (0 : Int) ≤ (n : Int) := by omega
  have p1 : (n : Int) ≤ 8 := by omega
  go_enter Try.func16, Try.ntmps16
  go_upto_region 1 with fail
  go_quiet (fail)
  go_wp2_with fail
  go_ret
  exact ⟨rfl, bdrew (brefl w) _⟩
/-- cells stored in the midst of a block. -/
theorem blk_mid {w : World} {b : Nat} {V : List Value} (h : Blk w b V) (o : Nat) (cs : List Value) (ho : o + cs.length ≤ V.length) : Blk (w.setCells b o cs) b (V.take o ++ (cs ++ V.drop (o + cs.length))) := by
  have hin : ∀ j, j < cs.length → (w.cell? ⟨b, o + j, none⟩).isSome = true := fun j hj => by
    rw [(h.2 (o + j) _ (List.getElem?_eq_getElem (by omega))).1]; rfl
  have hs : ∀ (vs : List Value) (o : Nat) (w : World), (w.setCells b o vs).heap.size = w.heap.size := size_over b
  refine ⟨by rw [hs]; exact h.1, fun i x hx => ?_⟩
  have ltk : (V.take o).length = o := by rw [List.length_take]; omega
  rw [World.frozen?_setCells]
  by_cases c1 : i < o
  · rw [List.getElem?_append_left (by omega), List.getElem?_take_of_lt c1] at hx
    rw [World.cell?_setCells_out b cs o w ⟨b, i, none⟩ (fun _ _ => Or.inl c1)]
    exact h.2 i x hx
  · rw [List.getElem?_append_right (by omega), ltk] at hx
    by_cases c2 : i - o < cs.length
    · rw [List.getElem?_append_left c2] at hx
      have e := World.cell?_setCells_in b cs o w hin (i - o) c2
      rw [show o + (i - o) = i by omega] at e
      rw [e]
      refine ⟨by rw [← hx, List.getElem?_eq_getElem c2], (h.2 i _ (List.getElem?_eq_getElem (by omega))).2⟩
    · rw [List.getElem?_append_right (by omega), List.getElem?_drop] at hx
      rw [show o + cs.length + (i - o - cs.length) = i by omega] at hx
      rw [World.cell?_setCells_out b cs o w ⟨b, i, none⟩ (fun _ _ => Or.inr (by show o + cs.length ≤ i; omega))]
      exact h.2 i x hx
/-- the values behind an Add. -/
def addV (V : List Value) (s : Sm) (n : Nat) : List Value :=
  (((((V.take 4 ++ (V.take 28 ++ V.drop (4 + 28))).set 0 (.int .i64 s.off)).set 1 (.int .i64 s.del)).set 2 (.int .i64 s.dis)).set 3 (.int .i64 s.at')).set 32 (.int .i64 (n : Nat))
theorem fmV_add {w w' : World} {b : Nat} {V : List Value} {L : List Sm} (h : FmV w b V L) (s : Sm) (n : Nat) (hn : n = ((s :: L).take 8).length) (hb : Blk w' b (addV V s n)) : FmV w' b (addV V s n) ((s :: L).take 8) := by
  obtain ⟨h1, h2, h3, h4, h5, h6⟩ := h
  have l4 : (V.take 4).length = 4 := by rw [List.length_take]; omega
  have l28 : (V.take 28).length = 28 := by rw [List.length_take]; omega
  have ld : (V.drop (4 + 28)).length = 1 := by rw [List.length_drop]; omega
  refine ⟨by simp [addV, h1], ?_, hb, by rw [List.length_take]; omega, ?_, ?_⟩
  · intro v hv
    unfold addV at hv
    have m1 : ∀ {l : List Value} {i : Nat} {x v : Value}, v ∈ l.set i x → v ∈ l ∨ v = x := fun h => List.mem_or_eq_of_mem_set h
    rcases m1 hv with hv | rfl
    · rcases m1 hv with hv | rfl
      · rcases m1 hv with hv | rfl
        · rcases m1 hv with hv | rfl
          · rcases m1 hv with hv | rfl
            · rcases List.mem_append.1 hv with hv | hv
              · exact h2 v (List.mem_of_mem_take hv)
              · rcases List.mem_append.1 hv with hv | hv
                · exact h2 v (List.mem_of_mem_take hv)
                · exact h2 v (List.mem_of_mem_drop hv)
            · rfl
          · rfl
        · rfl
      · rfl
    · rfl
  · unfold addV
    rw [List.getElem?_set_self (by simp [h1]), hn]
  · intro j x hj i v hi
    have i4 : i < 4 := by have := (List.getElem?_eq_some_iff.1 hi).1; rwa [svs_len] at this
    have j8 : j < 8 := by
      have := (List.getElem?_eq_some_iff.1 hj).1
      rw [List.length_take] at this
      omega
    rw [List.getElem?_take_of_lt j8] at hj
    unfold addV
    rw [List.getElem?_set_ne (by omega)]
    cases j with
    | zero =>
      simp only [List.getElem?_cons_zero, Option.some.injEq] at hj
      subst hj
      rw [Nat.zero_mul, Nat.zero_add]
      match i, i4, hi with
      | 0, _, hi => rw [List.getElem?_set_ne (by omega), List.getElem?_set_ne (by omega), List.getElem?_set_ne (by omega), List.getElem?_set_self (by simp [h1])]; exact hi
      | 1, _, hi => rw [List.getElem?_set_ne (by omega), List.getElem?_set_ne (by omega), List.getElem?_set_self (by simp [h1])]; exact hi
      | 2, _, hi => rw [List.getElem?_set_ne (by omega), List.getElem?_set_self (by simp [h1])]; exact hi
      | 3, _, hi => rw [List.getElem?_set_self (by simp [h1])]; exact hi
    | succ j =>
      rw [List.getElem?_cons_succ] at hj
      rw [List.getElem?_set_ne (by omega), List.getElem?_set_ne (by omega), List.getElem?_set_ne (by omega), List.getElem?_set_ne (by omega), List.getElem?_append_right (by omega), l4, List.getElem?_append_left (by omega), List.getElem?_take_of_lt (by omega), show (j + 1) * 4 + i - 4 = j * 4 + i by omega]
      exact h6 j x hj i v hi
theorem Add_nil (s : Sm) (w : World) : Calls Try.prog 7 #[.pointer none, SV s] w fun e w' => e = .returned (.int .i64 1) ∧ Below w.heap.size w w' := by
  obtain ⟨a, b, c, d⟩ := s
  show Calls Try.prog 7 #[.pointer none, .agg #[.int .i64 a, .int .i64 b, .int .i64 c, .int .i64 d]] w _
  have B := Lib.hid (balloc (brefl w) (.cells #[.int .i64 a, .int .i64 b, .int .i64 c, .int .i64 d] 30))
  go_enter Try.func7, Try.ntmps7
  go_wp2_with fail
  go_ret
  exact ⟨rfl, B.out⟩
set_option maxRecDepth 100000 in
theorem Add_shape (s : Sm) (b : Nat) (w : World) (h : ¬ okSm s) : Calls Try.prog 7 #[.pointer (some ⟨b, 0, none⟩), SV s] w fun e w' => e = .returned (.int .i64 3) ∧ Below w.heap.size w w' := by
  have IR := Lib.hid (fun w => isRight_c s w)
  rw [decide_eq_false h] at IR
  clear h
  obtain ⟨x, y, c, d⟩ := s
  replace IR : Hid (∀ w, Calls Try.prog 13 #[.agg #[.int .i64 x, .int .i64 y, .int .i64 c, .int .i64 d]] w fun e w' => e = .returned (.bool false) ∧ Below w.heap.size w w') := IR
  show Calls Try.prog 7 #[.pointer (some ⟨b, 0, none⟩), .agg #[.int .i64 x, .int .i64 y, .int .i64 c, .int .i64 d]] w _
  have B := Lib.hid (balloc (brefl w) (.cells #[.int .i64 x, .int .i64 y, .int .i64 c, .int .i64 d] 30))
  go_enter Try.func7, Try.ntmps7
  go_wp2_with fail
  refine (IR.out _).mono ?_
  rintro e w1 ⟨rfl, hb⟩
  have B2 := Lib.hid (bstep B.out hb)
  clear hb
  go_wp2_with fail
  go_ret
  exact ⟨rfl, B2.out⟩
set_option maxRecDepth 100000 in
set_option maxHeartbeats 1000000 in
theorem Add_order {w : World} {b : Nat} {t : Sm} {L : List Sm} (h : Fm w b (t :: L)) (s : Sm) (hs : okSm s) (ho : s.at' ≤ t.at') : Calls Try.prog 7 #[.pointer (some ⟨b, 0, none⟩), SV s] w fun e w' => e = .returned (.int .i64 42) ∧ Below w.heap.size w w' := by
  have IR := Lib.hid (fun w => isRight_c s w)
  rw [decide_eq_true hs] at IR
  clear hs
  obtain ⟨x, y, c, d⟩ := s
  replace IR : Hid (∀ w, Calls Try.prog 13 #[.agg #[.int .i64 x, .int .i64 y, .int .i64 c, .int .i64 d]] w fun e w' => e = .returned (.bool true) ∧ Below w.heap.size w w') := IR
  show Calls Try.prog 7 #[.pointer (some ⟨b, 0, none⟩), .agg #[.int .i64 x, .int .i64 y, .int .i64 c, .int .i64 d]] w _
  have B := Lib.hid (balloc (brefl w) (.cells #[.int .i64 x, .int .i64 y, .int .i64 c, .int .i64 d] 30))
  have N := Lib.hid (new4 w x y c d 30)
  have z : decide (0 < (t :: L).length) = true := decide_eq_true (by rw [List.length_cons]; omega)
  have e2 : decide (d ≤ t.at') = true := decide_eq_true ho
  have HF := Lib.hid h
  clear h ho
  generalize hk : (t :: L).length = n at z
  go_enter Try.func7, Try.ntmps7
  go_wp2_with fail
  refine (IR.out _).mono ?_
  rintro e w1 ⟨rfl, hb⟩
  have B2 := Lib.hid (bstep B.out hb)
  have F1 := HF.out.below B2.out
  have h1 := F1.count.1
  have h2 := F1.first
  obtain ⟨x0, x1, x2, x3⟩ := blk4 N.out hb
  rw [hk] at h1
  generalize t.at' = a at *
  clear hb hk F1
  go_upto_region 5 with fail
  go_quiet (fail)
  go_wp2_with fail
  go_ret
  exact ⟨rfl, bdrew B2.out _⟩
end Go.Proofs.Ytmlnmldcjbhhjaa.Fl
