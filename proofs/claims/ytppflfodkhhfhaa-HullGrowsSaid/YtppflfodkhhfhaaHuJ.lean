/-
  Spans appended to rows of the call's own, one by one or as they lie in memory; where nothing else is touched.
  Conditions: none.
-/
import Derived.Test.YtppflfodkhhfhaaHuF
namespace Go.Proofs.Ytppflfodkhhfhaa.Hu
open Go.RowKit Go.ChangeShapes Go.WideShapes Go.ChangeAt Go.Joins Fl
set_option linter.unusedVariables false
set_option linter.unusedSimpArgs false

/-- a row's block alone is touched, or new ones. -/
def Gw (w : World) (v : Value) (w' : World) (v' : Value) : Prop := w.heap.size ≤ w'.heap.size ∧ (∀ k, k < w.heap.size → v.ownBlock ≠ some k → w'.heap[k]? = w.heap[k]?) ∧ ∀ k, v'.ownBlock = some k → v.ownBlock = some k ∨ w.heap.size ≤ k
theorem Gw.blk {w w' : World} {v v' : Value} (h : Gw w v w' v') {b : Nat} {vs : List Value} (B : Blk w b vs) (hv : v.ownBlock ≠ some b) : Blk w' b vs := by
  have e := h.2.1 b B.1 hv
  refine ⟨Nat.lt_of_lt_of_le B.1 h.1, fun i x hx => ?_⟩
  obtain ⟨h1, h2⟩ := B.2 i x hx
  unfold World.cell? World.frozen? at *
  rw [e]
  exact ⟨h1, h2⟩
theorem Gw.not {w w' : World} {v v' : Value} (h : Gw w v w' v') {b : Nat} (hb : b < w.heap.size) (hv : v.ownBlock ≠ some b) : v'.ownBlock ≠ some b := fun e => by
  rcases h.2.2 b e with q | q
  · exact hv q
  · omega
theorem rcn_len : ∀ L : List Sn, (rcn L).length = L.length * 2
  | [] => rfl
  | x :: r => by
    show (nvs x ++ rcn r).length = _
    rw [List.length_append, rcn_len r, nvs_len, List.length_cons]
    omega
theorem appM {w : World} {base : Nat} {v : Value} {l : List Sn} (h : OwnN w base v l) (M : List Sn) (ad : Addr) (c : Nat) (hc : ∀ j u, (rcn M)[j]? = some u → w.cell? (ad.add j) = some u)
    (hb : base ≤ w.heap.size) (hn : (l.length + M.length) * 16 ≤ 140737488355328) (ty : TypeId) :
    ∃ v' w', (Builtin.append_ #[22, 22] ty #[v, .slice (some ad) M.length c]).run Try.prog w = .ok v' w' ∧ OwnN w' base v' (l ++ M) ∧ Below base w w' ∧ Gw w v w' v' := by
  obtain ⟨i, hi, hz, hs, hby⟩ := info_parts3L info_sn3
  obtain ⟨v', w', hr, ho, hg, _, hob⟩ := run_append_own_at (P := Try.prog) w base 22 ty 25 i (.agg (nvs sn0).toArray) 2 16 Try.underlying22 hi hz hs hby rfl (by decide) v l.length (rcn l) h ad M.length c (rcn M) (rcn_len M) hc (rcn_one M) (by unfold maxLen; omega) (by omega) hb
  have hB := (Below.refl base w).grown hg hb (fun k hk => (h.lt k hk).1)
  obtain ⟨_, _, _, hsz, hk⟩ := hg
  refine ⟨v', w', hr, ?_, hB, hsz, fun k h1 h2 => hk k h1 (Ne.symm h2), fun k e => ?_⟩
  · unfold OwnN
    rw [rcn_app, List.length_append]
    exact ho
  · rcases hob with q | q
    · exact .inl (q ▸ e)
    · rw [q] at e
      simp at e
      exact .inr (by omega)
theorem ownN0 (w : World) (base : Nat) (hb : base ≤ w.heap.size) : OwnN (w.alloc (.cells #[] 25)) base (.slice (some ⟨w.heap.size, 0, none⟩) 0 0) [] :=
  ⟨rfl, .inr ⟨w.heap.size, 0, _, rfl, hb, heap_alloc_new w _, Nat.le_refl _, by unfold maxLen; omega, rfl, rfl⟩⟩
theorem ownN1 (w : World) (base : Nat) (hb : base ≤ w.heap.size) (s : Sn) : OwnN (w.alloc (.cells #[.int .i64 s.lo, .int .i64 s.hi] 25)) base (.slice (some ⟨w.heap.size, 0, none⟩) 1 1) [s] :=
  ⟨rfl, .inr ⟨w.heap.size, 1, _, rfl, hb, heap_alloc_new w _, Nat.le_refl _, by unfold maxLen; omega, rfl, rfl⟩⟩
/-- the cells of spans in memory, one behind another. -/
theorem lh_cells {w : World} {b off : Nat} {L : List Sn} (h : Lh w b off L) : ∀ j u, (rcn L)[j]? = some u → w.cell? ((⟨b, off, none⟩ : Addr).add j) = some u := by
  intro j u hj
  have hl := (List.getElem?_eq_some_iff.1 hj).1
  rw [rcn_len] at hl
  obtain ⟨x, hx⟩ : ∃ x, L[j / 2]? = some x := ⟨_, List.getElem?_eq_getElem (by omega)⟩
  have q := rcn_at L (j / 2) x hx (j % 2) (by omega)
  rw [show j / 2 * 2 + j % 2 = j by omega, hj] at q
  have c := h.2 (j / 2) x hx (j % 2) u q.symm
  rw [add_plain]
  rw [show off + j / 2 * 2 + j % 2 = off + j by omega] at c
  exact c
theorem blk_cells {w : World} {b : Nat} {s : Sn} (h : Blk w b (nvs s)) : ∀ j u, (rcn [s])[j]? = some u → w.cell? ((⟨b, 0, none⟩ : Addr).add j) = some u := by
  intro j u hj
  rw [add_plain, Nat.zero_add]
  exact (h.2 j u (by simpa [rcn] using hj)).1
theorem step_append_eqN {P : Program} {w : World} {ops : Array Oper} {o : Oper} {a : Act} {K : Act → World → Prop} {Q : Exit → Act → World → Prop} {E : Prop} (hgd : o.guard = none) (s x : Operand) (t : TypeId)
    (ho : o.op = .call { callee := .builtin .append, args := #[s, x], argTypes := #[t, t] }) (v xv v' : Value) (w' : World) (hs : a.eval s = v) (hx : a.eval x = xv)
    (hr : (Builtin.append_ #[t, t] o.type #[v, xv]).run P w = .ok v' w') (h : K (a.put o.dst v') w') :
    if Region.wanted o (yielded ops a.tmps) = true then Oper.wp P o a w K Q else E := by
  have hw : Region.wanted o (yielded ops a.tmps) = true := by simp [Region.wanted, hgd]
  rw [if_pos hw]
  unfold Oper.wp execOp
  simp only [ho, resolve, invoke, builtin, Sem.run_bind, Sem.run_pure, Result.andThen_ok, List.map_toArray, List.map_cons, List.map_nil, hs, hx, hr]
  exact h
/-- what Hull answers where there is a hull: with a greater budget; with the hull itself as one more; with all times as one more. -/
def Grown (L : List Sn) (g : Nat) (m M : Int) : Prop := ∃ a b e : Int, huA L ((g : Int) + 1) = ((a, b), e) ∧ ((e = 0 ∧ a ≤ m ∧ M ≤ b) ∨ e = 61)
theorem huA_zero {L : List Sn} {g : Nat} {a b : Int} (h : huA L (g : Int) = ((a, b), 0)) : okL L ∧ g < L.length ∧ Hull L g a b := by
  by_cases ok : okL L
  · by_cases gl : g < L.length
    · cases hv : huV L g with
      | none => rw [huA_none ok gl (huV_nil gl hv)] at h; simp at h
      | some p =>
        obtain ⟨m, M⟩ := p
        have H := huV_hull hv
        rw [huA_some ok gl H] at h
        simp only [Prod.mk.injEq, and_true] at h
        obtain ⟨rfl, rfl⟩ := h
        exact ⟨ok, gl, H⟩
    · rw [huA_bound ok (by omega) (by omega)] at h; simp at h
  · rw [huA_shape ok] at h; simp at h
theorem huA_not {L : List Sn} {f a b e : Int} (h : huA L f = ((a, b), e)) (he : e ≠ 0) : a = 0 ∧ b = 0 := by
  by_cases ok : okL L
  · by_cases fn : f < 0
    · rw [huA_range ok fn] at h; simp at h; exact ⟨h.1.1.symm, h.1.2.symm⟩
    · by_cases fl : (L.length : Int) ≤ f
      · rw [huA_bound ok fn fl] at h; simp at h; exact ⟨h.1.1.symm, h.1.2.symm⟩
      · obtain ⟨g, rfl⟩ := Int.eq_ofNat_of_zero_le (show 0 ≤ f by omega)
        have gl : g < L.length := by omega
        cases hv : huV L g with
        | none => rw [huA_none ok gl (huV_nil gl hv)] at h; simp at h; exact ⟨h.1.1.symm, h.1.2.symm⟩
        | some p =>
          obtain ⟨m, M⟩ := p
          rw [huA_some ok gl (huV_hull hv)] at h
          simp at h
          omega
  · rw [huA_shape ok] at h; simp at h; exact ⟨h.1.1.symm, h.1.2.symm⟩
theorem grown {L : List Sn} {g : Nat} {m M : Int} (ok : okL L) (gl : g < L.length) (H : Hull L g m M) : Grown L g m M := by
  unfold Grown
  rw [show ((g : Int) + 1) = ((g + 1 : Nat) : Int) by omega]
  by_cases c : g + 1 < L.length
  · obtain ⟨m', M', H'⟩ := hull_some c (H.1.more (Nat.le_succ g))
    have q := hull_grows H H' (Nat.le_succ g)
    exact ⟨m', M', 0, huA_some ok c H', .inl ⟨rfl, q.1, q.2⟩⟩
  · exact ⟨0, 0, 61, huA_bound ok (by omega) (by omega), .inr rfl⟩
theorem same_hull {L : List Sn} {g : Nat} {m M : Int} (ok : okL L) (gl : g < L.length) (H : Hull L g m M) (n32 : L.length < 32) : huA (L ++ [⟨m, M⟩]) (g : Int) = ((m, M), 0) := by
  have f1 := enough_far ok.1 gl H.1
  have f2 := enough_far ok.1 gl H.2.1
  have le := H.le
  refine huA_some ⟨fun s hs => ?_, by rw [List.length_append, List.length_singleton]; omega⟩ (by rw [List.length_append, List.length_singleton]; omega) (hull_same H)
  rcases List.mem_append.1 hs with hs | hs
  · exact ok.1 s hs
  · rw [List.mem_singleton.1 hs]
    exact ⟨le, f1.1, f2.2⟩
theorem wide_hull {L : List Sn} {g : Nat} {m M : Int} (ok : okL L) (gl : g < L.length) (H : Hull L g m M) (n32 : L.length < 32) : huA ([⟨-2305843009213693952, 2305843009213693952⟩] ++ L) (g : Int) = ((m, M), 0) := by
  have f1 := enough_far ok.1 gl H.1
  have f2 := enough_far ok.1 gl H.2.1
  refine huA_some ⟨fun s hs => ?_, by rw [List.length_append, List.length_singleton]; omega⟩ (by rw [List.length_append, List.length_singleton]; omega) (hull_wide H (s := ⟨-2305843009213693952, 2305843009213693952⟩) f1.1 f2.2)
  rcases List.mem_append.1 hs with hs | hs
  · rw [List.mem_singleton.1 hs]
    decide
  · exact ok.1 s hs
/-- both ends are held enough. -/
theorem ends_held {L : List Sn} {g : Nat} {m M : Int} (ok : okL L) (gl : g < L.length) (H : Hull L g m M) :
    (∃ n : Nat, heE L m = .returned (.tuple #[.int .i64 (n : Nat), .int .i64 0]) ∧ L.length ≤ n + g ∧ n ≤ L.length) ∧ ∃ n : Nat, heE L M = .returned (.tuple #[.int .i64 (n : Nat), .int .i64 0]) ∧ L.length ≤ n + g ∧ n ≤ L.length := by
  have f1 := enough_far ok.1 gl H.1
  have f2 := enough_far ok.1 gl H.2.1
  have z : ∀ t, okT t → heE L t = .returned (.tuple #[.int .i64 (cnt L t : Nat), .int .i64 0]) := fun t k => by unfold heE; rw [if_pos ⟨ok, k⟩, if_pos ok, if_pos k]
  exact ⟨⟨_, z m f1, H.1, cnt_le _ _⟩, ⟨_, z M f2, H.2.1, cnt_le _ _⟩⟩
end Go.Proofs.Ytppflfodkhhfhaa.Hu
