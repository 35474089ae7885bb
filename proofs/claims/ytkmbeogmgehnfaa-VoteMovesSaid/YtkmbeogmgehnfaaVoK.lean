/-
  Votes moved: the answers of both lists; numbers appended to a row of the call's own, and its beginning.
  Conditions: none.
-/
import Derived.Test.YtkmbeogmgehnfaaVoJ
namespace Go.Proofs.Ytkmbeogmgehnfaa.Vo
open Go.RowKit Go.ChangeShapes Go.WideShapes Go.ChangeAt Go.Joins Fl Hu
set_option linter.unusedVariables false
set_option linter.unusedSimpArgs false

theorem chE_mv {L : List Cd} {d : Int} (hok : okL (L.map (mvC d)) ↔ okL L) (S : List Int) : chE (L.map (mvC d)) S = chE L S := by
  unfold chE
  rw [List.length_map]
  by_cases ok : okL L
  · rw [if_pos ok, if_pos (hok.2 ok)]
  · rw [if_neg ok, if_neg (fun q => ok (hok.1 q))]
theorem clE_mv {L : List Cd} {d : Int} (hok : okL (L.map (mvC d)) ↔ okL L) (S : List Int) : clE (L.map (mvC d)) S = clE L S := by
  unfold clE
  rw [chE_mv hok]
theorem IsI.far {L : List Cd} (ok : okL L) {m M : Int} (h : IsI L m M) : (-137438953472 ≤ m ∧ m ≤ 137438953472) ∧ -137438953472 ≤ M ∧ M ≤ 137438953472 := by
  obtain ⟨a, h1, g, _⟩ := h
  have ha : a < (sps L).length := by rw [sps_len]; omega
  have bd : ∀ t, Enough (sps L) a t → -137438953472 ≤ t ∧ t ≤ 137438953472 := fun t q => by
    obtain ⟨s, hs, p1, _⟩ := low_of ha q
    obtain ⟨s', hs', p2, _⟩ := high_of ha q
    obtain ⟨c, hc, rfl⟩ := List.mem_map.1 hs
    obtain ⟨c', hc', rfl⟩ := List.mem_map.1 hs'
    have k1 := sp_in (ok.1 c hc)
    have k2 := sp_in (ok.1 c' hc')
    have p1' : c.off - c.dist ≤ t := p1
    have p2' : t ≤ c'.off + c'.dist := p2
    omega
  exact ⟨bd m g.1.1, bd M g.1.2.1⟩
/-- the answers of both lists. -/
theorem inA_mv {L : List Cd} {d : Int} (hok : okL (L.map (mvC d)) ↔ okL L) :
    (∃ e, e ≠ 0 ∧ inA L = (((0, 0), []), e) ∧ inA (L.map (mvC d)) = (((0, 0), []), e)) ∨
    ∃ m M T, okL L ∧ inA L = (((m, M), T), 0) ∧ inA (L.map (mvC d)) = (((m + d, M + d), T), 0) ∧ T = tru L m M L.length ∧ (-137438953472 ≤ m ∧ m ≤ 137438953472) ∧ -137438953472 ≤ M ∧ M ≤ 137438953472 := by
  rcases inA_cases L with ⟨nk, hA⟩ | ⟨ok, hA⟩ | ⟨m, M, ok, IS, hA⟩
  · exact .inl ⟨3, by decide, hA, inA_shape (fun q => nk (hok.1 q))⟩
  · refine .inl ⟨5, by decide, hA, ?_⟩
    rcases inA_cases (L.map (mvC d)) with ⟨nk, hB⟩ | ⟨_, hB⟩ | ⟨m, M, _, IS, hB⟩
    · exact absurd (hok.2 ok) nk
    · exact hB
    · have q := isI_mv IS (-d)
      rw [mv_back] at q
      rw [inA_some ok q] at hA
      simp at hA
  · refine .inr ⟨m, M, _, ok, hA, ?_, rfl, IS.far ok⟩
    rw [inA_some (hok.2 ok) (isI_mv IS d), List.length_map, tru_mv _ _ _ _ _ (Nat.le_refl _)]
theorem KP_mv {L : List Cd} {d : Int} (hok : okL (L.map (mvC d)) ↔ okL L) {S : List Int} {T T' : List Nat} (h : (clE L S ≠ 0 → T = []) ∧ (clE L S = 0 → ∀ N, S = ints N → Surv L N T)) (k : (clE (L.map (mvC d)) S ≠ 0 → T' = []) ∧ (clE (L.map (mvC d)) S = 0 → ∀ N, S = ints N → Surv (L.map (mvC d)) N T')) :
    T = T' ∧ T.length ≤ 32 ∧ (T = [] ∨ (okL L ∧ (∀ n ∈ T, n < L.length) ∧ T.Nodup)) := by
  rw [clE_mv hok] at k
  by_cases z : clE L S = 0
  · obtain ⟨ok, N, rfl, hN, nd⟩ := chE_ok (clE_zero z).1
    have a := h.2 z N rfl
    obtain ⟨s1, s2, s3, s4⟩ := a.sub nd
    exact ⟨(surv_mv hN a).one (k.2 z N rfl), Nat.le_trans s4 (Nat.le_trans (nodup_le hN nd) ok.2), .inr ⟨ok, fun n hn => hN n (s1 n hn), s2⟩⟩
  · rw [h.1 z, k.1 z]
    exact ⟨rfl, by simp, .inl rfl⟩
theorem co_pair {L : List Cd} {d : Int} (hok : okL (L.map (mvC d)) ↔ okL L) {A : List Nat} (h : A = [] ∨ (okL L ∧ (∀ n ∈ A, n < L.length) ∧ A.Nodup)) :
    ∃ x j e : Int, coE L (ints A) = .returned (.tuple #[.int .i64 x, .int .i64 j, .int .i64 e]) ∧ ((e ≠ 0 ∧ ∃ y k : Int, coE (L.map (mvC d)) (ints A) = .returned (.tuple #[.int .i64 y, .int .i64 k, .int .i64 e])) ∨
      (e = 0 ∧ -68719476736 ≤ x ∧ x ≤ 68719476736 ∧ coE (L.map (mvC d)) (ints A) = .returned (.tuple #[.int .i64 (x + d), .int .i64 j, .int .i64 0]))) := by
  by_cases e0 : A = []
  · subst e0
    have q := chE_mv hok []
    by_cases z : chE L [] = 0
    · exact ⟨0, 0, 5, coE_none z, .inl ⟨by decide, 0, 0, coE_none (q.trans z)⟩⟩
    · refine ⟨0, 0, _, coE_bad (S := []) z, .inl ⟨z, 0, 0, ?_⟩⟩
      have := coE_bad (L := L.map (mvC d)) (S := []) (fun p => z (q.symm.trans p))
      rw [q] at this
      exact this
  · obtain ⟨ok, hN, nd⟩ := h.resolve_left e0
    have np : 0 < A.length := List.length_pos_iff.2 e0
    have mem0 : A.getD 0 0 ∈ A := by
      rw [List.getD_eq_getElem?_getD, List.getElem?_eq_getElem np]
      exact List.getElem_mem _
    have b := co_bd ok (cd_ok ok (hN _ mem0)).1 hN
    have mean := co_mean (L := L) (N := A) (lo := -68719476736) (hi := 68719476736) (by omega) (fun n hn => by have := wt_in (cd_ok ok (hN n hn)); omega) (fun n hn => (cd_ok ok (hN n hn)).1)
    obtain ⟨c1, c2⟩ := co_mv ok (d := d) hN e0
    refine ⟨coT L A, coJ L A, 0, coE_ok (chE_ints ok hN nd) e0, .inr ⟨rfl, mean.1, mean.2, ?_⟩⟩
    have := coE_ok (L := L.map (mvC d)) (N := A) ((chE_mv hok _).trans (chE_ints ok hN nd)) e0
    rw [c1, c2] at this
    exact this
theorem ownI0 (w : World) (base : Nat) (hb : base ≤ w.heap.size) : OwnI (w.alloc (.cells #[] 3)) base (.slice (some ⟨w.heap.size, 0, none⟩) 0 0) [] :=
  ⟨rfl, .inr ⟨w.heap.size, 0, _, rfl, hb, heap_alloc_new w _, Nat.le_refl _, by unfold maxLen; omega, rfl, rfl⟩⟩
theorem appOwn {w : World} {base b2 : Nat} {v sv : Value} {l A : List Int} (h : OwnI w base v l) (hs : OwnI w b2 sv A) (hb : base ≤ w.heap.size) (hn : (l.length + A.length) * 8 ≤ 140737488355328) (ty : TypeId) :
    ∃ v' w', (Builtin.append_ #[23, 23] ty #[v, sv]).run Try.prog w = .ok v' w' ∧ OwnI w' base v' (l ++ A) ∧ Below base w w' := by
  obtain ⟨i, hi, hz, hsz, hby⟩ := info_parts3L info_int
  rcases hs.2 with ⟨hv, h0⟩ | ⟨g, cap, cur, hv, hb2, hh, hc, hm, hcs, ht⟩
  · have e : A = [] := List.length_eq_zero_iff.1 h0
    subst e hv
    exact ⟨v, w, run_append_owned_none (P := Try.prog) w base 23 ty 3 i 1 Try.underlying23 hi v l.length (ct l) h, by rw [List.append_nil]; exact h, Below.refl base w⟩
  · subst hv
    obtain ⟨v', w', hr, ho, hg, _, _⟩ := run_append_own_at (P := Try.prog) w base 23 ty 3 i (.int .i64 0) 1 8 Try.underlying23 hi hz hsz hby rfl (by decide) v l.length (ct l) h ⟨g, 0, none⟩ A.length cap (ct A) (by simp [ct])
      (by
        intro j u hj
        have hl : j < A.length := by have := (List.getElem?_eq_some_iff.1 hj).1; simpa [ct] using this
        obtain ⟨x, hx⟩ : ∃ x, A[j]? = some x := ⟨_, List.getElem?_eq_getElem hl⟩
        have c := (hs.cell rfl hx).1
        have q := ct_at A j x hx
        rw [hj] at q
        cases q
        rw [add_plain, Nat.zero_add]
        exact c) (ct_one _) (by unfold maxLen; omega) (by omega) hb
    refine ⟨v', w', hr, ?_, (Below.refl base w).grown hg hb h.block⟩
    unfold OwnI
    rw [ct_app, List.length_append]
    exact ho
/-- the beginning of a row, as a slice. -/
theorem OwnI.front {w : World} {base g n cap : Nat} {l : List Int} (h : OwnI w base (.slice (some ⟨g, 0, none⟩) n cap) l) (e : l.length = n) (hg : g < w.heap.size) (hn : n ≤ cap) (hc : cap ≤ 9223372036854775807) {k : Nat} (hk : k ≤ n) : Is w (.slice (some ⟨g, 0, none⟩) k cap) (l.take k) := by
  have lk : (l.take k).length = k := by rw [List.length_take]; omega
  refine ⟨_, cap, by rw [lk], by rw [lk]; omega, hc, fun _ => ⟨g, 0, rfl, hg, fun j x hj => ?_⟩⟩
  have hj' : j < k := by have := (List.getElem?_eq_some_iff.1 hj).1; omega
  rw [List.getElem?_take, if_pos hj'] at hj
  rw [Nat.zero_add]
  exact (h.cell e hj).1
end Go.Proofs.Ytkmbeogmgehnfaa.Vo
