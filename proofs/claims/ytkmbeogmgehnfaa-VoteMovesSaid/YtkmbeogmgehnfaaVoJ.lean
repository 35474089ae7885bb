/-
  Rows of candidates of the call's own; candidates about one time; candidates moved.
  Conditions: none.
-/
import Derived.Test.YtkmbeogmgehnfaaVoI
namespace Go.Proofs.Ytkmbeogmgehnfaa.Vo
open Go.RowKit Go.ChangeShapes Go.WideShapes Go.ChangeAt Go.Joins Fl Hu
set_option linter.unusedVariables false
set_option linter.unusedSimpArgs false

def cd0 : Cd := ⟨0, 0, 0, 0⟩
def rcc (l : List Cd) : List Value := l.flatMap cvs
theorem rcc_app (l k : List Cd) : rcc (l ++ k) = rcc l ++ rcc k := by simp [rcc]
theorem cvs_one (s : Cd) : ∀ u ∈ cvs s, u.oneCell' = true := by
  intro u hu
  simp [cvs] at hu
  rcases hu with rfl | rfl | rfl | rfl <;> rfl
theorem rcc_one (l : List Cd) : ∀ u ∈ rcc l, u.oneCell' = true := by
  intro u hu
  obtain ⟨s, _, h⟩ := List.mem_flatMap.1 hu
  exact cvs_one s u h
theorem rcc_at : ∀ (l : List Cd) (j : Nat) (x : Cd), l[j]? = some x → ∀ i, i < 4 → (rcc l)[j * 4 + i]? = (cvs x)[i]?
  | [], j, x, h => by simp at h
  | y :: r, 0, x, h => fun i hi => by
    simp at h; subst h
    show (cvs y ++ rcc r)[0 * 4 + i]? = _
    rw [Nat.zero_mul, Nat.zero_add, List.getElem?_append_left (by rw [cvs_len]; exact hi)]
  | y :: r, j + 1, x, h => fun i hi => by
    have := rcc_at r j x (by simpa using h) i hi
    show (cvs y ++ rcc r)[(j + 1) * 4 + i]? = _
    rw [List.getElem?_append_right (by rw [cvs_len]; omega), cvs_len, show (j + 1) * 4 + i - 4 = j * 4 + i by omega]
    exact this
/-- a row of spans. -/
def OwnC (w : World) (base : Nat) (v : Value) (l : List Cd) : Prop := w.ownsRow base 44 4 v l.length (rcc l)
theorem OwnC.nil (w : World) (base : Nat) : OwnC w base (.slice none 0 0) [] := World.ownsRow_nil w base _ 4
theorem info_cd3 : (Try.prog.info? 44).map (fun i => (i.zero, i.size, i.bytes)) = some (some (.agg (cvs cd0).toArray), 4, 32) := by kernel_rfl
theorem OwnC.form {w : World} {base : Nat} {v : Value} {l : List Cd} (h : OwnC w base v l) : ∃ a cap, v = .slice a l.length cap := by
  rcases h.2 with ⟨hv, h0⟩ | ⟨g, cap, cur, hv, _⟩
  · exact ⟨none, 0, by rw [hv, h0]⟩
  · exact ⟨_, cap, hv⟩
theorem OwnC.keep {w w' : World} {base : Nat} {v : Value} {l : List Cd} (h : OwnC w base v l) (hk : ∀ g, base ≤ g → g < w.heap.size → w'.heap[g]? = w.heap[g]?) : OwnC w' base v l := by
  refine ⟨h.1, h.2.imp id ?_⟩
  rintro ⟨g, cap, cur, hv, hg, hh, r⟩
  exact ⟨g, cap, cur, hv, hg, (hk g hg (Array.getElem?_eq_some_iff.1 hh).1).trans hh, r⟩
theorem OwnC.below {w w' : World} {base : Nat} {v : Value} {l : List Cd} (h : OwnC w base v l) (q : Below w.heap.size w w') : OwnC w' base v l := h.keep fun g _ hg => q.block g hg
theorem appC {w : World} {base : Nat} {v : Value} {l : List Cd} (h : OwnC w base v l) (x : Cd) (hb : base ≤ w.heap.size) (hn : (l.length + 1) * 32 ≤ 140737488355328) (ty : TypeId) :
    ∃ v' w', (Builtin.append_ #[22, 22] ty #[v, .slice (some ⟨w.heap.size, 0, none⟩) 1 1]).run Try.prog (w.alloc (.cells (cvs x).toArray 44)) = .ok v' w' ∧ OwnC w' base v' (l ++ [x]) ∧ Below base w w' := by
  obtain ⟨i, hi, hz, hs, hby⟩ := info_parts3L info_cd3
  obtain ⟨v', w', hr, ho, hg, _, hob⟩ := run_append_own_at (P := Try.prog) (w.alloc (.cells (cvs x).toArray 44)) base 22 ty 44 i (.agg (cvs cd0).toArray) 4 32 Try.underlying22 hi hz hs hby rfl (by decide) v l.length (rcc l) (World.ownsRow.alloc h _) ⟨w.heap.size, 0, none⟩ 1 1 (cvs x) rfl
    (by
      intro j u hj
      have e : (⟨w.heap.size, 0, none⟩ : Addr).add j = ⟨w.heap.size, j, none⟩ := by unfold Addr.add; split <;> simp_all
      rw [e, World.cell?_alloc_mark w _ _ (0, 0) j]
      simpa using hj) (cvs_one x) (by unfold maxLen; omega) (by omega) (by simp; omega)
  have hB : Below base w (w.alloc (.cells (cvs x).toArray 44)) := (Below.refl base w).alloc hb _
  have hB2 := hB.grown hg (by simp; omega) (fun k hk => (h.lt k hk).1)
  refine ⟨v', w', hr, ?_, hB2⟩
  unfold OwnC
  rw [List.length_append, rcc_app, show rcc [x] = cvs x by simp [rcc]]
  exact ho
/-- a part of a row of the call's own, as a slice. -/
theorem OwnC.drop {w : World} {base : Nat} {v : Value} {l : List Cd} (h : OwnC w base v l) (a cap : Nat) (p : Option Addr) (e : v = .slice p l.length cap) (d : Nat) (hd : d < l.length) : ∃ g, p = some ⟨g, 0, none⟩ ∧ l.length ≤ cap ∧ cap ≤ 9223372036854775807 ∧ Lh w g (d * 4) (l.drop d) := by
  rcases h.2 with ⟨hv, h0⟩ | ⟨g, cap', cur, hv, hb, hh, hc, hm, hcs, ht⟩
  · omega
  · rw [hv] at e
    simp only [Value.slice.injEq] at e
    obtain ⟨rfl, _, rfl⟩ := e
    refine ⟨g, rfl, hc, by unfold maxLen at hm; omega, (Array.getElem?_eq_some_iff.1 hh).1, fun j s hj i u hi => ?_⟩
    rw [List.getElem?_drop] at hj
    have i2 : i < 4 := by have := (List.getElem?_eq_some_iff.1 hi).1; rwa [cvs_len] at this
    have hl := (List.getElem?_eq_some_iff.1 hj).1
    have q := rcc_at l (d + j) s hj i i2
    have hg : w.ownsRow base 44 4 (.slice (some ⟨g, 0, none⟩) l.length cap') l.length (rcc l) := hv ▸ h
    have c := hg.cellAt ((d + j) * 4 + i) (by omega)
    rw [show d * 4 + j * 4 + i = (d + j) * 4 + i by omega, c, q]
    exact hi
theorem OwnC.cs {w : World} {base : Nat} {v : Value} {l : List Cd} (h : OwnC w base v l) : Cs w v l := by
  obtain ⟨p, cap, e⟩ := h.form
  by_cases c : l = []
  · subst c
    rcases h.2 with ⟨hv, h0⟩ | ⟨g, cap', cur, hv, hb, hh, hc, hm, hcs, ht⟩
    · exact ⟨none, 0, hv, by simp, by omega, fun hn => absurd hn (by simp)⟩
    · exact ⟨_, cap', hv, hc, by unfold maxLen at hm; omega, fun hn => absurd hn (by simp)⟩
  · have hp : 0 < l.length := List.length_pos_iff.2 c
    obtain ⟨g, rfl, h1, h2, h3⟩ := h.drop 0 cap p e 0 hp
    rw [Nat.zero_mul, List.drop_zero] at h3
    exact ⟨_, cap, e, h1, h2, fun _ => ⟨g, 0, rfl, h3⟩⟩


/-- a candidate made to hold a time. -/
def agC (t : Int) (c : Cd) : Cd := ⟨t + c.off.tmod 1000, max (t + c.off.tmod 1000 - t) (t - (t + c.off.tmod 1000)) + (c.dist.tmod 1000 + 1000).tmod 1000, 0, 1⟩
theorem tmod_k (a : Int) : -1000 < a.tmod 1000 ∧ a.tmod 1000 < 1000 := by
  have := Int.tmod_lt_of_pos a (show (0 : Int) < 1000 by decide)
  have := Int.lt_tmod_of_pos a (show (0 : Int) < 1000 by decide)
  omega
theorem tmod_r (a : Int) : 0 ≤ (a.tmod 1000 + 1000).tmod 1000 ∧ (a.tmod 1000 + 1000).tmod 1000 < 1000 := by
  have k := tmod_k a
  have := Int.tmod_lt_of_pos (a.tmod 1000 + 1000) (show (0 : Int) < 1000 by decide)
  have := Int.tmod_nonneg 1000 (show 0 ≤ a.tmod 1000 + 1000 by omega)
  omega
theorem agC_in (t : Int) (h1 : -1000000 < t) (h2 : t < 1000000) (c : Cd) : okC (agC t c) ∧ (agC t c).off - (agC t c).dist ≤ t ∧ t ≤ (agC t c).off + (agC t c).dist := by
  have a := tmod_k c.off
  have b := tmod_r c.dist
  unfold agC okC
  simp only
  omega
/-- all of them hold the time, so they hold what lies between the greatest beginning and it. -/
theorem agree {L : List Cd} {t lo hi : Int} (hL : ∀ c ∈ L, (c.off - c.dist ≤ t ∧ t ≤ c.off + c.dist) ∧ c.off - c.dist ≤ lo ∧ hi ≤ c.off + c.dist) (h1 : lo ≤ t) (h2 : t ≤ hi) {m M : Int} (h : IsI L m M) :
    m ≤ lo ∧ hi ≤ M ∧ m ≤ t ∧ t ≤ M ∧ (tru L m M L.length).length = L.length := by
  obtain ⟨a, _, g, _⟩ := h
  have all : ∀ x, (∀ c ∈ L, c.off - c.dist ≤ x ∧ x ≤ c.off + c.dist) → Enough (sps L) a x := fun x hx => by
    unfold Enough cnt
    have : (sps L).countP (has x) = (sps L).length := List.countP_eq_length.2 fun s hs => by
      obtain ⟨c, hc, rfl⟩ := List.mem_map.1 hs
      exact has_iff.2 (hx c hc)
    omega
  have e1 := g.1.2.2 lo (all lo fun c hc => by have := hL c hc; omega)
  have e2 := g.1.2.2 hi (all hi fun c hc => by have := hL c hc; omega)
  have e3 := g.1.2.2 t (all t fun c hc => by have := hL c hc; omega)
  refine ⟨e1.1, e2.2, e3.1, e3.2, ?_⟩
  have tr : ∀ k, k ≤ L.length → (tru L m M k).length = k := fun k => by
    induction k with
    | zero => intro _; rfl
    | succ k ih =>
      intro hk
      have hx := cd_at (L := L) (i := k) (by omega)
      have hc := hL _ (List.mem_of_getElem? hx)
      rw [tru_yes hx (by unfold mt; simp; omega), List.length_append, List.length_singleton, ih (by omega)]
  exact tr _ (Nat.le_refl _)
/-- a candidate moved. -/
def mvC (d : Int) (c : Cd) : Cd := ⟨c.off + d, c.dist, c.jit, c.str⟩
/-- moved as int64 is. -/
def mwC (d : Int) (c : Cd) : Cd := ⟨IntKind.i64.wrap (c.off + d), c.dist, c.jit, c.str⟩
theorem cd_mv {L : List Cd} {d : Int} {i : Nat} (h : i < L.length) : cd (L.map (mvC d)) i = mvC d (cd L i) := by
  unfold cd
  rw [List.getD_eq_getElem?_getD, List.getD_eq_getElem?_getD, List.getElem?_map, List.getElem?_eq_getElem h]
  rfl
theorem sps_mv (L : List Cd) (d : Int) : sps (L.map (mvC d)) = (sps L).map (mv d) := by
  unfold sps
  rw [List.map_map, List.map_map]
  refine List.map_congr_left fun c _ => ?_
  show (⟨c.off + d - c.dist, c.off + d + c.dist⟩ : Sn) = ⟨c.off - c.dist + d, c.off + c.dist + d⟩
  rw [show c.off + d - c.dist = c.off - c.dist + d by omega, show c.off + d + c.dist = c.off + c.dist + d by omega]
theorem outs_mv (L : List Cd) (d m M : Int) : outs (L.map (mvC d)) (m + d) (M + d) = outs L m M := by
  unfold outs
  rw [List.countP_map]
  congr 1
  funext c
  show isOut (m + d) (M + d) (mvC d c) = isOut m M c
  unfold isOut mvC
  apply Bool.eq_iff_iff.2
  simp
theorem good_mv {L : List Cd} {a : Nat} {m M : Int} (h : Good L a m M) (d : Int) : Good (L.map (mvC d)) a (m + d) (M + d) := by
  refine ⟨?_, by rw [outs_mv]; exact h.2⟩
  rw [sps_mv]
  exact hull_mv h.1 d
theorem mv_back (L : List Cd) (d : Int) : (L.map (mvC d)).map (mvC (-d)) = L := by
  rw [List.map_map]
  conv => rhs; rw [← List.map_id L]
  refine List.map_congr_left fun c _ => ?_
  obtain ⟨o, x, j, s⟩ := c
  show (⟨o + d + -d, x, j, s⟩ : Cd) = ⟨o, x, j, s⟩
  rw [show o + d + -d = o by omega]
theorem isI_mv {L : List Cd} {m M : Int} (h : IsI L m M) (d : Int) : IsI (L.map (mvC d)) (m + d) (M + d) := by
  obtain ⟨a, h1, h2, h3⟩ := h
  refine ⟨a, by rw [List.length_map]; exact h1, good_mv h2 d, fun b hb m' M' g => ?_⟩
  have := good_mv g (-d)
  rw [mv_back] at this
  exact h3 b hb _ _ this
theorem tru_mv (L : List Cd) (d m M : Int) : ∀ k, k ≤ L.length → tru (L.map (mvC d)) (m + d) (M + d) k = tru L m M k
  | 0, _ => rfl
  | k + 1, hk => by
    have ih := tru_mv L d m M k (by omega)
    have hx := cd_at (L := L) (i := k) (by omega)
    have hy : (L.map (mvC d))[k]? = some (mvC d (cd L k)) := by rw [List.getElem?_map, hx]; rfl
    have e : mt (m + d) (M + d) (mvC d (cd L k)) = mt m M (cd L k) := by
      unfold mt mvC
      apply Bool.eq_iff_iff.2
      simp
      omega
    cases z : mt m M (cd L k) with
    | true => rw [tru_yes hx z, tru_yes hy (e.trans z), ih]
    | false => rw [tru_no hx z, tru_no hy (e.trans z), ih]
theorem far_shift (a b d : Int) : far (a + d) (b + d) = far a b := far_mv a b d
theorem sj_mv {L : List Cd} {d : Int} {s : List Nat} (hs : ∀ n ∈ s, n < L.length) {n : Nat} (hn : n < L.length) : sj (L.map (mvC d)) s n = sj L s n := by
  unfold sj sF
  rw [cd_mv hn]
  congr 1
  exact sm_congr fun k hk => by
    rw [cd_mv (hs k hk)]
    exact far_mv _ _ _
theorem lj_mv {L : List Cd} {d : Int} : ∀ {s : List Nat}, (∀ n ∈ s, n < L.length) → lj (L.map (mvC d)) s = lj L s
  | [], _ => rfl
  | n :: r, h => by
    show min _ _ = min _ _
    rw [lj_mv (s := r) (fun k hk => h k (List.mem_cons_of_mem _ hk)), cd_mv (h n (List.mem_cons_self ..))]
    rfl
theorem ah_mv {L : List Cd} {d : Int} {i k : Nat} (hi : i < L.length) (hk : k < L.length) : Ah (L.map (mvC d)) i k ↔ Ah L i k := by
  unfold Ah
  rw [cd_mv hi, cd_mv hk]
  exact Iff.rfl
theorem srt_mv {L : List Cd} {d : Int} {N T : List Nat} (hN : ∀ n ∈ N, n < L.length) (h : Srt L N T) : Srt (L.map (mvC d)) N T :=
  ⟨h.1, List.Pairwise.imp_of_mem (fun {a b} ha hb q => (ah_mv (hN a (h.1.mem_iff.1 ha)) (hN b (h.1.mem_iff.1 hb))).2 q) h.2⟩
theorem isW_mv {L : List Cd} {d : Int} {s : List Nat} (hs : ∀ n ∈ s, n < L.length) {w : Nat} (h : IsW L s w) : IsW (L.map (mvC d)) s w := by
  obtain ⟨n, h1, h2, h3⟩ := h
  have e : ∀ (i y : Nat), s[i]? = some y → sj (L.map (mvC d)) s y = sj L s y := fun i y hy => sj_mv hs (hs y (List.mem_of_getElem? hy))
  refine ⟨n, h1, fun i y hy => ?_, fun i y hi hy => ?_⟩
  · rw [e i y hy, e w n h1]; exact h2 i y hy
  · rw [e i y hy, e w n h1]; exact h3 i y hi hy
theorem red_mv {L : List Cd} {d : Int} {s t : List Nat} (h : Red L s t) : (∀ n ∈ s, n < L.length) → Red (L.map (mvC d)) s t := by
  induction h with
  | few h => intro _; exact .few h
  | calm h hw hn hl => intro hs; exact .calm h (isW_mv hs hw) hn (by rw [sj_mv hs (hs _ (List.mem_of_getElem? hn)), lj_mv hs]; exact hl)
  | out h hw hn hl _ ih =>
    intro hs
    exact .out h (isW_mv hs hw) hn (by rw [sj_mv hs (hs _ (List.mem_of_getElem? hn)), lj_mv hs]; exact hl) (ih fun n hn => hs n ((List.eraseIdx_sublist ..).subset hn))
theorem surv_mv {L : List Cd} {d : Int} {N T : List Nat} (hN : ∀ n ∈ N, n < L.length) (h : Surv L N T) : Surv (L.map (mvC d)) N T := by
  obtain ⟨s, h1, h2⟩ := h
  exact ⟨s, srt_mv hN h1, red_mv h2 fun n hn => hN n (h1.1.mem_iff.1 hn)⟩
/-- moved candidates say the same together, moved. -/
theorem co_mv {L : List Cd} (ok : okL L) {d : Int} {N : List Nat} (hN : ∀ n ∈ N, n < L.length) (hne : N ≠ []) : coT (L.map (mvC d)) N = coT L N + d ∧ coJ (L.map (mvC d)) N = coJ L N := by
  have np : 0 < N.length := List.length_pos_iff.2 hne
  have wm : ∀ n ∈ N, wt (cd (L.map (mvC d)) n) = wt (cd L n) := fun n hn => by rw [cd_mv (hN n hn)]; rfl
  have eA : cAll (L.map (mvC d)) N = cAll L N := sm_congr wm
  have eS : cSum (L.map (mvC d)) N = cSum L N + cAll L N * d := by
    unfold cSum cAll
    rw [← sm_mul, ← sm_add]
    exact sm_congr fun n hn => by
      rw [wm n hn, cd_mv (hN n hn)]
      show wt (cd L n) * ((cd L n).off + d) = _
      rw [Int.mul_add]
  have mem0 : N.getD 0 0 ∈ N := by
    rw [List.getD_eq_getElem?_getD, List.getElem?_eq_getElem np]
    exact List.getElem_mem _
  have eD : cDev (L.map (mvC d)) (cd (L.map (mvC d)) (N.getD 0 0)).off N = cDev L (cd L (N.getD 0 0)).off N := by
    unfold cDev
    exact sm_congr fun n hn => by
      rw [wm n hn, cd_mv (hN n hn), cd_mv (hN _ mem0)]
      show _ * far ((cd L n).off + d) ((cd L (N.getD 0 0)).off + d) = _
      rw [far_mv]
  have b := co_bd ok (cd_ok ok (hN _ mem0)).1 hN
  unfold coT coJ
  rw [eA, eS, eD]
  refine ⟨?_, rfl⟩
  rw [Int.add_mul_ediv_left _ _ (by omega)]
theorem okL_mv {L : List Cd} {d : Int} (h1 : -1000000 < d) (h2 : d < 1000000) (hf : ∀ c ∈ L, -34359738368 ≤ c.off ∧ c.off ≤ 34359738368) : (okL (L.map (mvC d)) ↔ okL L) ∧ L.map (mwC d) = L.map (mvC d) := by
  refine ⟨?_, List.map_congr_left fun c hc => ?_⟩
  · unfold okL
    rw [List.length_map]
    refine ⟨fun q => ⟨fun c hc => ?_, q.2⟩, fun q => ⟨fun c' hc' => ?_, q.2⟩⟩
    · have := q.1 _ (List.mem_map_of_mem hc)
      have := hf c hc
      unfold okC mvC at *
      simp only at *
      omega
    · obtain ⟨c, hc, rfl⟩ := List.mem_map.1 hc'
      have := q.1 _ hc
      have := hf c hc
      unfold okC mvC at *
      simp only at *
      omega
  · have := hf c hc
    unfold mwC mvC
    rw [wrap_in (by omega) (by omega)]
end Go.Proofs.Ytkmbeogmgehnfaa.Vo
