/-
  Rows of samples of the call's own; the samples that were taken, and the last eight of them.
  Conditions: none.
-/
import Derived.Test.YtmlnmldcjbhhjaaFlK
namespace Go.Proofs.Ytmlnmldcjbhhjaa.Fl
open Go.RowKit Go.ChangeShapes Go.WideShapes Go.ChangeAt Go.Joins
set_option linter.unusedVariables false
set_option linter.unusedSimpArgs false

def rcm (l : List Sm) : List Value := l.flatMap svs
theorem rcm_app (l k : List Sm) : rcm (l ++ k) = rcm l ++ rcm k := by simp [rcm]
theorem svs_one (s : Sm) : ∀ u ∈ svs s, u.oneCell' = true := by
  intro u hu
  simp [svs] at hu
  rcases hu with rfl | rfl | rfl | rfl <;> rfl
theorem rcm_one (l : List Sm) : ∀ u ∈ rcm l, u.oneCell' = true := by
  intro u hu
  obtain ⟨s, _, h⟩ := List.mem_flatMap.1 hu
  exact svs_one s u h
theorem rcm_at : ∀ (l : List Sm) (j : Nat) (x : Sm), l[j]? = some x → ∀ i, i < 4 → (rcm l)[j * 4 + i]? = (svs x)[i]?
  | [], j, x, h => by simp at h
  | y :: r, 0, x, h => fun i hi => by
    simp at h; subst h
    show (svs y ++ rcm r)[0 * 4 + i]? = _
    rw [Nat.zero_mul, Nat.zero_add, List.getElem?_append_left (by rw [svs_len]; exact hi)]
  | y :: r, j + 1, x, h => fun i hi => by
    have := rcm_at r j x (by simpa using h) i hi
    show (svs y ++ rcm r)[(j + 1) * 4 + i]? = _
    rw [List.getElem?_append_right (by rw [svs_len]; omega), svs_len, show (j + 1) * 4 + i - 4 = j * 4 + i by omega]
    exact this
/-- a row of samples. -/
def OwnM (w : World) (base : Nat) (v : Value) (l : List Sm) : Prop := w.ownsRow base 30 4 v l.length (rcm l)
theorem OwnM.nil (w : World) (base : Nat) : OwnM w base (.slice none 0 0) [] := World.ownsRow_nil w base _ 4
theorem info_sm3 : (Try.prog.info? 30).map (fun i => (i.zero, i.size, i.bytes)) = some (some (.agg (svs sm0).toArray), 4, 32) := by kernel_rfl
theorem OwnM.form {w : World} {base : Nat} {v : Value} {l : List Sm} (h : OwnM w base v l) : ∃ a cap, v = .slice a l.length cap := by
  rcases h.2 with ⟨hv, h0⟩ | ⟨g, cap, cur, hv, _⟩
  · exact ⟨none, 0, by rw [hv, h0]⟩
  · exact ⟨_, cap, hv⟩
theorem OwnM.keep {w w' : World} {base : Nat} {v : Value} {l : List Sm} (h : OwnM w base v l) (hk : ∀ g, base ≤ g → g < w.heap.size → w'.heap[g]? = w.heap[g]?) : OwnM w' base v l := by
  refine ⟨h.1, h.2.imp id ?_⟩
  rintro ⟨g, cap, cur, hv, hg, hh, r⟩
  exact ⟨g, cap, cur, hv, hg, (hk g hg (Array.getElem?_eq_some_iff.1 hh).1).trans hh, r⟩
theorem OwnM.below {w w' : World} {base : Nat} {v : Value} {l : List Sm} (h : OwnM w base v l) (q : Below w.heap.size w w') : OwnM w' base v l := h.keep fun g _ hg => q.block g hg
theorem OwnM.tu {w w' : World} {base F : Nat} {v : Value} {l : List Sm} (h : OwnM w base v l) (q : Tu (Td F) w w') (hF : F < base) : OwnM w' base v l :=
  h.keep fun g h1 h2 => q.block g h2 (fun e => by have : g = F := e; omega)
theorem appM {w : World} {base : Nat} {v : Value} {l : List Sm} (h : OwnM w base v l) (x : Sm) (hb : base ≤ w.heap.size) (hn : (l.length + 1) * 32 ≤ 140737488355328) (ty : TypeId) :
    ∃ v' w', (Builtin.append_ #[22, 22] ty #[v, .slice (some ⟨w.heap.size, 0, none⟩) 1 1]).run Try.prog (w.alloc (.cells (svs x).toArray 30)) = .ok v' w' ∧ OwnM w' base v' (l ++ [x]) ∧ Below base w w' := by
  obtain ⟨i, hi, hz, hs, hby⟩ := info_parts3L info_sm3
  obtain ⟨v', w', hr, ho, hg, _, hob⟩ := run_append_own_at (P := Try.prog) (w.alloc (.cells (svs x).toArray 30)) base 22 ty 30 i (.agg (svs sm0).toArray) 4 32 Try.underlying22 hi hz hs hby rfl (by decide) v l.length (rcm l) (World.ownsRow.alloc h _) ⟨w.heap.size, 0, none⟩ 1 1 (svs x) rfl
    (by
      intro j u hj
      have e : (⟨w.heap.size, 0, none⟩ : Addr).add j = ⟨w.heap.size, j, none⟩ := by unfold Addr.add; split <;> simp_all
      rw [e, World.cell?_alloc_mark w _ _ (0, 0) j]
      simpa using hj) (svs_one x) (by unfold maxLen; omega) (by omega) (by simp; omega)
  have hB : Below base w (w.alloc (.cells (svs x).toArray 30)) := (Below.refl base w).alloc hb _
  have hB2 := hB.grown hg (by simp; omega) (fun k hk => (h.lt k hk).1)
  refine ⟨v', w', hr, ?_, hB2⟩
  unfold OwnM
  rw [List.length_append, rcm_app, show rcm [x] = svs x by simp [rcm]]
  exact ho
/-- a part of a row of the call's own, as a slice. -/
theorem OwnM.drop {w : World} {base : Nat} {v : Value} {l : List Sm} (h : OwnM w base v l) (a cap : Nat) (p : Option Addr) (e : v = .slice p l.length cap) (d : Nat) (hd : d < l.length) : ∃ g, p = some ⟨g, 0, none⟩ ∧ l.length ≤ cap ∧ cap ≤ 9223372036854775807 ∧ Ls w g (d * 4) (l.drop d) := by
  rcases h.2 with ⟨hv, h0⟩ | ⟨g, cap', cur, hv, hb, hh, hc, hm, hcs, ht⟩
  · omega
  · rw [hv] at e
    simp only [Value.slice.injEq] at e
    obtain ⟨rfl, _, rfl⟩ := e
    refine ⟨g, rfl, hc, by unfold maxLen at hm; omega, (Array.getElem?_eq_some_iff.1 hh).1, fun j s hj i u hi => ?_⟩
    rw [List.getElem?_drop] at hj
    have i4 : i < 4 := by have := (List.getElem?_eq_some_iff.1 hi).1; rwa [svs_len] at this
    have hl := (List.getElem?_eq_some_iff.1 hj).1
    have q := rcm_at l (d + j) s hj i i4
    have hg : w.ownsRow base 30 4 (.slice (some ⟨g, 0, none⟩) l.length cap') l.length (rcm l) := hv ▸ h
    have c := hg.cellAt ((d + j) * 4 + i) (by omega)
    rw [show d * 4 + j * 4 + i = (d + j) * 4 + i by omega, c, q]
    exact hi
theorem OwnM.ss {w : World} {base : Nat} {v : Value} {l : List Sm} (h : OwnM w base v l) : Ss w v l := by
  obtain ⟨p, cap, e⟩ := h.form
  by_cases c : l = []
  · subst c
    rcases h.2 with ⟨hv, h0⟩ | ⟨g, cap', cur, hv, hb, hh, hc, hm, hcs, ht⟩
    · exact ⟨none, 0, hv, by simp, by omega, fun hn => absurd hn (by simp)⟩
    · exact ⟨_, cap', hv, hc, by unfold maxLen at hm; omega, fun hn => absurd hn (by simp)⟩
  · have hp : 0 < l.length := List.length_pos_iff.2 c
    obtain ⟨g, rfl, h1, h2, h3⟩ := h.drop 0 cap p e 0 hp
    rw [Nat.zero_mul, List.drop_zero] at h3
    exact ⟨_, cap, e, h1, h2, fun _ => ⟨g, 0, rfl, h3⟩⟩
/-- samples that were taken, in their order. -/
def okT (T : List Sm) : Prop := (∀ s ∈ T, okSm s) ∧ T.Pairwise (fun a b => a.at' < b.at')
theorem okT.nil : okT [] := ⟨fun s h => absurd h (by simp), List.Pairwise.nil⟩
theorem okT.drop {T : List Sm} (h : okT T) (d : Nat) : okT (T.drop d) := ⟨fun s hs => h.1 s (List.mem_of_mem_drop hs), h.2.sublist (List.drop_sublist d T)⟩
/-- the last eight, the newest first. -/
def l8 (T : List Sm) : List Sm := T.reverse.take 8
theorem l8_snoc (T : List Sm) (s : Sm) : (s :: l8 T).take 8 = l8 (T ++ [s]) := by
  unfold l8
  rw [List.reverse_append, List.reverse_singleton, List.singleton_append, List.take_succ_cons, List.take_succ_cons, List.take_take]
  rfl
theorem l8_drop (T : List Sm) : (T.drop (T.length - 8)).reverse = l8 T := by
  unfold l8
  rw [List.take_reverse]
theorem l8_short {T : List Sm} (h : T.length ≤ 8) : T.reverse = l8 T := by
  unfold l8
  rw [List.take_of_length_le (by rw [List.length_reverse]; exact h)]
/-- no sample's At is above the newest one's. -/
theorem okT.newest {T : List Sm} (h : okT T) {t : Sm} {R : List Sm} (e : l8 T = t :: R) : ∀ s ∈ T, s.at' ≤ t.at' := by
  intro s hs
  have ht : T.reverse[0]? = some t := by
    have : (l8 T)[0]? = some t := by rw [e]; rfl
    unfold l8 at this
    rwa [List.getElem?_take_of_lt (by omega)] at this
  have p : T.reverse.Pairwise (fun a b => b.at' < a.at') := List.pairwise_reverse.2 h.2
  cases q : T.reverse with
  | nil => rw [q] at ht; simp at ht
  | cons x r =>
    rw [q] at ht p
    simp at ht
    subst ht
    have hs' : s ∈ x :: r := by rw [← q]; simpa using hs
    rcases List.mem_cons.1 hs' with rfl | hs'
    · exact Int.le_refl _
    · exact Int.le_of_lt ((List.pairwise_cons.1 p).1 s hs')
theorem l8_mem {T : List Sm} {s : Sm} (h : s ∈ l8 T) : s ∈ T := by
  have := List.mem_of_mem_take h
  simpa using this
theorem okT.snoc {T : List Sm} (h : okT T) {s : Sm} (hs : okSm s) (ho : ∀ t, (l8 T)[0]? = some t → t.at' < s.at') : okT (T ++ [s]) := by
  refine ⟨fun x hx => ?_, List.pairwise_append.2 ⟨h.2, by simp, fun a ha b hb => ?_⟩⟩
  · rcases List.mem_append.1 hx with hx | hx
    · exact h.1 x hx
    · rw [List.mem_singleton.1 hx]; exact hs
  · rw [List.mem_singleton.1 hb]
    cases q : l8 T with
    | nil =>
      exfalso
      unfold l8 at q
      have := congrArg List.length q
      rw [List.length_take, List.length_reverse, List.length_nil] at this
      have : T.length = 0 := by omega
      rw [List.length_eq_zero_iff.1 this] at ha
      simp at ha
    | cons t R =>
      have := h.newest q a ha
      have := ho t (by rw [q]; rfl)
      omega
end Go.Proofs.Ytmlnmldcjbhhjaa.Fl
