/-
  Rows of times of the call's own; slices.Min and slices.Max of times.
  Conditions: none but that the times lie in memory.
-/
import Derived.Test.YtkmbeogmgehnfaaVoC
namespace Go.Proofs.Ytkmbeogmgehnfaa.Vo
open Go.RowKit Go.ChangeShapes Go.WideShapes Go.ChangeAt Go.Joins Fl Hu
set_option linter.unusedVariables false
set_option linter.unusedSimpArgs false

theorem info_time : (Try.prog.info? 25).map (fun i => (i.zero, i.size, i.bytes)) = some (some (.int .i64 0), 1, 8) := by kernel_rfl
/-- v is a row of times of the call's own. -/
def OwnT (w : World) (base : Nat) (v : Value) (l : List Int) : Prop := w.ownsRow base 25 1 v l.length (ct l)
theorem OwnT.nil (w : World) (base : Nat) : OwnT w base (.slice none 0 0) [] := World.ownsRow_nil w base _ 1
theorem OwnT.block {w : World} {base : Nat} {v : Value} {l : List Int} (h : OwnT w base v l) : ∀ k, v.ownBlock = some k → base ≤ k ∧ k < w.heap.size := by
  intro k hk
  rcases h.2 with ⟨rfl, _⟩ | ⟨g, cap, cur, rfl, hb, hh, _⟩
  · simp [Value.ownBlock] at hk
  · simp [Value.ownBlock] at hk
    subst hk
    exact ⟨hb, (Array.getElem?_eq_some_iff.1 hh).1⟩
theorem OwnT.keep {w w' : World} {base : Nat} {v : Value} {l : List Int} (h : OwnT w base v l) (hk : ∀ k, k < w.heap.size → v.ownBlock = some k → w'.heap[k]? = w.heap[k]?) : OwnT w' base v l := by
  obtain ⟨h1, h2⟩ := h
  refine ⟨h1, ?_⟩
  rcases h2 with h2 | ⟨g, cap, cur, hv, hb, hh, h5⟩
  · exact .inl h2
  · exact .inr ⟨g, cap, cur, hv, hb, (hk g (Array.getElem?_eq_some_iff.1 hh).1 (by rw [hv]; rfl)).trans hh, h5⟩
theorem OwnT.below {w w' : World} {base : Nat} {v : Value} {l : List Int} (h : OwnT w base v l) (q : Below w.heap.size w w') : OwnT w' base v l := h.keep fun k hk _ => q.block k hk
theorem OwnT.is {w : World} {base : Nat} {v : Value} {L : List Int} (h : OwnT w base v L) : Is w v L := by
  obtain ⟨h1, h2⟩ := h
  rcases h2 with ⟨rfl, h0⟩ | ⟨g, cap, cur, rfl, hb, hh, hc, hm, hs, ht⟩
  · exact ⟨none, 0, by rw [h0], by omega, by omega, fun hn => by omega⟩
  · refine ⟨_, cap, rfl, hc, by unfold maxLen at hm; omega, fun hn => ⟨g, 0, rfl, (Array.getElem?_eq_some_iff.1 hh).1, fun j x hj => ?_⟩⟩
    have hl : j < L.length := (List.getElem?_eq_some_iff.1 hj).1
    have := ct_at L j x hj
    rw [← ht, List.getElem?_take_of_lt (by omega)] at this
    simp only [Array.getElem?_toList] at this
    simp [World.cell?, hh, this]
theorem OwnT.form {w : World} {base : Nat} {v : Value} {l : List Int} (h : OwnT w base v l) : ∃ a cap, v = .slice a l.length cap := by
  obtain ⟨a, cap, e, _⟩ := h.is
  exact ⟨a, cap, e⟩
theorem appT {w : World} {base : Nat} {va : Value} {la : List Int} (hI : OwnT w base va la) (x : Int) (hb : base ≤ w.heap.size) (hn : (la.length + 1) * 8 ≤ 140737488355328) (ty : TypeId) :
    ∃ v' w', (Builtin.append_ #[66, 66] ty #[va, .slice (some ⟨w.heap.size, 0, none⟩) 1 1]).run Try.prog (w.alloc (.cells #[.int .i64 x] 25)) = .ok v' w' ∧ OwnT w' base v' (la ++ [x]) ∧ Below base w w' ∧ (∀ k, k < w.heap.size → va.ownBlock ≠ some k → w'.heap[k]? = w.heap[k]?) ∧ (∀ k, v'.ownBlock = some k → va.ownBlock = some k ∨ w.heap.size ≤ k) := by
  obtain ⟨i, hi, hz, hs, hby⟩ := info_parts3L info_time
  obtain ⟨v', w', hr, ho, hg, _, hob⟩ := run_append_own_at (P := Try.prog) (w.alloc (.cells #[.int .i64 x] 25)) base 66 ty 25 i (.int .i64 0) 1 8 Try.underlying66 hi hz hs hby rfl (by decide) va la.length (ct la) (World.ownsRow.alloc hI _) ⟨w.heap.size, 0, none⟩ 1 1 (ct [x]) rfl
    (by intro j u hj; cases j with | zero => (simp [ct] at hj; subst hj; simp [Addr.add, go_sem]) | succ j => simp [ct] at hj) (ct_one _) (by unfold maxLen; omega) (by omega) (by simp; omega)
  have hB : Below base w (w.alloc (.cells #[.int .i64 x] 25)) := (Below.refl base w).alloc hb _
  have hB2 := hB.grown hg (by simp; omega) (fun k hk => (hI.block k hk).1)
  obtain ⟨_, _, _, _, hk⟩ := hg
  refine ⟨v', w', hr, ?_, hB2, fun k h1 h2 => (hk k (by simp; omega) (Ne.symm h2)).trans (heap_alloc_old w _ h1), fun k e => ?_⟩
  · unfold OwnT
    rw [ct_app, List.length_append]
    exact ho
  · rcases hob with q | q
    · exact .inl (q ▸ e)
    · refine .inr ?_
      rw [q] at e
      simp at e
      omega
/-- m is the least (the greatest) of them. -/
def Lst (L : List Int) (m : Int) : Prop := m ∈ L ∧ ∀ x ∈ L, m ≤ x
def Gst (L : List Int) (m : Int) : Prop := m ∈ L ∧ ∀ x ∈ L, x ≤ m
theorem take_snoc {α : Type} {L : List α} {k : Nat} {x : α} (h : L[k]? = some x) : L.take (k + 1) = L.take k ++ [x] := by
  obtain ⟨h1, h2⟩ := List.getElem?_eq_some_iff.1 h
  rw [List.take_succ_eq_append_getElem h1, h2]
theorem Lst.step {L : List Int} {k : Nat} {m x : Int} (h : Lst (L.take k) m) (hx : L[k]? = some x) : Lst (L.take (k + 1)) (min m x) := by
  rw [take_snoc hx]
  obtain ⟨h1, h2⟩ := h
  refine ⟨?_, fun y hy => ?_⟩
  · rcases Int.le_total m x with c | c
    · rw [Int.min_eq_left c]; exact List.mem_append_left _ h1
    · rw [Int.min_eq_right c]; simp
  · rcases List.mem_append.1 hy with hy | hy
    · have := h2 y hy; omega
    · rw [List.mem_singleton.1 hy]; omega
theorem Gst.step {L : List Int} {k : Nat} {m x : Int} (h : Gst (L.take k) m) (hx : L[k]? = some x) : Gst (L.take (k + 1)) (max m x) := by
  rw [take_snoc hx]
  obtain ⟨h1, h2⟩ := h
  refine ⟨?_, fun y hy => ?_⟩
  · rcases Int.le_total m x with c | c
    · rw [Int.max_eq_right c]; simp
    · rw [Int.max_eq_left c]; exact List.mem_append_left _ h1
  · rcases List.mem_append.1 hy with hy | hy
    · have := h2 y hy; omega
    · rw [List.mem_singleton.1 hy]; omega
theorem Lst.one {L : List Int} {x : Int} (hx : L[0]? = some x) : Lst (L.take 1) x := by
  rw [take_snoc hx]; exact ⟨by simp, fun y hy => by simp at hy; omega⟩
theorem Gst.one {L : List Int} {x : Int} (hx : L[0]? = some x) : Gst (L.take 1) x := by
  rw [take_snoc hx]; exact ⟨by simp, fun y hy => by simp at hy; omega⟩
set_option maxRecDepth 100000 in
set_option maxHeartbeats 2000000 in
theorem Min_c {w : World} {v : Value} {L : List Int} (h : Is w v L) (hp : 0 < L.length) :
    Calls Try.prog 38 #[v] w fun e w' => (∃ m, e = .returned (.int .i64 m) ∧ Lst L m) ∧ w' = w := by
  obtain ⟨a, cap, rfl, c1, c2, c3⟩ := h
  obtain ⟨b, off, rfl, hb, hc⟩ := c3 hp
  obtain ⟨m, hm⟩ : ∃ m, L.length = m := ⟨_, rfl⟩
  have HM := Lib.hid hm
  have HC := Lib.hid hc
  obtain ⟨x0, hx0⟩ : ∃ x, L[0]? = some x := ⟨_, List.getElem?_eq_getElem hp⟩
  have y0 : w.cell? ⟨b, off, none⟩ = some (.int .i64 x0) := by simpa using hc 0 x0 hx0
  have ONE := Lib.hid (Lst.one hx0)
  have CE : Hid (∀ y, Lst (L.take m) y → Lst L y) := Lib.hid (fun y q => by rwa [List.take_of_length_le (by rw [hm]; exact Nat.le_refl _)] at q)
  rw [hm] at hp c1 ⊢
  have m0 : (0 : Int) < (m : Int) := by omega
  have m1 : (m : Int) ≤ 9223372036854775807 := by omega
  have m2 : (m : Int) ≤ (cap : Int) := by omega
  have m3 : (cap : Int) ≤ 9223372036854775807 := by omega
  have m4 : decide ((m : Int) < 1) = false := decide_eq_false (by omega)
  have m5 : decide (m < 1) = false := decide_eq_false (by omega)
  clear hm hc hx0
  go_enter Try.func38, Try.ntmps38
  go_wp2_with fail
  clear y0
  go_loopw [3, 4] (fun mv iv wr => ∃ (k : Nat) (y : Int), 1 ≤ k ∧ k ≤ m ∧ iv = .int .i64 (k : Nat) ∧ mv = .int .i64 y ∧ Lst (L.take k) y ∧ wr = w) (fun _ iv _ => m - (intOf iv).toNat)
  case atStart => exact ⟨1, x0, Nat.le_refl _, by omega, rfl, rfl, ONE.out, rfl⟩
  case round =>
    obtain ⟨k, y, k0, hk, rfl, rfl, hy, rfl⟩ := hrel
    have HY := Lib.hid hy
    clear hy
    by_cases c : k < m
    · have e1 : decide ((k : Int) < (m : Int)) = true := decide_eq_true (by omega)
      have e2 : decide (k < m) = true := decide_eq_true c
      have k1 : (k : Int) < (m : Int) := by omega
      have wk : IntKind.i64.wrap ((k : Int) + 1) = (k : Int) + 1 := wrap_in (by omega) (by omega)
      obtain ⟨x, hx⟩ : ∃ x, L[k]? = some x := ⟨_, List.getElem?_eq_getElem (by rw [HM.out]; exact c)⟩
      have yk := HC.out k x hx
      have ST := Lib.hid (HY.out.step hx)
      clear hx
      go_wp2_with fail
      exact ⟨⟨k + 1, _, by omega, by omega, by go_num, rfl, by first | exact ST.out | (have z := ST.out; split <;> rename_i c2 <;> (first | rwa [Int.min_eq_right (by omega)] at z | rwa [Int.min_eq_left (by omega)] at z)), by first | trivial | rfl⟩, by simp [intOf]; omega⟩
    · have e1 : decide ((k : Int) < (m : Int)) = false := decide_eq_false (by omega)
      have e2 : decide (k < m) = false := decide_eq_false c
      obtain rfl : k = m := by omega
      have FIN := Lib.hid (CE.out y HY.out)
      go_wp2_with fail
      go_ret
      exact ⟨⟨y, rfl, FIN.out⟩, rfl⟩
set_option maxRecDepth 100000 in
set_option maxHeartbeats 2000000 in
theorem Max_c {w : World} {v : Value} {L : List Int} (h : Is w v L) (hp : 0 < L.length) :
    Calls Try.prog 39 #[v] w fun e w' => (∃ m, e = .returned (.int .i64 m) ∧ Gst L m) ∧ w' = w := by
  obtain ⟨a, cap, rfl, c1, c2, c3⟩ := h
  obtain ⟨b, off, rfl, hb, hc⟩ := c3 hp
  obtain ⟨m, hm⟩ : ∃ m, L.length = m := ⟨_, rfl⟩
  have HM := Lib.hid hm
  have HC := Lib.hid hc
  obtain ⟨x0, hx0⟩ : ∃ x, L[0]? = some x := ⟨_, List.getElem?_eq_getElem hp⟩
  have y0 : w.cell? ⟨b, off, none⟩ = some (.int .i64 x0) := by simpa using hc 0 x0 hx0
  have ONE := Lib.hid (Gst.one hx0)
  have CE : Hid (∀ y, Gst (L.take m) y → Gst L y) := Lib.hid (fun y q => by rwa [List.take_of_length_le (by rw [hm]; exact Nat.le_refl _)] at q)
  rw [hm] at hp c1 ⊢
  have m0 : (0 : Int) < (m : Int) := by omega
  have m1 : (m : Int) ≤ 9223372036854775807 := by omega
  have m2 : (m : Int) ≤ (cap : Int) := by omega
  have m3 : (cap : Int) ≤ 9223372036854775807 := by omega
  have m4 : decide ((m : Int) < 1) = false := decide_eq_false (by omega)
  have m5 : decide (m < 1) = false := decide_eq_false (by omega)
  clear hm hc hx0
  go_enter Try.func39, Try.ntmps39
  go_wp2_with fail
  clear y0
  go_loopw [3, 4] (fun mv iv wr => ∃ (k : Nat) (y : Int), 1 ≤ k ∧ k ≤ m ∧ iv = .int .i64 (k : Nat) ∧ mv = .int .i64 y ∧ Gst (L.take k) y ∧ wr = w) (fun _ iv _ => m - (intOf iv).toNat)
  case atStart => exact ⟨1, x0, Nat.le_refl _, by omega, rfl, rfl, ONE.out, rfl⟩
  case round =>
    obtain ⟨k, y, k0, hk, rfl, rfl, hy, rfl⟩ := hrel
    have HY := Lib.hid hy
    clear hy
    by_cases c : k < m
    · have e1 : decide ((k : Int) < (m : Int)) = true := decide_eq_true (by omega)
      have e2 : decide (k < m) = true := decide_eq_true c
      have k1 : (k : Int) < (m : Int) := by omega
      have wk : IntKind.i64.wrap ((k : Int) + 1) = (k : Int) + 1 := wrap_in (by omega) (by omega)
      obtain ⟨x, hx⟩ : ∃ x, L[k]? = some x := ⟨_, List.getElem?_eq_getElem (by rw [HM.out]; exact c)⟩
      have yk := HC.out k x hx
      have ST := Lib.hid (HY.out.step hx)
      clear hx
      go_wp2_with fail
      exact ⟨⟨k + 1, _, by omega, by omega, by go_num, rfl, by first | exact ST.out | (have z := ST.out; split <;> rename_i c2 <;> (first | rwa [Int.max_eq_right (by omega)] at z | rwa [Int.max_eq_left (by omega)] at z)), by first | trivial | rfl⟩, by simp [intOf]; omega⟩
    · have e1 : decide ((k : Int) < (m : Int)) = false := decide_eq_false (by omega)
      have e2 : decide (k < m) = false := decide_eq_false c
      obtain rfl : k = m := by omega
      have FIN := Lib.hid (CE.out y HY.out)
      go_wp2_with fail
      go_ret
      exact ⟨⟨y, rfl, FIN.out⟩, rfl⟩
end Go.Proofs.Ytkmbeogmgehnfaa.Vo
