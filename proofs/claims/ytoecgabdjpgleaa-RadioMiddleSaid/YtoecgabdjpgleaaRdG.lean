/-
  Times that come in; rows of times behind one another; sundiallaw13.near.
  Conditions: none.
-/
import Derived.Test.YtoecgabdjpgleaaRdF
import Derived.ChangeSlices
namespace Go.Proofs.Ytoecgabdjpgleaa.Rd
open Go.ChangeShapes Go.WideShapes Go.RowKit Cv Lp
set_option linter.unusedVariables false
set_option linter.unusedSimpArgs false

/-- is a within e of b? -/
def nrB (t e a : Int) : Bool := decide (a - t ≤ e) && decide (t - a ≤ e)
set_option maxRecDepth 100000 in
theorem near_c (a t e : Int) (w : World) (a0 : -2305843009213693952 ≤ a) (a1 : a ≤ 2305843009213693952) (t0 : -2305843009213693952 ≤ t) (t1 : t ≤ 2305843009213693952) :
    Calls Try.prog 7 #[.int .i64 a, .int .i64 t, .int .i64 e] w fun x w' => x = .returned (.bool (nrB t e a)) ∧ w' = w := by
  have HE : Hid (nrB t e a = (decide (a - t ≤ e) && decide (t - a ≤ e))) := Lib.hid rfl
  rw [HE.out]
  by_cases c1 : a - t ≤ e
  · have e1 := decide_eq_true c1
    by_cases c2 : t - a ≤ e
    · have e2 := decide_eq_true c2
      rw [e1, e2]
      go_enter Try.func7, Try.ntmps7
      go_wp2_with fail
      go_ret
      exact ⟨rfl, rfl⟩
    · have e2 := decide_eq_false c2
      rw [e1, e2]
      go_enter Try.func7, Try.ntmps7
      go_wp2_with fail
      go_ret
      exact ⟨rfl, rfl⟩
  · have e1 := decide_eq_false c1
    rw [e1]
    go_enter Try.func7, Try.ntmps7
    go_wp2_with fail
    go_ret
    exact ⟨rfl, rfl⟩
/-- more times behind those that a row holds. -/
theorem appTS {w : World} {base : Nat} {v : Value} {l : List Int} (h : OwnT w base v l) (M : List Int) (ad : Addr) (c : Nat) (hc : ∀ (j : Nat) (x : Int), M[j]? = some x → w.cell? (ad.add j) = some (.int .i64 x))
    (hb : base ≤ w.heap.size) (hn : (l.length + M.length) * 8 ≤ 140737488355328) (ty : TypeId) :
    ∃ v' w', (Builtin.append_ #[22, 22] ty #[v, .slice (some ad) M.length c]).run Try.prog w = .ok v' w' ∧ OwnT w' base v' (l ++ M) ∧ Below base w w' := by
  obtain ⟨i, hi, hz, hs, hby⟩ := info_parts3L info_time
  obtain ⟨v', w', hr, ho, hg, _, hob⟩ := run_append_own_at (P := Try.prog) w base 22 ty 23 i (.int .i64 0) 1 8 Try.underlying22 hi hz hs hby rfl (by decide) v l.length (ct l) h ad M.length c (ct M) (by simp [ct])
    (fun j u hj => by
      unfold ct at hj
      rw [List.getElem?_map] at hj
      cases hx : M[j]? with
      | none => rw [hx] at hj; simp at hj
      | some x => rw [hx] at hj; simp at hj; rw [← hj]; exact hc j x hx) (ct_one _) (by unfold maxLen; omega) (by omega) hb
  refine ⟨v', w', hr, ?_, (Below.refl base w).grown hg hb h.block⟩
  unfold OwnT
  rw [ct_app, List.length_append]
  exact ho
theorem own0T (w : World) (base : Nat) (hb : base ≤ w.heap.size) : OwnT (w.alloc (.cells #[] 23)) base (.slice (some ⟨w.heap.size, 0, none⟩) 0 0) [] :=
  World.ownsRow_made w #[] 0 hb (Nat.zero_le _) rfl
/-- the cells of a row's beginning and of its end. -/
theorem take_cellsT {w : World} {b off : Nat} {L : List Int} (h : ∀ (j : Nat) (x : Int), L[j]? = some x → w.cell? ⟨b, off + j, none⟩ = some (.int .i64 x)) (t : Nat) : ∀ (j : Nat) (x : Int), (L.take t)[j]? = some x → w.cell? ((⟨b, off, none⟩ : Addr).add j) = some (.int .i64 x) := by
  intro j x hj
  rw [List.getElem?_take] at hj
  split at hj
  · rw [add_plain]
    exact h j x hj
  · cases hj
theorem drop_cellsT {w : World} {b off : Nat} {L : List Int} (h : ∀ (j : Nat) (x : Int), L[j]? = some x → w.cell? ⟨b, off + j, none⟩ = some (.int .i64 x)) (t : Nat) : ∀ (j : Nat) (x : Int), (L.drop t)[j]? = some x → w.cell? ((⟨b, off + t, none⟩ : Addr).add j) = some (.int .i64 x) := by
  intro j x hj
  rw [List.getElem?_drop] at hj
  have := h (t + j) x hj
  rw [show off + (t + j) = off + t + j by omega] at this
  rw [add_plain]
  exact this
theorem mdE_eq {L K : List Int} (h : K.Perm L) : mdE K = mdE L := by
  unfold mdE
  rw [(mid_eq h).1, (mid_eq h).2, h.length_eq]
  unfold sa
  rw [srt_eq h]

theorem bytes_time : Try.prog.bytesOf 23 = 8 := by kernel_rfl
theorem cells_time : Try.prog.cellsOf 23 = 1 := by kernel_rfl
set_option maxRecDepth 100000 in
theorem open_times {H : Type} {enc : TypeId × Value → H} {W : World} {base : Nat} {v : Value} {d : DataW H} {pl : List MemPlace}
    (hv : Value.okWide Try.prog W .any base 22 v) (h : DataW.Trod enc Try.prog W 0 (fun _ => true) true 22 v d pl)
    (hs : ∀ elems spare, d = .slice elems spare → elems.length * 8 ≤ 140737488351232) : ∃ L, Ts W v L ∧ i64M L ∧ L.length * 8 ≤ 140737488351232 := by
  obtain ⟨a0, len0, cap0, rfl⟩ := okWide_slice Try.underlying22 hv
  obtain ⟨fuel, hf⟩ := h
  have hf' : DataW.trod enc Try.prog W 0 (fun _ => true) true fuel 22 [.slice a0 len0 cap0] = some (d, pl) := by simpa [Value.cells] using hf
  rcases open_ints Try.underlying22 Try.underlying23 cells_time hf' with ⟨hcs, _⟩ | ⟨a, len, cap, zs, hcs, _, hl, hm, hz, hx, hc, hwf⟩
  · simp only [List.cons.injEq, and_true] at hcs
    rw [hcs]
    exact ⟨[], ⟨none, 0, rfl, by simp, by omega, fun hn => absurd hn (by simp)⟩, fun x hx => absurd hx (by simp), by simp⟩
  · simp only [List.cons.injEq, and_true] at hcs
    rw [hcs]
    simp only [if_true] at hz
    have hlen : (zs.take len).length = len := by rw [List.length_take]; omega
    have hd : d = .slice (lits .i64 (zs.take len)) (lits .i64 (zs.drop len)) := congrArg Prod.fst hx
    have sz := hs _ _ hd
    have sl : (lits (H := H) .i64 (zs.take len)).length = len := by unfold lits; rw [List.length_map]; exact hlen
    rw [sl] at sz
    refine ⟨zs.take len, ⟨some a, cap, by rw [hlen], by rw [hlen]; exact hl, by unfold maxLen at hm; omega, fun hn => ?_⟩, fun x hx => bounds_i64 (hwf x (List.mem_of_mem_take hx)), by rw [hlen]; exact sz⟩
    rw [hlen] at hn
    have c0 := hc 0 (by omega)
    obtain ⟨b, off, s⟩ := a
    have sp : s = none := by simpa [Addr.add] using World.cell?_spot c0
    subst sp
    have c0' : W.cell? ⟨b, off + 0, none⟩ = some (.int .i64 (zs.getD 0 0)) := by rwa [add_plain] at c0
    refine ⟨b, off, rfl, World.block_lt_of_cell? W _ c0', fun j x hj => ?_⟩
    have hj' : j < len := by
      have := (List.getElem?_eq_some_iff.1 hj).1
      omega
    have e : zs[j]? = some x := by
      rw [List.getElem?_take, if_pos hj'] at hj
      exact hj
    have q := hc j (by omega)
    have g : zs.getD j 0 = x := by rw [List.getD_eq_getElem?_getD, e]; rfl
    rw [g] at q
    rwa [add_plain] at q
end Go.Proofs.Ytoecgabdjpgleaa.Rd
