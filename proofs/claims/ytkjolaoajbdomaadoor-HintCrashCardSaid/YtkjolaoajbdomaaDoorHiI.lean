/-
  A slice of ints that comes in; into, with its answer ahead of the world.
  Conditions: none.
-/
import Derived.Test.YtkjolaoajbdomaaDoorHiH
import Derived.ChangeSlices
namespace Go.Proofs.YtkjolaoajbdomaaDoor.Hi
open Go.ChangeShapes Go.WideShapes Go.ChangeAt Go.RowKit Go.Joins By Ct Dk
set_option linter.unusedVariables false
set_option linter.unusedSimpArgs false

theorem into_f (n k : Int) (h1 : -9223372036854775808 ≤ n) (h2 : n ≤ 9223372036854775807) (h3 : 0 < k) (h4 : k ≤ 4611686018427387904) : ∃ r : Nat, (r : Int) < k ∧ ∀ w, Calls Tryd.prog 12 #[.int .i64 n, .int .i64 k] w fun e w' => e = .returned (.int .i64 r) ∧ w' = w := by
  have a1 := Int.tmod_lt_of_pos n h3
  have a2 : -k < n.tmod k := by
    have := Int.lt_tmod_of_pos n h3
    omega
  obtain ⟨t, ht⟩ : ∃ t, n.tmod k = t := ⟨_, rfl⟩
  have b0 : 0 ≤ t + k := by omega
  have b1 := Int.tmod_nonneg k b0
  have b2 := Int.tmod_lt_of_pos (t + k) h3
  obtain ⟨r, hr⟩ : ∃ r : Nat, (r : Int) = (t + k).tmod k := ⟨((t + k).tmod k).toNat, by omega⟩
  have R : Hid ((r : Int) < k) := Lib.hid (by omega)
  rw [ht] at a1 a2
  have W1 : IntKind.i64.wrap t = t := wrap_in (by omega) (by omega)
  have W2 : IntKind.i64.wrap (t + k) = t + k := wrap_in (by omega) (by omega)
  have W3 : IntKind.i64.wrap ((t + k).tmod k) = (r : Int) := by rw [← hr]; exact wrap_in (by omega) (by omega)
  have HR : Hid ((r : Int) = (t + k) % k) := Lib.hid (by rw [hr, Int.tmod_eq_emod_of_nonneg b0])
  have kz : ¬ k = 0 := by omega
  clear hr b0 b1 b2
  refine ⟨r, R.out, fun w => ?_⟩
  go_enter Tryd.func12, Tryd.ntmps12
  go_wp2_with fail
  go_ret
  exact ⟨by rw [HR.out]; rfl, rfl⟩
def Nl (w : World) (v : Value) (L : List Int) : Prop :=
  ∃ a cap, v = .slice a L.length cap ∧ L.length ≤ cap ∧ cap ≤ 9223372036854775807 ∧ ∀ (j : Nat) (x : Int), L[j]? = some x → (∃ b off, a = some ⟨b, off, none⟩ ∧ b < w.heap.size ∧ w.cell? ⟨b, off + j, none⟩ = some (.int .i64 x)) ∧ -9223372036854775808 ≤ x ∧ x ≤ 9223372036854775807
theorem Nl.below {w w' : World} {v : Value} {L : List Int} (h : Nl w v L) (q : Below w.heap.size w w') : Nl w' v L := by
  obtain ⟨a, cap, e, h1, h2, h3⟩ := h
  refine ⟨a, cap, e, h1, h2, fun j x hj => ⟨?_, (h3 j x hj).2⟩⟩
  obtain ⟨b, off, ea, hb, hc⟩ := (h3 j x hj).1
  exact ⟨b, off, ea, Nat.lt_of_lt_of_le hb q.size, (q.cell (p := ⟨b, off + j, none⟩) hb).trans hc⟩
theorem Nl.form {w : World} {v : Value} {L : List Int} (h : Nl w v L) : ∃ a cap, v = .slice a L.length cap ∧ L.length ≤ cap ∧ cap ≤ 9223372036854775807 := by
  obtain ⟨a, cap, e, h1, h2, _⟩ := h
  exact ⟨a, cap, e, h1, h2⟩
theorem nl_at {w : World} {a : Option Addr} {cap : Nat} {L : List Int} (F : Nl w (.slice a L.length cap) L) {j : Nat} {x : Int} (h : L[j]? = some x) : (∃ b off, a = some ⟨b, off, none⟩ ∧ b < w.heap.size ∧ w.cell? ⟨b, off + j, none⟩ = some (.int .i64 x)) ∧ -9223372036854775808 ≤ x ∧ x ≤ 9223372036854775807 := by
  obtain ⟨a', cap', ev, _, _, hB⟩ := F
  cases ev
  exact hB j x h
theorem cells3 : Tryd.prog.cellsOf 3 = 1 := by kernel_rfl
set_option maxRecDepth 100000 in
theorem open_nl {H : Type} {enc : TypeId × Value → H} {W : World} {base : Nat} {v : Value} {d : DataW H} {pl : List MemPlace}
    (hv : Value.okWide Tryd.prog W .any base 34 v) (h : DataW.Trod enc Tryd.prog W 0 (fun _ => true) true 34 v d pl) : ∃ L, Nl W v L := by
  obtain ⟨a0, len0, cap0, rfl⟩ := okWide_slice Tryd.underlying34 hv
  obtain ⟨fuel, hf⟩ := h
  have hf' : DataW.trod enc Tryd.prog W 0 (fun _ => true) true fuel 34 [.slice a0 len0 cap0] = some (d, pl) := by simpa [Value.cells] using hf
  rcases open_ints Tryd.underlying34 Tryd.underlying3 cells3 hf' with ⟨hcs, _⟩ | ⟨a, len, cap, zs, hcs, _, hl, hm, hz, hx, hc, hwf⟩
  · simp only [List.cons.injEq, and_true] at hcs
    rw [hcs]
    exact ⟨[], none, 0, rfl, by simp, by omega, fun j x hj => by simp at hj⟩
  · simp only [List.cons.injEq, and_true] at hcs
    rw [hcs]
    simp only [if_true] at hz
    have hlen : (zs.take len).length = len := by rw [List.length_take]; omega
    refine ⟨zs.take len, some a, cap, by rw [hlen], by rw [hlen]; exact hl, by unfold maxLen at hm; omega, fun j x hj => ?_⟩
    have hj' : j < len := by
      have := (List.getElem?_eq_some_iff.1 hj).1
      omega
    have e : zs[j]? = some x := by
      rw [List.getElem?_take, if_pos hj'] at hj
      exact hj
    have q := hc j (by omega)
    have c0 := hc 0 (by omega)
    have g : zs.getD j 0 = x := by rw [List.getD_eq_getElem?_getD, e]; rfl
    rw [g] at q
    have wf := hwf x (List.mem_of_getElem? e)
    refine ⟨?_, bounds_i64 wf⟩
    obtain ⟨b, off, s⟩ := a
    have sp : s = none := by simpa [Addr.add] using World.cell?_spot c0
    subst sp
    have q' : W.cell? ⟨b, off + j, none⟩ = some (.int .i64 x) := by rwa [add_plain] at q
    exact ⟨b, off, rfl, World.block_lt_of_cell? W _ q', q'⟩
end Go.Proofs.YtkjolaoajbdomaaDoor.Hi
