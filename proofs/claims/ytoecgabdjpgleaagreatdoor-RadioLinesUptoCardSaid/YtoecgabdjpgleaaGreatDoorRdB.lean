/-
  Times cloned and sorted; the contract of radio.Middle.
  Conditions: none.
-/
import Derived.Test.YtoecgabdjpgleaaGreatDoorShelfR
import Derived.Test.YtoecgabdjpgleaaGreatDoorRdA
import Derived.Test.YtoecgabdjpgleaaGreatDoorFxS
import Derived.Test.YtoecgabdjpgleaaGreatDoorTsA
import Derived.Shelf.SortM.Plain
import Derived.Shelf.SlicesG.Clone
import Derived.Sort.OwnSortedInts
import Derived.BigQuiet
import Derived.Lib.SmallJoins
namespace Go.Proofs.YtoecgabdjpgleaaGreatDoor.Rd
open Go.RowKit Go.ChangeShapes Go.WideShapes Go.ChangeAt Go.Joins Go.Shelf Cv Lp
set_option linter.unusedVariables false
set_option linter.unusedSimpArgs false

theorem getD_of {L : List Int} {j : Nat} (h : j < L.length) : L[j]? = some (L.getD j 0) := by
  rw [List.getD_eq_getElem?_getD, List.getElem?_eq_getElem h]; rfl
theorem clone_c {w : World} {v : Value} {L : List Int} (h : Ts w v L) (hp : 0 < L.length) (hn : L.length * 8 ≤ 140737488355328) :
    Calls Tryz.prog 35 #[v] w fun e w' => ∃ v', e = .returned v' ∧ OwnT w' w.heap.size v' L ∧ Below w.heap.size w w' := by
  obtain ⟨a, cap, rfl, h1, h2, h3⟩ := h
  obtain ⟨b, off, rfl, hb, hc⟩ := h3 hp
  refine (AnyG.slices_Clone_int cloneT b off L.length cap L w (Nat.le_refl _) hn fun j hj => hc j _ (getD_of hj)).mono ?_
  rintro e w' ⟨v', rfl, ho, _, hB⟩
  rw [List.take_length] at ho
  exact ⟨v', rfl, ho, hB⟩
theorem sort_c {w : World} {base : Nat} {v : Value} {L : List Int} (h : OwnT w base v L) (hp : 0 < L.length) (hs : L.length < 4611686018427387904) :
    Calls Tryz.prog 36 #[v] w fun e w' => e = .returned (.tuple #[]) ∧ OwnT w' base v (srt L) ∧ (base ≤ w.heap.size → Below base w w') := by
  obtain ⟨h1, h2⟩ := h
  rcases h2 with ⟨rfl, h0⟩ | ⟨g, cap, cur, rfl, hb, hh, hc, hm, hs1, ht⟩
  · omega
  have hg : g < w.heap.size := (Array.getElem?_eq_some_iff.1 hh).1
  rw [Nat.mul_one] at ht
  have hH : Go.Sort.Holds (Value.int .i64) w g 0 L.toArray := holds_of_blockI hh ht
  refine (AnyM.slices_Sort_int sortT g 0 cap L w hH hg hs).mono ?_
  rintro e w' ⟨rfl, n, os, rfl⟩
  refine ⟨rfl, ?_, fun hbs => ?_⟩
  · have q := ownsRow_sortedI (n := n) (os := os) (ss := L) (ts := srt L) (srt_len L) hb hh hc hm hs1
    unfold OwnT
    rw [srt_len]
    exact q
  · exact (Below.refl base w).grown (grownBy_sortedI (n := n) (os := os) _) hbs (fun k hk => by simp at hk; omega)

/-- they are times. -/
def okM (L : List Int) : Prop := ∀ x ∈ L, -2305843009213693952 ≤ x ∧ x ≤ 2305843009213693952
def i64M (L : List Int) : Prop := ∀ x ∈ L, -9223372036854775808 ≤ x ∧ x ≤ 9223372036854775807
theorem okM_iff {L : List Int} (h : 0 < L.length) : okM L ↔ (-2305843009213693952 ≤ sa L 0 ∧ sa L (L.length - 1) ≤ 2305843009213693952) := by
  refine ⟨fun q => ⟨(q _ (sa_mem L h)).1, (q _ (sa_mem L (by omega))).2⟩, fun q x hx => ?_⟩
  obtain ⟨j, hj, rfl⟩ := sa_of L hx
  have a := sa_le L (Nat.zero_le j) hj
  have b := sa_le L (i := j) (j := L.length - 1) (by omega) (by omega)
  omega
/-- what Middle answers. -/
def mdE (L : List Int) : Ending :=
  .returned (.tuple #[.int .i64 (if L.length = 0 then 0 else if (-2305843009213693952 ≤ sa L 0 ∧ sa L (L.length - 1) ≤ 2305843009213693952) then mid L else 0), .int .i64 (if L.length = 0 then 0 else if (-2305843009213693952 ≤ sa L 0 ∧ sa L (L.length - 1) ≤ 2305843009213693952) then Fx.bnd (wid L) else 0), .int .i64 (if L.length = 0 then 5 else if (-2305843009213693952 ≤ sa L 0 ∧ sa L (L.length - 1) ≤ 2305843009213693952) then 0 else 2)])

set_option maxRecDepth 100000 in
set_option maxHeartbeats 2000000 in
theorem Middle_none {w : World} {v : Value} (h : Ts w v []) :
    Calls Tryz.prog 11 #[v] w fun e w' => e = .returned (.tuple #[.int .i64 0, .int .i64 0, .int .i64 5]) ∧ Below w.heap.size w w' := by
  obtain ⟨a, cap, rfl, _⟩ := h
  show Calls Tryz.prog 11 #[.slice a 0 cap] w _
  go_enter Tryz.func11, Tryz.ntmps11
  go_wp2_with fail
  go_ret3
  exact ⟨rfl, brefl w⟩

set_option maxRecDepth 100000 in
set_option maxHeartbeats 4000000 in
theorem Middle_some {w : World} {v : Value} {L : List Int} (h : Ts w v L) (hp : 0 < L.length) (hn : L.length * 8 ≤ 140737488355328) (hi : i64M L) :
    Calls Tryz.prog 11 #[v] w fun e w' => e = mdE L ∧ Below w.heap.size w w' := by
  have CL := Lib.hid (fun w (h : Ts w v L) => clone_c h hp hn)
  have SO := Lib.hid (fun w base v' (h : OwnT w base v' L) => sort_c h hp (by omega))
  have OK := Lib.hid (okM_iff hp)
  have sn := Lib.hid (srt_len L)
  have T0 := Lib.hid h
  obtain ⟨a, cap, rfl, h1, h2, _⟩ := h
  have bb : ∀ j, j < L.length → -9223372036854775808 ≤ sa L j ∧ sa L j ≤ 9223372036854775807 := fun j hj => hi _ (sa_mem L hj)
  have b0 := bb 0 hp
  have b1 := bb (L.length - 1) (by omega)
  have u1 := sa_le L (Nat.zero_le (L.length - 1)) (by omega)
  have u2 := sa_le L (Nat.zero_le ((L.length - 1) / 2)) (by omega)
  have u3 := sa_le L (i := (L.length - 1) / 2) (j := L.length / 2) (by omega) (by omega)
  have u4 := sa_le L (i := L.length / 2) (j := L.length - 1) (by omega) (by omega)
  have nz : decide ((L.length : Int) = 0) = false := decide_eq_false (by omega)
  have HE : Hid (mdE L = .returned (.tuple #[.int .i64 (if (-2305843009213693952 ≤ sa L 0 ∧ sa L (L.length - 1) ≤ 2305843009213693952) then sa L ((L.length - 1) / 2) + (sa L (L.length / 2) - sa L ((L.length - 1) / 2)) / 2 else 0), .int .i64 (if (-2305843009213693952 ≤ sa L 0 ∧ sa L (L.length - 1) ≤ 2305843009213693952) then Fx.bnd (sa L (L.length - 1) - sa L 0) else 0), .int .i64 (if (-2305843009213693952 ≤ sa L 0 ∧ sa L (L.length - 1) ≤ 2305843009213693952) then 0 else 2)])) := Lib.hid (by
    have nz : ¬ L.length = 0 := by omega
    unfold mdE
    simp only [if_neg nz]
    rfl)
  rw [HE.out]
  have CE : Hid (∀ w b off, (∀ j x, (srt L)[j]? = some x → World.cell? w ⟨b, off + j, none⟩ = some (.int .i64 x)) → ∀ j, j < L.length → w.cell? ⟨b, off + j, none⟩ = some (.int .i64 (sa L j))) := Lib.hid fun w b off q j hj => q j _ (getD_of (by rw [srt_len]; exact hj))
  clear HE bb hi hn
  generalize hN : L.length = n at *
  clear hN
  obtain ⟨q, hq⟩ : ∃ q, n = q + 1 := ⟨n - 1, by omega⟩
  subst hq
  simp only [Nat.add_sub_cancel] at *
  obtain ⟨j1, hj1⟩ : ∃ j, q / 2 = j := ⟨_, rfl⟩
  obtain ⟨j2, hj2⟩ : ∃ j, (q + 1) / 2 = j := ⟨_, rfl⟩
  have l1 : j1 ≤ q := by omega
  have l2 : j2 ≤ q := by omega
  have q1 : (q : Int).tdiv 2 = (j1 : Int) := by rw [Int.tdiv_eq_ediv_of_nonneg (by omega)]; omega
  have q2 : ((q : Int) + 1).tdiv 2 = (j2 : Int) := by rw [Int.tdiv_eq_ediv_of_nonneg (by omega)]; omega
  have C4 : Hid (∀ w b off, (∀ j x, (srt L)[j]? = some x → World.cell? w ⟨b, off + j, none⟩ = some (.int .i64 x)) → w.cell? ⟨b, off, none⟩ = some (.int .i64 (sa L 0)) ∧ w.cell? ⟨b, off + q, none⟩ = some (.int .i64 (sa L q)) ∧ w.cell? ⟨b, off + j1, none⟩ = some (.int .i64 (sa L j1)) ∧ w.cell? ⟨b, off + j2, none⟩ = some (.int .i64 (sa L j2))) := Lib.hid fun w b off h => ⟨CE.out w b off h 0 (by omega), CE.out w b off h q (by omega), CE.out w b off h j1 (by omega), CE.out w b off h j2 (by omega)⟩
  simp only [hj1, hj2] at u2 u3 u4 ⊢
  clear hj1 hj2 CE OK
  generalize sa L 0 = x0 at *
  generalize sa L q = xq at *
  generalize sa L j1 = xm at *
  generalize sa L j2 = xh at *
  have e1 : (xh - xm).tdiv 2 = (xh - xm) / 2 := Int.tdiv_eq_ediv_of_nonneg (by omega)
  by_cases T : -2305843009213693952 ≤ x0 ∧ xq ≤ 2305843009213693952
  · simp only [if_pos T]
    have SM : Hid (∀ w, Calls Tryz.prog 37 #[.int .i64 xq, .int .i64 (-x0)] w fun e w' => e = .returned (.tuple #[.int .i64 (Fx.bnd (xq - x0)), .int .i64 0]) ∧ w' = w) := Lib.hid fun w => (Fx.Sum_ok xq (-x0) w (by omega) (by omega)).mono fun e w' h => ⟨by rw [h.1, Int.sub_eq_add_neg], h.2.symm⟩
    generalize Fx.bnd (xq - x0) = Z at *
    have wn : IntKind.i64.wrap (-x0) = -x0 := IntWalk.i64_in _ (by omega)
    go_enter Tryz.func11, Tryz.ntmps11
    go_wp2_with fail
    refine (CL.out _ T0.out).mono ?_
    rintro e w1 ⟨v1, rfl, o1, hb⟩
    have B1 := Lib.hid hb
    clear hb CL
    go_wp2_with fail
    refine (SO.out _ _ _ o1).mono ?_
    rintro e w2 ⟨rfl, o2, hb⟩
    have B2 := Lib.hid (B1.out.trans (hb B1.out.size))
    clear hb SO o1
    obtain ⟨a1, k1, rfl, m1, m2, m3⟩ := o2.ts
    rw [sn.out] at m1 m3 ⊢
    obtain ⟨b, off, rfl, hbl, hC⟩ := m3 (by omega)
    obtain ⟨c0, cq, cm, ch⟩ := C4.out _ _ _ hC
    clear hC C4 m3 o2
    go_wp2_with fail
    go_quiet ((go_at_call 37; with_reducible exact Calls.quiet_of_same (SM.out _)))
    go_wp2_with fail
    go_quiet (fail)
    go_wp2_with fail
    go_ret3
    exact ⟨rfl, bdrew B2.out _⟩
  · simp only [if_neg T]
    obtain ⟨z, hz⟩ : ∃ z, IntKind.i64.wrap (-x0) = z := ⟨_, rfl⟩
    have bad : ¬ ((-2305843009213693952 ≤ xq ∧ xq ≤ 2305843009213693952) ∧ (-2305843009213693952 ≤ z ∧ z ≤ 2305843009213693952)) := by
      by_cases c : x0 = -9223372036854775808
      · have : z = -9223372036854775808 := by rw [← hz, c]; decide
        omega
      · have : z = -x0 := by rw [← hz]; exact IntWalk.i64_in _ (by omega)
        omega
    have SM : Hid (∀ w, Calls Tryz.prog 37 #[.int .i64 xq, .int .i64 z] w fun e w' => e = .returned (.tuple #[.int .i64 0, .int .i64 2]) ∧ w' = w) := Lib.hid fun w => (Fx.Sum_bad xq z w bad).mono fun e w' h => ⟨h.1, h.2.symm⟩
    clear bad
    go_enter Tryz.func11, Tryz.ntmps11
    go_wp2_with fail
    refine (CL.out _ T0.out).mono ?_
    rintro e w1 ⟨v1, rfl, o1, hb⟩
    have B1 := Lib.hid hb
    clear hb CL
    go_wp2_with fail
    refine (SO.out _ _ _ o1).mono ?_
    rintro e w2 ⟨rfl, o2, hb⟩
    have B2 := Lib.hid (B1.out.trans (hb B1.out.size))
    clear hb SO o1
    obtain ⟨a1, k1, rfl, m1, m2, m3⟩ := o2.ts
    rw [sn.out] at m1 m3 ⊢
    obtain ⟨b, off, rfl, hbl, hC⟩ := m3 (by omega)
    obtain ⟨c0, cq, cm, ch⟩ := C4.out _ _ _ hC
    clear hC C4 m3 o2
    go_wp2_with fail
    go_quiet ((go_at_call 37; with_reducible exact Calls.quiet_of_same (SM.out _)))
    go_wp2_with fail
    go_ret3
    exact ⟨rfl, bdrew B2.out _⟩
end Go.Proofs.YtoecgabdjpgleaaGreatDoor.Rd
