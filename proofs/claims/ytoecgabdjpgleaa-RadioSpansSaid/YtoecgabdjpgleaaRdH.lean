/-
  The span of a reading: the contract of radio.Span where an even time has the reading's UTC time.
  Conditions: the table is right, the reading and the bound are in range.
-/
import Derived.Test.YtoecgabdjpgleaaRdF
import Derived.Test.YtoecgabdjpgleaaLpM
import Derived.Test.YtoecgabdjpgleaaLpN
import Derived.BigRegion
namespace Go.Proofs.Ytoecgabdjpgleaa.Rd
open Go.ChangeShapes Go.WideShapes Go.RowKit Cv Lp
set_option linter.unusedVariables false
set_option linter.unusedSimpArgs false

theorem o_gap {n : Nat} {a o : Nat → Int} (h : Rt n a o) (i : Nat) : ∀ k, i + k < n → o (i + k) - o i ≤ k ∧ o i - o (i + k) ≤ k
  | 0, _ => by simp
  | k + 1, hk => by
    have ih := o_gap h i k (by omega)
    have s := h.st (i + k) (by omega)
    rw [show i + (k + 1) = i + k + 1 by omega]
    omega
theorem o_near {n : Nat} {a o : Nat → Int} (h : Rt n a o) {i j : Nat} (hi : i < n) (hj : j < n) : o i - o j ≤ n := by
  rcases Nat.le_total i j with c | c
  · have := o_gap h i (j - i) (by omega)
    rw [show i + (j - i) = j by omega] at this
    omega
  · have := o_gap h j (i - j) (by omega)
    rw [show j + (i - j) = i by omega] at this
    omega
/-- the even times of u's UTC time: u lies between the first and the last, and these are no further apart than n seconds. -/
structure Sp (n : Nat) (u t : Int) (L : List Int) : Prop where
  pos : 0 < L.length
  first : L.getD 0 0 ≤ u
  last : u ≤ L.getD (L.length - 1) 0
  wide : L.getD (L.length - 1) 0 - L.getD 0 0 ≤ (n : Int) * 1048576
  lo : t ≤ L.getD 0 0
  hi : L.getD (L.length - 1) 0 ≤ t + 209715200
  len : L.length ≤ n
theorem sp_of {n : Nat} {a o : Nat → Int} (h : Rt n a o) (u : Int) : Sp n u (ut n a o u) (evs n a o (ut n a o u) n) := by
  have E := h.ev (ut n a o u)
  have hu := E.all u rfl
  have hm : ∀ x, x ∈ evs n a o (ut n a o u) n → ∃ j, j < n ∧ x = ut n a o u + o j * 1048576 := fun x hx => by
    obtain ⟨j, h1, h2, _⟩ := (evs_mem (Nat.le_refl _)).1 hx
    exact ⟨j, h1, h2⟩
  generalize evs n a o (ut n a o u) n = L at *
  obtain ⟨i, hi, e⟩ := List.getElem_of_mem hu
  have p : 0 < L.length := by omega
  have g0 : L.getD 0 0 = L[0] := by rw [List.getD_eq_getElem?_getD, List.getElem?_eq_getElem p]; rfl
  have g1 : L.getD (L.length - 1) 0 = L[L.length - 1] := by rw [List.getD_eq_getElem?_getD, List.getElem?_eq_getElem (show L.length - 1 < L.length by omega)]; rfl
  have m0 : L[0] ∈ L := List.getElem_mem p
  have m1 : L[L.length - 1] ∈ L := List.getElem_mem _
  refine ⟨p, ?_, ?_, ?_, ?_, ?_, E.len⟩
  · rw [g0, ← e]
    rcases Nat.eq_zero_or_pos i with c | c
    · subst c; exact Int.le_refl _
    · exact Int.le_of_lt (List.pairwise_iff_getElem.1 E.up 0 i p hi c)
  · rw [g1, ← e]
    rcases Nat.lt_or_eq_of_le (show i ≤ L.length - 1 by omega) with c | c
    · exact Int.le_of_lt (List.pairwise_iff_getElem.1 E.up i (L.length - 1) hi (by omega) c)
    · subst c; exact Int.le_refl _
  · rw [g0, g1]
    obtain ⟨j0, h0, e0⟩ := hm _ m0
    obtain ⟨j1, h1, e1⟩ := hm _ m1
    have := o_near h h1 h0
    omega
  · rw [g0]; exact (E.at_ _ m0).2.1
  · rw [g1]; exact (E.at_ _ m1).2.2

/-- what Span answers. -/
def snE (L : List Int) (bd : Int) : Ending := .returned (.tuple #[.agg #[.int .i64 (L.getD 0 0 - bd), .int .i64 (L.getD (L.length - 1) 0 + bd)], .int .i64 0])
set_option maxRecDepth 100000 in
set_option maxHeartbeats 4000000 in
theorem Span_ok {w : World} {v : Value} {n : Nat} {a o : Nat → Int} {e t bd : Int} (A : Cs w v n a o) (h : Tb n a o e) (h0 : 0 ≤ t) (h1 : t ≤ 288230376151711744) (b0 : 0 ≤ bd) (b1 : bd ≤ 1099511627776)
    (hp : 0 < (evs n a o t n).length) (hl : (evs n a o t n).length ≤ 1000000) (hr : ∀ j, j < (evs n a o t n).length → t ≤ (evs n a o t n).getD j 0 ∧ (evs n a o t n).getD j 0 ≤ t + 209715200) :
    Calls Try.prog 9 #[lv v e, .int .i64 t, .int .i64 bd] w fun x w' => x = snE (evs n a o t n) bd ∧ Below w.heap.size w w' := by
  have EK := Lib.hid (fun w (A : Cs w v n a o) => Even_ok A h h0 h1)
  have A0 := Lib.hid A
  generalize evs n a o t n = L at *
  have GA : Hid (∀ j, j < L.length → L[j]? = some (L.getD j 0)) := Lib.hid fun j hj => by rw [List.getD_eq_getElem?_getD, List.getElem?_eq_getElem hj]; rfl
  obtain ⟨q, hq⟩ : ∃ q, L.length = q + 1 := ⟨L.length - 1, by omega⟩
  have HE : Hid (snE L bd = .returned (.tuple #[.agg #[.int .i64 (L.getD 0 0 - bd), .int .i64 (L.getD q 0 + bd)], .int .i64 0])) := Lib.hid (by unfold snE; rw [hq]; rfl)
  rw [HE.out]
  have r0 := hr 0 (by omega)
  have r1 := hr q (by omega)
  have G2 : Hid (L[0]? = some (L.getD 0 0) ∧ L[q]? = some (L.getD q 0)) := Lib.hid ⟨GA.out 0 (by omega), GA.out q (by omega)⟩
  clear HE GA hr h A
  generalize L.getD 0 0 = x0 at *
  generalize L.getD q 0 = xq at *
  unfold lv at *
  go_enter Try.func9, Try.ntmps9
  go_wp2_with fail
  (with_reducible refine (EK.out _ (A0.out.below ?_)).mono ?_)
  · exact balloc (balloc (brefl w) _) _
  rintro x w1 ⟨⟨tv, rfl, ot⟩, hb⟩
  have s0 := (hb.cell (p := ⟨w.heap.size + 1, 0, none⟩) (by simp))
  have s1 := (hb.cell (p := ⟨w.heap.size + 1, 1, none⟩) (by simp))
  have f0 := (hb.frozen (p := ⟨w.heap.size + 1, 0, none⟩) (by simp))
  have f1 := (hb.frozen (p := ⟨w.heap.size + 1, 1, none⟩) (by simp))
  simp [go_sem] at s0 s1 f0 f1
  have z1 : w.heap.size + 1 < w1.heap.size := Nat.lt_of_lt_of_le (by simp) hb.size
  have B1 := Lib.hid (bstep (balloc (balloc (brefl w) _) _) hb)
  obtain ⟨ad, cap, rfl, m1, m2, m3⟩ := ot.ts
  rw [hq] at m1 m3 ⊢
  obtain ⟨bt, o0, rfl, hbt, hL⟩ := m3 (by omega)
  have k0 := hL 0 _ G2.out.1
  have k1 := hL q _ G2.out.2
  rw [Nat.add_zero] at k0
  have zq : (q : Int) ≤ 1000000 := by omega
  clear hb ot m3 hL G2 EK A0 hq
  go_wp2_with fail
  go_region
  all_goals (go_wp2_with fail)
  all_goals exact bodyPost_ret (v := .tuple #[.agg #[.int .i64 (x0 - bd), .int .i64 (xq + bd)], .int .i64 0]) (by simp [results, Try.results9, go_sem, s0, s1, f0, f1]) rfl ⟨rfl, by repeat (first | exact B1.out | exact brefl _ | refine balloc ?_ _ | refine bdrew ?_ _ | refine Below.setCell ?_ (by first | (simp; done) | (simp; omega)) _)⟩
end Go.Proofs.Ytoecgabdjpgleaa.Rd
