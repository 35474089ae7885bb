/-
  The contracts of mac.isKey, sundialref06.Is, sundialref06.SameKey.
  Conditions: none.
-/
import Derived.Test.YtbbcgcfahaljoaaDoorMcA
namespace Go.Proofs.YtbbcgcfahaljoaaDoor.Mc
open Go.ChangeShapes Go.WideShapes Go.ChangeAt Go.RowKit Go.Joins Hs
set_option linter.unusedVariables false
set_option linter.unusedSimpArgs false

set_option maxRecDepth 100000 in
set_option maxHeartbeats 4000000 in
theorem isKey_c (k : KD) (w : World) (hv : ∃ a cap, k.v = .slice a k.l cap) :
    Calls Tryd.prog 22 #[k.val] w fun e w' => e = .returned (.bool (isK k)) ∧ Below w.heap.size w w' := by
  obtain ⟨id, kind, v, l, f⟩ := k
  obtain ⟨a, cap, hv⟩ := hv
  obtain rfl : v = .slice a l cap := hv
  have B := Lib.hid (balloc (brefl w) (.cells #[.int .u32 id, .int .i64 kind, .slice a l cap] 28))
  show Calls Tryd.prog 22 #[.agg #[.int .u32 id, .int .i64 kind, .slice a l cap]] w _
  by_cases c0 : id = 0
  · subst c0
    go_enter Tryd.func22, Tryd.ntmps22
    go_wp2_with fail
    go_ret
    exact ⟨by simp [isK], B.out⟩
  have e0 : (id == 0) = false := by simpa using c0
  by_cases c1 : l < 1
  · have e1 : decide ((l : Int) < 1) = true := by rw [decide_eq_true_iff]; omega
    have r : isK ⟨id, kind, .slice a l cap, l, f⟩ = false := by simp [isK]; omega
    rw [r]
    go_enter Tryd.func22, Tryd.ntmps22
    go_wp2_with fail
    go_ret
    exact ⟨rfl, B.out⟩
  have e1 : decide ((l : Int) < 1) = false := by rw [decide_eq_false_iff_not]; omega
  by_cases c2 : 64 < l
  · have e2 : decide (64 < (l : Int)) = true := by rw [decide_eq_true_iff]; omega
    have r : isK ⟨id, kind, .slice a l cap, l, f⟩ = false := by simp [isK]; omega
    rw [r]
    go_enter Tryd.func22, Tryd.ntmps22
    go_wp2_with fail
    go_ret
    exact ⟨rfl, B.out⟩
  have e2 : decide (64 < (l : Int)) = false := by rw [decide_eq_false_iff_not]; omega
  have h1 : 1 ≤ l := by omega
  have h2 : l ≤ 64 := by omega
  by_cases c3 : kind = 0
  · subst c3
    have r : isK ⟨id, 0, .slice a l cap, l, f⟩ = true := by simp [isK, c0, h1, h2]
    rw [r]
    go_enter Tryd.func22, Tryd.ntmps22
    go_wp2_with fail
    go_ret
    exact ⟨rfl, B.out⟩
  by_cases c4 : kind = 1
  · subst c4
    have r : isK ⟨id, 1, .slice a l cap, l, f⟩ = true := by simp [isK, c0, h1, h2]
    rw [r]
    go_enter Tryd.func22, Tryd.ntmps22
    go_wp2_with fail
    go_ret
    exact ⟨rfl, B.out⟩
  have e3 : (kind == 0) = false := by simpa using c3
  have e4 : (kind == 1) = false := by simpa using c4
  by_cases c5 : kind = 2
  · subst c5
    have e6 : ((l : Int) == 16) = decide (l = 16) := by
      by_cases h : l = 16
      · subst h; rfl
      · rw [decide_eq_false h]; simp; omega
    have r : isK ⟨id, 2, .slice a l cap, l, f⟩ = decide (l = 16) := by simp [isK, c0, h1, h2]
    rw [r]
    go_enter Tryd.func22, Tryd.ntmps22
    go_wp2_with fail
    go_ret
    exact ⟨by simp, B.out⟩
  have e5 : (kind == 2) = false := by simpa using c5
  have r : isK ⟨id, kind, .slice a l cap, l, f⟩ = false := by simp [isK, c3, c4, c5]
  rw [r]
  go_enter Tryd.func22, Tryd.ntmps22
  go_wp2_with fail
  go_ret
  exact ⟨rfl, B.out⟩

set_option maxRecDepth 100000 in
set_option maxHeartbeats 4000000 in
theorem Is_c (k : KD) (w : World) (hv : ∃ a cap, k.v = .slice a k.l cap) :
    Calls Tryd.prog 23 #[k.val] w fun e w' => e = .returned (.bool (isK k)) ∧ Below w.heap.size w w' := by
  obtain ⟨id, kind, v, l, f⟩ := k
  obtain ⟨a, cap, hv⟩ := hv
  obtain rfl : v = .slice a l cap := hv
  have B := Lib.hid (balloc (brefl w) (.cells #[.int .u32 id, .int .i64 kind, .slice a l cap] 28))
  show Calls Tryd.prog 23 #[.agg #[.int .u32 id, .int .i64 kind, .slice a l cap]] w _
  by_cases c0 : id = 0
  · subst c0
    go_enter Tryd.func23, Tryd.ntmps23
    go_wp2_with fail
    go_ret
    exact ⟨by simp [isK], B.out⟩
  have e0 : (id == 0) = false := by simpa using c0
  by_cases c1 : l < 1
  · have e1 : decide ((l : Int) < 1) = true := by rw [decide_eq_true_iff]; omega
    have r : isK ⟨id, kind, .slice a l cap, l, f⟩ = false := by simp [isK]; omega
    rw [r]
    go_enter Tryd.func23, Tryd.ntmps23
    go_wp2_with fail
    go_ret
    exact ⟨rfl, B.out⟩
  have e1 : decide ((l : Int) < 1) = false := by rw [decide_eq_false_iff_not]; omega
  by_cases c2 : 64 < l
  · have e2 : decide (64 < (l : Int)) = true := by rw [decide_eq_true_iff]; omega
    have r : isK ⟨id, kind, .slice a l cap, l, f⟩ = false := by simp [isK]; omega
    rw [r]
    go_enter Tryd.func23, Tryd.ntmps23
    go_wp2_with fail
    go_ret
    exact ⟨rfl, B.out⟩
  have e2 : decide (64 < (l : Int)) = false := by rw [decide_eq_false_iff_not]; omega
  have h1 : 1 ≤ l := by omega
  have h2 : l ≤ 64 := by omega
  by_cases c3 : kind = 0
  · subst c3
    have r : isK ⟨id, 0, .slice a l cap, l, f⟩ = true := by simp [isK, c0, h1, h2]
    rw [r]
    go_enter Tryd.func23, Tryd.ntmps23
    go_wp2_with fail
    go_ret
    exact ⟨rfl, B.out⟩
  by_cases c4 : kind = 1
  · subst c4
    have r : isK ⟨id, 1, .slice a l cap, l, f⟩ = true := by simp [isK, c0, h1, h2]
    rw [r]
    go_enter Tryd.func23, Tryd.ntmps23
    go_wp2_with fail
    go_ret
    exact ⟨rfl, B.out⟩
  have e3 : (kind == 0) = false := by simpa using c3
  have e4 : (kind == 1) = false := by simpa using c4
  by_cases c5 : kind = 2
  · subst c5
    have e6 : ((l : Int) == 16) = decide (l = 16) := by
      by_cases h : l = 16
      · subst h; rfl
      · rw [decide_eq_false h]; simp; omega
    have r : isK ⟨id, 2, .slice a l cap, l, f⟩ = decide (l = 16) := by simp [isK, c0, h1, h2]
    rw [r]
    go_enter Tryd.func23, Tryd.ntmps23
    go_wp2_with fail
    go_ret
    exact ⟨by simp, B.out⟩
  have e5 : (kind == 2) = false := by simpa using c5
  have r : isK ⟨id, kind, .slice a l cap, l, f⟩ = false := by simp [isK, c3, c4, c5]
  rw [r]
  go_enter Tryd.func23, Tryd.ntmps23
  go_wp2_with fail
  go_ret
  exact ⟨rfl, B.out⟩
end Go.Proofs.YtbbcgcfahaljoaaDoor.Mc
