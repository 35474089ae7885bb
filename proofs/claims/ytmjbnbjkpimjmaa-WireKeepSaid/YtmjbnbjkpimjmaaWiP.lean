/-
  wire.cut of bytes that are too few, too many, or of no version.
  Conditions: none.
-/
import Derived.Test.YtmjbnbjkpimjmaaWjD
namespace Go.Proofs.Ytmjbnbjkpimjmaa.Wi
open Go.RowKit Go.ChangeShapes Go.WideShapes Go.ChangeAt Go.Joins By
set_option linter.unusedVariables false
set_option linter.unusedSimpArgs false

/-- nothing is cut. -/
def pz : Value := .agg #[.slice none 0 0, .slice none 0 0, .slice none 0 0, .int .i64 0]
theorem ver_eq (f : Nat → Nat) : (hd f).ver = ((f 0 / 8 % 8 : Nat) : Int) := rfl
set_option maxRecDepth 100000 in
set_option maxHeartbeats 1000000 in
theorem cut_short (a : Option Addr) (n cap : Nat) (h : n < 48 ∨ n % 4 ≠ 0) (hn : n ≤ 140737488351232) (w : World) :
    Calls Try.prog 27 #[.slice a n cap] w fun e w' => e = .returned (.tuple #[pz, .int .i64 20]) ∧ Below w.heap.size w w' := by
  have q : (n : Int).tmod 4 = (n : Int) % 4 := Int.tmod_eq_emod_of_nonneg (by omega)
  have q0 : (0 : Int) ≤ (n : Int) := by omega
  have q1 : (n : Int) ≤ 140737488351232 := by omega
  by_cases c : n < 48
  · have e1 : decide ((n : Int) < 48) = true := decide_eq_true (by omega)
    clear h
    go_enter Try.func27, Try.ntmps27
    go_wp2_with fail
    exact bodyPost_ret (v := .tuple #[.agg #[.slice none 0 0, .slice none 0 0, .slice none 0 0, .int .i64 0], .int .i64 20]) (by simp [results, Try.results27, go_sem]) rfl ⟨rfl, balloc (brefl w) _⟩
  · have e1 : decide ((n : Int) < 48) = false := decide_eq_false (by omega)
    have e2 : ((n : Int) % 4 != 0) = true := by simp; omega
    clear h
    go_enter Try.func27, Try.ntmps27
    go_wp2_with fail
    exact bodyPost_ret (v := .tuple #[.agg #[.slice none 0 0, .slice none 0 0, .slice none 0 0, .int .i64 0], .int .i64 20]) (by simp [results, Try.results27, go_sem]) rfl ⟨rfl, balloc (brefl w) _⟩
set_option maxRecDepth 100000 in
set_option maxHeartbeats 1000000 in
theorem cut_long (a : Option Addr) (n cap : Nat) (h : ¬ (n < 48 ∨ n % 4 ≠ 0)) (h2 : 1024 < n) (hn : n ≤ 140737488351232) (w : World) :
    Calls Try.prog 27 #[.slice a n cap] w fun e w' => e = .returned (.tuple #[pz, .int .i64 21]) ∧ Below w.heap.size w w' := by
  have q : (n : Int).tmod 4 = (n : Int) % 4 := Int.tmod_eq_emod_of_nonneg (by omega)
  have q0 : (0 : Int) ≤ (n : Int) := by omega
  have q1 : (n : Int) ≤ 140737488351232 := by omega
  have e1 : decide ((n : Int) < 48) = false := decide_eq_false (by omega)
  have e2 : ((n : Int) % 4 != 0) = false := by simp; omega
  have e3 : decide ((1024 : Int) < (n : Int)) = true := decide_eq_true (by omega)
  clear h
  go_enter Try.func27, Try.ntmps27
  go_wp2_with fail
  exact bodyPost_ret (v := .tuple #[.agg #[.slice none 0 0, .slice none 0 0, .slice none 0 0, .int .i64 0], .int .i64 21]) (by simp [results, Try.results27, go_sem]) rfl ⟨rfl, balloc (brefl w) _⟩
set_option maxRecDepth 100000 in
set_option maxHeartbeats 1000000 in
theorem cut_ver {b o n cap : Nat} {f : Nat → Nat} {w : World} (B : Bs w b o n f) (h : ¬ (n < 48 ∨ n % 4 ≠ 0)) (h2 : ¬ 1024 < n) (h3 : btw (hd f).ver 1 4 = false) :
    Calls Try.prog 27 #[.slice (some ⟨b, o, none⟩) n cap] w fun e w' => e = .returned (.tuple #[pz, .int .i64 22]) ∧ Below w.heap.size w w' := by
  have q : (n : Int).tmod 4 = (n : Int) % 4 := Int.tmod_eq_emod_of_nonneg (by omega)
  have q0 : (0 : Int) ≤ (n : Int) := by omega
  have q1 : (n : Int) ≤ 1024 := by omega
  have e1 : decide ((n : Int) < 48) = false := decide_eq_false (by omega)
  have e2 : ((n : Int) % 4 != 0) = false := by simp; omega
  have e3 : decide ((1024 : Int) < (n : Int)) = false := decide_eq_false (by omega)
  have HV := Lib.hid (fun z (k : Below w.heap.size w z) => version_c cap (B.below k) (by omega))
  have HI := Lib.hid (fun z => isVersion_c (f 0 / 8 % 8 : Nat) z)
  rw [ver_eq] at h3
  rw [h3] at HI
  clear h h2 B h3
  go_enter Try.func27, Try.ntmps27
  go_wp2_with fail
  refine (HV.out _ (balloc (brefl w) _)).mono ?_
  rintro e w1 ⟨rfl, rfl⟩
  generalize (f 0 / 8 % 8) = vv at *
  go_wp2_with fail
  refine (HI.out _).mono ?_
  rintro e w1 ⟨rfl, rfl⟩
  go_wp2_with fail
  exact bodyPost_ret (v := .tuple #[.agg #[.slice none 0 0, .slice none 0 0, .slice none 0 0, .int .i64 0], .int .i64 22]) (by simp [results, Try.results27, go_sem]) rfl ⟨rfl, balloc (brefl w) _⟩
end Go.Proofs.Ytmjbnbjkpimjmaa.Wi
