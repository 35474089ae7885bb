/-
  Contracts of layer 1 over spans: fix.Meet, fix.Cover, fix.Shift, for every argument.
  Conditions: none but that the arguments are of their kinds.
-/
import Derived.Test.YthdkkcibomigcaaFxS
namespace Go.Proofs.Ythdkkcibomigcaa.Fx
open Go.RowKit

theorem Check_okx (lo hi : Int) (w : World) (h : okS lo hi) :
    Calls Try.prog 19 #[.agg #[.int .i64 lo, .int .i64 hi]] w fun e w' => e = .returned (.int .i64 0) ∧ w' = w.alloc (.cells #[.int .i64 lo, .int .i64 hi] 34) := by
  obtain ⟨h1, h2, h3⟩ := h
  have e1 : decide (hi < lo) = false := by rw [decide_eq_false_iff_not]; omega
  go_enter Try.func19, Try.ntmps19
  go_wp2_with fail
  refine (isTime_yes _ _ (by omega) (by omega)).mono ?_
  rintro e w' ⟨rfl, rfl⟩
  go_wp2_with fail
  refine (isTime_yes _ _ (by omega) (by omega)).mono ?_
  rintro e w' ⟨rfl, rfl⟩
  go_wp2_with fail
  go_ret
  exact ⟨rfl, rfl⟩


theorem Check_badx (lo hi : Int) (w : World) (h : ¬ okS lo hi) :
    Calls Try.prog 19 #[.agg #[.int .i64 lo, .int .i64 hi]] w fun e w' => e = .returned (.int .i64 3) ∧ w' = w.alloc (.cells #[.int .i64 lo, .int .i64 hi] 34) := by
  unfold okS at h
  by_cases c1 : -2305843009213693952 ≤ lo ∧ lo ≤ 2305843009213693952
  · obtain ⟨a1, a2⟩ := c1
    by_cases c2 : -2305843009213693952 ≤ hi ∧ hi ≤ 2305843009213693952
    · obtain ⟨b1, b2⟩ := c2
      have e0 : hi < lo := by omega
      have e1 : decide (hi < lo) = true := decide_eq_true e0
      clear h
      go_enter Try.func19, Try.ntmps19
      go_wp2_with fail
      refine (isTime_yes _ _ (by omega) (by omega)).mono ?_
      rintro e w' ⟨rfl, rfl⟩
      go_wp2_with fail
      refine (isTime_yes _ _ (by omega) (by omega)).mono ?_
      rintro e w' ⟨rfl, rfl⟩
      go_wp2_with fail
      go_ret
      exact ⟨rfl, rfl⟩
    · have c3 : hi < -2305843009213693952 ∨ 2305843009213693952 < hi := by omega
      clear h c2
      go_enter Try.func19, Try.ntmps19
      go_wp2_with fail
      refine (isTime_yes _ _ (by omega) (by omega)).mono ?_
      rintro e w' ⟨rfl, rfl⟩
      go_wp2_with fail
      refine (isTime_no _ _ (by omega)).mono ?_
      rintro e w' ⟨rfl, rfl⟩
      go_wp2_with fail
      go_ret
      exact ⟨rfl, rfl⟩
  · have c3 : lo < -2305843009213693952 ∨ 2305843009213693952 < lo := by omega
    clear h c1
    go_enter Try.func19, Try.ntmps19
    go_wp2_with fail
    refine (isTime_no _ _ (by omega)).mono ?_
    rintro e w' ⟨rfl, rfl⟩
    go_wp2_with fail
    go_ret
    exact ⟨rfl, rfl⟩

/-- a span's ends, moved. -/
def shl (lo d : Int) : Int := if lo = -2305843009213693952 then lo else bnd (lo + d)
def shh (hi d : Int) : Int := if hi = 2305843009213693952 then hi else bnd (hi + d)

set_option maxRecDepth 100000 in
set_option maxHeartbeats 1000000 in
theorem Shift_shape (al ah d : Int) (w : World) (h : ¬ okS al ah) :
    Calls Try.prog 20 #[.agg #[.int .i64 al, .int .i64 ah], .int .i64 d] w fun e w' => e = .returned (.tuple #[.agg #[.int .i64 0, .int .i64 0], .int .i64 3]) ∧ Below w.heap.size w w' := by
    have HA := Lib.hid h
    clear h
    go_enter Try.func20, Try.ntmps20
    go_wp2_with fail
    refine (Check_badx _ _ _ HA.out).mono ?_
    rintro e w' ⟨rfl, rfl⟩
    go_wp2_with fail
    exact bodyPost_ret (v := .tuple #[.agg #[.int .i64 0, .int .i64 0], .int .i64 3]) (by simp [results, Try.results20, go_sem]) rfl ⟨rfl, by repeat (first | exact brefl _ | refine balloc ?_ _ | refine bdrew ?_ _ | refine Below.setCell ?_ (by first | (simp; done) | (simp; omega)) _)⟩

set_option maxRecDepth 100000 in
set_option maxHeartbeats 1000000 in
theorem Shift_range (al ah d : Int) (w : World) (h : okS al ah) (hd : d < -2305843009213693952 ∨ 2305843009213693952 < d) :
    Calls Try.prog 20 #[.agg #[.int .i64 al, .int .i64 ah], .int .i64 d] w fun e w' => e = .returned (.tuple #[.agg #[.int .i64 0, .int .i64 0], .int .i64 2]) ∧ Below w.heap.size w w' := by
    have HA := Lib.hid h
    clear h
    go_enter Try.func20, Try.ntmps20
    go_wp2_with fail
    refine (Check_okx _ _ _ HA.out).mono ?_
    rintro e w' ⟨rfl, rfl⟩
    go_wp2_with fail
    refine (isTime_no _ _ hd).mono ?_
    rintro e w' ⟨rfl, rfl⟩
    go_wp2_with fail
    exact bodyPost_ret (v := .tuple #[.agg #[.int .i64 0, .int .i64 0], .int .i64 2]) (by simp [results, Try.results20, go_sem]) rfl ⟨rfl, by repeat (first | exact brefl _ | refine balloc ?_ _ | refine bdrew ?_ _ | refine Below.setCell ?_ (by first | (simp; done) | (simp; omega)) _)⟩

set_option maxRecDepth 100000 in
set_option maxHeartbeats 1000000 in
theorem Shift_ok (al ah d : Int) (w : World) (h : okS al ah) (d1 : -2305843009213693952 ≤ d) (d2 : d ≤ 2305843009213693952) :
    Calls Try.prog 20 #[.agg #[.int .i64 al, .int .i64 ah], .int .i64 d] w fun e w' => e = .returned (.tuple #[.agg #[.int .i64 (shl al d), .int .i64 (shh ah d)], .int .i64 0]) ∧ Below w.heap.size w w' := by
  have HA := Lib.hid h
  obtain ⟨h1, h2, h3⟩ := h
  by_cases c1 : al = -2305843009213693952 <;> by_cases c2 : ah = 2305843009213693952
  · have k1 : (al != -2305843009213693952) = false := by simp [c1]
    have k2 : (ah != 2305843009213693952) = false := by simp [c2]
    have E : Hid (shl al d = al ∧ shh ah d = ah) := by
      constructor
      · unfold shl; rw [if_pos c1]
      · unfold shh; rw [if_pos c2]
    clear c1 c2
    go_enter Try.func20, Try.ntmps20
    go_wp2_with fail
    refine (Check_okx _ _ _ HA.out).mono ?_
    rintro e w' ⟨rfl, rfl⟩
    go_wp2_with fail
    refine (isTime_yes _ _ d1 d2).mono ?_
    rintro e w' ⟨rfl, rfl⟩
    go_wp2_with fail
    rw [E.out.1, E.out.2]
    exact bodyPost_ret (v := .tuple #[.agg #[.int .i64 al, .int .i64 ah], .int .i64 0]) (by simp [results, Try.results20, go_sem]) rfl ⟨rfl, by repeat (first | exact brefl _ | refine balloc ?_ _ | refine bdrew ?_ _ | refine Below.setCell ?_ (by first | (simp; done) | (simp; omega)) _)⟩
  · have k1 : (al != -2305843009213693952) = false := by simp [c1]
    have k2 : (ah != 2305843009213693952) = true := by simp [c2]
    have E : Hid (shl al d = al ∧ shh ah d = bnd (ah + d)) := by
      constructor
      · unfold shl; rw [if_pos c1]
      · unfold shh; rw [if_neg c2]
    clear c1 c2
    go_enter Try.func20, Try.ntmps20
    go_wp2_with fail
    refine (Check_okx _ _ _ HA.out).mono ?_
    rintro e w' ⟨rfl, rfl⟩
    go_wp2_with fail
    refine (isTime_yes _ _ d1 d2).mono ?_
    rintro e w' ⟨rfl, rfl⟩
    go_wp2_with fail
    refine (boundedSum_c _ _ _ (by omega) (by omega) (by omega) (by omega)).mono ?_
    rintro e w' ⟨rfl, rfl⟩
    go_wp2_with fail
    rw [E.out.1, E.out.2]
    exact bodyPost_ret (v := .tuple #[.agg #[.int .i64 al, .int .i64 (bnd (ah + d))], .int .i64 0]) (by simp [results, Try.results20, go_sem]) rfl ⟨rfl, by repeat (first | exact brefl _ | refine balloc ?_ _ | refine bdrew ?_ _ | refine Below.setCell ?_ (by first | (simp; done) | (simp; omega)) _)⟩
  · have k1 : (al != -2305843009213693952) = true := by simp [c1]
    have k2 : (ah != 2305843009213693952) = false := by simp [c2]
    have E : Hid (shl al d = bnd (al + d) ∧ shh ah d = ah) := by
      constructor
      · unfold shl; rw [if_neg c1]
      · unfold shh; rw [if_pos c2]
    clear c1 c2
    go_enter Try.func20, Try.ntmps20
    go_wp2_with fail
    refine (Check_okx _ _ _ HA.out).mono ?_
    rintro e w' ⟨rfl, rfl⟩
    go_wp2_with fail
    refine (isTime_yes _ _ d1 d2).mono ?_
    rintro e w' ⟨rfl, rfl⟩
    go_wp2_with fail
    refine (boundedSum_c _ _ _ (by omega) (by omega) (by omega) (by omega)).mono ?_
    rintro e w' ⟨rfl, rfl⟩
    go_wp2_with fail
    rw [E.out.1, E.out.2]
    exact bodyPost_ret (v := .tuple #[.agg #[.int .i64 (bnd (al + d)), .int .i64 ah], .int .i64 0]) (by simp [results, Try.results20, go_sem]) rfl ⟨rfl, by repeat (first | exact brefl _ | refine balloc ?_ _ | refine bdrew ?_ _ | refine Below.setCell ?_ (by first | (simp; done) | (simp; omega)) _)⟩
  · have k1 : (al != -2305843009213693952) = true := by simp [c1]
    have k2 : (ah != 2305843009213693952) = true := by simp [c2]
    have E : Hid (shl al d = bnd (al + d) ∧ shh ah d = bnd (ah + d)) := by
      constructor
      · unfold shl; rw [if_neg c1]
      · unfold shh; rw [if_neg c2]
    clear c1 c2
    go_enter Try.func20, Try.ntmps20
    go_wp2_with fail
    refine (Check_okx _ _ _ HA.out).mono ?_
    rintro e w' ⟨rfl, rfl⟩
    go_wp2_with fail
    refine (isTime_yes _ _ d1 d2).mono ?_
    rintro e w' ⟨rfl, rfl⟩
    go_wp2_with fail
    refine (boundedSum_c _ _ _ (by omega) (by omega) (by omega) (by omega)).mono ?_
    rintro e w' ⟨rfl, rfl⟩
    go_wp2_with fail
    refine (boundedSum_c _ _ _ (by omega) (by omega) (by omega) (by omega)).mono ?_
    rintro e w' ⟨rfl, rfl⟩
    go_wp2_with fail
    rw [E.out.1, E.out.2]
    exact bodyPost_ret (v := .tuple #[.agg #[.int .i64 (bnd (al + d)), .int .i64 (bnd (ah + d))], .int .i64 0]) (by simp [results, Try.results20, go_sem]) rfl ⟨rfl, by repeat (first | exact brefl _ | refine balloc ?_ _ | refine bdrew ?_ _ | refine Below.setCell ?_ (by first | (simp; done) | (simp; omega)) _)⟩

end Go.Proofs.Ythdkkcibomigcaa.Fx
