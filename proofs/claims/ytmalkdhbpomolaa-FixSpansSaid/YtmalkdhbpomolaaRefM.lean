/-
  Contracts of the document's answer for layer 1 over spans: sundialref01.Meet, Cover, Shift, for every argument.
  Conditions: none but that the arguments are of their kinds.
-/
import Derived.Test.YtmalkdhbpomolaaFxM
import Derived.Test.YtmalkdhbpomolaaRefB
namespace Go.Proofs.Ytmalkdhbpomolaa.Fx
open Go.RowKit

theorem rCheck_okx (lo hi : Int) (w : World) (h : okS lo hi) :
    Calls Try.prog 29 #[.agg #[.int .i64 lo, .int .i64 hi]] w fun e w' => e = .returned (.int .i64 0) ∧ w' = w.alloc (.cells #[.int .i64 lo, .int .i64 hi] 39) := by
  obtain ⟨h1, h2, h3⟩ := h
  have e1 : decide (hi < lo) = false := by rw [decide_eq_false_iff_not]; omega
  go_enter Try.func29, Try.ntmps29
  go_wp2_with fail
  refine (Is_yes _ _ (by omega) (by omega)).mono ?_
  rintro e w' ⟨rfl, rfl⟩
  go_wp2_with fail
  refine (Is_yes _ _ (by omega) (by omega)).mono ?_
  rintro e w' ⟨rfl, rfl⟩
  go_wp2_with fail
  go_ret
  exact ⟨rfl, rfl⟩


theorem rCheck_badx (lo hi : Int) (w : World) (h : ¬ okS lo hi) :
    Calls Try.prog 29 #[.agg #[.int .i64 lo, .int .i64 hi]] w fun e w' => e = .returned (.int .i64 3) ∧ w' = w.alloc (.cells #[.int .i64 lo, .int .i64 hi] 39) := by
  unfold okS at h
  by_cases c1 : -2305843009213693952 ≤ lo ∧ lo ≤ 2305843009213693952
  · obtain ⟨a1, a2⟩ := c1
    by_cases c2 : -2305843009213693952 ≤ hi ∧ hi ≤ 2305843009213693952
    · obtain ⟨b1, b2⟩ := c2
      have e0 : hi < lo := by omega
      have e1 : decide (hi < lo) = true := decide_eq_true e0
      clear h
      go_enter Try.func29, Try.ntmps29
      go_wp2_with fail
      refine (Is_yes _ _ (by omega) (by omega)).mono ?_
      rintro e w' ⟨rfl, rfl⟩
      go_wp2_with fail
      refine (Is_yes _ _ (by omega) (by omega)).mono ?_
      rintro e w' ⟨rfl, rfl⟩
      go_wp2_with fail
      go_ret
      exact ⟨rfl, rfl⟩
    · have c3 : hi < -2305843009213693952 ∨ 2305843009213693952 < hi := by omega
      clear h c2
      go_enter Try.func29, Try.ntmps29
      go_wp2_with fail
      refine (Is_yes _ _ (by omega) (by omega)).mono ?_
      rintro e w' ⟨rfl, rfl⟩
      go_wp2_with fail
      refine (Is_no _ _ (by omega)).mono ?_
      rintro e w' ⟨rfl, rfl⟩
      go_wp2_with fail
      go_ret
      exact ⟨rfl, rfl⟩
  · have c3 : lo < -2305843009213693952 ∨ 2305843009213693952 < lo := by omega
    clear h c1
    go_enter Try.func29, Try.ntmps29
    go_wp2_with fail
    refine (Is_no _ _ (by omega)).mono ?_
    rintro e w' ⟨rfl, rfl⟩
    go_wp2_with fail
    go_ret
    exact ⟨rfl, rfl⟩

set_option maxRecDepth 100000 in
set_option maxHeartbeats 1000000 in
theorem rMeet_ok (al ah bl bh : Int) (w : World) (ha : okS al ah) (hb : okS bl bh) (h : max al bl ≤ min ah bh) :
    Calls Try.prog 23 #[.agg #[.int .i64 al, .int .i64 ah], .agg #[.int .i64 bl, .int .i64 bh]] w fun e w' => e = .returned (.tuple #[.agg #[.int .i64 (max al bl), .int .i64 (min ah bh)], .int .i64 0]) ∧ Below w.heap.size w w' := by
    have HA := Lib.hid ha
    have HB := Lib.hid hb
    have e1 : decide (min ah bh < max al bl) = false := by rw [decide_eq_false_iff_not]; omega
    clear ha hb
    go_enter Try.func23, Try.ntmps23
    go_wp2_with fail
    refine (rCheck_okx _ _ _ HA.out).mono ?_
    rintro e w' ⟨rfl, rfl⟩
    go_wp2_with fail
    refine (rCheck_okx _ _ _ HB.out).mono ?_
    rintro e w' ⟨rfl, rfl⟩
    go_wp2_with fail
    exact bodyPost_ret (v := .tuple #[.agg #[.int .i64 (max al bl), .int .i64 (min ah bh)], .int .i64 0]) (by simp [results, Try.results23, go_sem]) rfl ⟨rfl, by repeat (first | exact brefl _ | refine balloc ?_ _ | refine bdrew ?_ _ | refine Below.setCell ?_ (by first | (simp; done) | (simp; omega)) _)⟩

set_option maxRecDepth 100000 in
set_option maxHeartbeats 1000000 in
theorem rMeet_none (al ah bl bh : Int) (w : World) (ha : okS al ah) (hb : okS bl bh) (h : min ah bh < max al bl) :
    Calls Try.prog 23 #[.agg #[.int .i64 al, .int .i64 ah], .agg #[.int .i64 bl, .int .i64 bh]] w fun e w' => e = .returned (.tuple #[.agg #[.int .i64 0, .int .i64 0], .int .i64 5]) ∧ Below w.heap.size w w' := by
    have HA := Lib.hid ha
    have HB := Lib.hid hb
    have e1 : decide (min ah bh < max al bl) = true := decide_eq_true h
    clear ha hb
    go_enter Try.func23, Try.ntmps23
    go_wp2_with fail
    refine (rCheck_okx _ _ _ HA.out).mono ?_
    rintro e w' ⟨rfl, rfl⟩
    go_wp2_with fail
    refine (rCheck_okx _ _ _ HB.out).mono ?_
    rintro e w' ⟨rfl, rfl⟩
    go_wp2_with fail
    exact bodyPost_ret (v := .tuple #[.agg #[.int .i64 0, .int .i64 0], .int .i64 5]) (by simp [results, Try.results23, go_sem]) rfl ⟨rfl, by repeat (first | exact brefl _ | refine balloc ?_ _ | refine bdrew ?_ _ | refine Below.setCell ?_ (by first | (simp; done) | (simp; omega)) _)⟩

set_option maxRecDepth 100000 in
set_option maxHeartbeats 1000000 in
theorem rMeet_shape (al ah bl bh : Int) (w : World) (h : ¬ (okS al ah ∧ okS bl bh)) :
    Calls Try.prog 23 #[.agg #[.int .i64 al, .int .i64 ah], .agg #[.int .i64 bl, .int .i64 bh]] w fun e w' => e = .returned (.tuple #[.agg #[.int .i64 0, .int .i64 0], .int .i64 3]) ∧ Below w.heap.size w w' := by
  by_cases ha : okS al ah
  · have HA := Lib.hid ha
    have HB : Hid (¬ okS bl bh) := fun hb => h ⟨ha, hb⟩
    clear ha h
    go_enter Try.func23, Try.ntmps23
    go_wp2_with fail
    refine (rCheck_okx _ _ _ HA.out).mono ?_
    rintro e w' ⟨rfl, rfl⟩
    go_wp2_with fail
    refine (rCheck_badx _ _ _ HB.out).mono ?_
    rintro e w' ⟨rfl, rfl⟩
    go_wp2_with fail
    exact bodyPost_ret (v := .tuple #[.agg #[.int .i64 0, .int .i64 0], .int .i64 3]) (by simp [results, Try.results23, go_sem]) rfl ⟨rfl, by repeat (first | exact brefl _ | refine balloc ?_ _ | refine bdrew ?_ _ | refine Below.setCell ?_ (by first | (simp; done) | (simp; omega)) _)⟩
  · have HA := Lib.hid ha
    clear ha h
    go_enter Try.func23, Try.ntmps23
    go_wp2_with fail
    refine (rCheck_badx _ _ _ HA.out).mono ?_
    rintro e w' ⟨rfl, rfl⟩
    go_wp2_with fail
    exact bodyPost_ret (v := .tuple #[.agg #[.int .i64 0, .int .i64 0], .int .i64 3]) (by simp [results, Try.results23, go_sem]) rfl ⟨rfl, by repeat (first | exact brefl _ | refine balloc ?_ _ | refine bdrew ?_ _ | refine Below.setCell ?_ (by first | (simp; done) | (simp; omega)) _)⟩

set_option maxRecDepth 100000 in
set_option maxHeartbeats 1000000 in
theorem rCover_shape (al ah bl bh : Int) (w : World) (h : ¬ (okS al ah ∧ okS bl bh)) :
    Calls Try.prog 25 #[.agg #[.int .i64 al, .int .i64 ah], .agg #[.int .i64 bl, .int .i64 bh]] w fun e w' => e = .returned (.tuple #[.agg #[.int .i64 0, .int .i64 0], .int .i64 3]) ∧ Below w.heap.size w w' := by
  by_cases ha : okS al ah
  · have HA := Lib.hid ha
    have HB : Hid (¬ okS bl bh) := fun hb => h ⟨ha, hb⟩
    clear ha h
    go_enter Try.func25, Try.ntmps25
    go_wp2_with fail
    refine (rCheck_okx _ _ _ HA.out).mono ?_
    rintro e w' ⟨rfl, rfl⟩
    go_wp2_with fail
    refine (rCheck_badx _ _ _ HB.out).mono ?_
    rintro e w' ⟨rfl, rfl⟩
    go_wp2_with fail
    exact bodyPost_ret (v := .tuple #[.agg #[.int .i64 0, .int .i64 0], .int .i64 3]) (by simp [results, Try.results25, go_sem]) rfl ⟨rfl, by repeat (first | exact brefl _ | refine balloc ?_ _ | refine bdrew ?_ _ | refine Below.setCell ?_ (by first | (simp; done) | (simp; omega)) _)⟩
  · have HA := Lib.hid ha
    clear ha h
    go_enter Try.func25, Try.ntmps25
    go_wp2_with fail
    refine (rCheck_badx _ _ _ HA.out).mono ?_
    rintro e w' ⟨rfl, rfl⟩
    go_wp2_with fail
    exact bodyPost_ret (v := .tuple #[.agg #[.int .i64 0, .int .i64 0], .int .i64 3]) (by simp [results, Try.results25, go_sem]) rfl ⟨rfl, by repeat (first | exact brefl _ | refine balloc ?_ _ | refine bdrew ?_ _ | refine Below.setCell ?_ (by first | (simp; done) | (simp; omega)) _)⟩

set_option maxRecDepth 100000 in
set_option maxHeartbeats 1000000 in
theorem rCover_ok (al ah bl bh : Int) (w : World) (ha : okS al ah) (hb : okS bl bh) :
    Calls Try.prog 25 #[.agg #[.int .i64 al, .int .i64 ah], .agg #[.int .i64 bl, .int .i64 bh]] w fun e w' => e = .returned (.tuple #[.agg #[.int .i64 (min al bl), .int .i64 (max ah bh)], .int .i64 0]) ∧ Below w.heap.size w w' := by
    have HA := Lib.hid ha
    have HB := Lib.hid hb
    clear ha hb
    go_enter Try.func25, Try.ntmps25
    go_wp2_with fail
    refine (rCheck_okx _ _ _ HA.out).mono ?_
    rintro e w' ⟨rfl, rfl⟩
    go_wp2_with fail
    refine (rCheck_okx _ _ _ HB.out).mono ?_
    rintro e w' ⟨rfl, rfl⟩
    go_wp2_with fail
    exact bodyPost_ret (v := .tuple #[.agg #[.int .i64 (min al bl), .int .i64 (max ah bh)], .int .i64 0]) (by simp [results, Try.results25, go_sem]) rfl ⟨rfl, by repeat (first | exact brefl _ | refine balloc ?_ _ | refine bdrew ?_ _ | refine Below.setCell ?_ (by first | (simp; done) | (simp; omega)) _)⟩

set_option maxRecDepth 100000 in
set_option maxHeartbeats 1000000 in
theorem rShift_shape (al ah d : Int) (w : World) (h : ¬ okS al ah) :
    Calls Try.prog 27 #[.agg #[.int .i64 al, .int .i64 ah], .int .i64 d] w fun e w' => e = .returned (.tuple #[.agg #[.int .i64 0, .int .i64 0], .int .i64 3]) ∧ Below w.heap.size w w' := by
    have HA := Lib.hid h
    clear h
    go_enter Try.func27, Try.ntmps27
    go_wp2_with fail
    refine (rCheck_badx _ _ _ HA.out).mono ?_
    rintro e w' ⟨rfl, rfl⟩
    go_wp2_with fail
    exact bodyPost_ret (v := .tuple #[.agg #[.int .i64 0, .int .i64 0], .int .i64 3]) (by simp [results, Try.results27, go_sem]) rfl ⟨rfl, by repeat (first | exact brefl _ | refine balloc ?_ _ | refine bdrew ?_ _ | refine Below.setCell ?_ (by first | (simp; done) | (simp; omega)) _)⟩

set_option maxRecDepth 100000 in
set_option maxHeartbeats 1000000 in
theorem rShift_range (al ah d : Int) (w : World) (h : okS al ah) (hd : d < -2305843009213693952 ∨ 2305843009213693952 < d) :
    Calls Try.prog 27 #[.agg #[.int .i64 al, .int .i64 ah], .int .i64 d] w fun e w' => e = .returned (.tuple #[.agg #[.int .i64 0, .int .i64 0], .int .i64 2]) ∧ Below w.heap.size w w' := by
    have HA := Lib.hid h
    clear h
    go_enter Try.func27, Try.ntmps27
    go_wp2_with fail
    refine (rCheck_okx _ _ _ HA.out).mono ?_
    rintro e w' ⟨rfl, rfl⟩
    go_wp2_with fail
    refine (Is_no _ _ hd).mono ?_
    rintro e w' ⟨rfl, rfl⟩
    go_wp2_with fail
    exact bodyPost_ret (v := .tuple #[.agg #[.int .i64 0, .int .i64 0], .int .i64 2]) (by simp [results, Try.results27, go_sem]) rfl ⟨rfl, by repeat (first | exact brefl _ | refine balloc ?_ _ | refine bdrew ?_ _ | refine Below.setCell ?_ (by first | (simp; done) | (simp; omega)) _)⟩

set_option maxRecDepth 100000 in
set_option maxHeartbeats 1000000 in
theorem rShift_ok (al ah d : Int) (w : World) (h : okS al ah) (d1 : -2305843009213693952 ≤ d) (d2 : d ≤ 2305843009213693952) :
    Calls Try.prog 27 #[.agg #[.int .i64 al, .int .i64 ah], .int .i64 d] w fun e w' => e = .returned (.tuple #[.agg #[.int .i64 (shl al d), .int .i64 (shh ah d)], .int .i64 0]) ∧ Below w.heap.size w w' := by
  have HA := Lib.hid h
  obtain ⟨h1, h2, h3⟩ := h
  by_cases c1 : al = -2305843009213693952 <;> by_cases c2 : ah = 2305843009213693952
  · have k1 : (al != -2305843009213693952) = false := by simp [c1]
    have k2 : (ah != 2305843009213693952) = false := by simp [c2]
    have E : Hid (shl al d = al ∧ shh ah d = ah) := by
      constructor
      · unfold shl; rw [if_pos c1]
      · unfold shh; rw [if_pos c2]
    clear c1 c2
    go_enter Try.func27, Try.ntmps27
    go_wp2_with fail
    refine (rCheck_okx _ _ _ HA.out).mono ?_
    rintro e w' ⟨rfl, rfl⟩
    go_wp2_with fail
    refine (Is_yes _ _ d1 d2).mono ?_
    rintro e w' ⟨rfl, rfl⟩
    go_wp2_with fail
    rw [E.out.1, E.out.2]
    exact bodyPost_ret (v := .tuple #[.agg #[.int .i64 al, .int .i64 ah], .int .i64 0]) (by simp [results, Try.results27, go_sem]) rfl ⟨rfl, by repeat (first | exact brefl _ | refine balloc ?_ _ | refine bdrew ?_ _ | refine Below.setCell ?_ (by first | (simp; done) | (simp; omega)) _)⟩
  · have k1 : (al != -2305843009213693952) = false := by simp [c1]
    have k2 : (ah != 2305843009213693952) = true := by simp [c2]
    have E : Hid (shl al d = al ∧ shh ah d = bnd (ah + d)) := by
      constructor
      · unfold shl; rw [if_pos c1]
      · unfold shh; rw [if_neg c2]
    clear c1 c2
    go_enter Try.func27, Try.ntmps27
    go_wp2_with fail
    refine (rCheck_okx _ _ _ HA.out).mono ?_
    rintro e w' ⟨rfl, rfl⟩
    go_wp2_with fail
    refine (Is_yes _ _ d1 d2).mono ?_
    rintro e w' ⟨rfl, rfl⟩
    go_wp2_with fail
    refine (Bound_c _ _).mono ?_
    rintro e w' ⟨rfl, rfl⟩
    go_wp2_with fail
    rw [E.out.1, E.out.2]
    exact bodyPost_ret (v := .tuple #[.agg #[.int .i64 al, .int .i64 (bnd (ah + d))], .int .i64 0]) (by simp [results, Try.results27, go_sem]) rfl ⟨rfl, by repeat (first | exact brefl _ | refine balloc ?_ _ | refine bdrew ?_ _ | refine Below.setCell ?_ (by first | (simp; done) | (simp; omega)) _)⟩
  · have k1 : (al != -2305843009213693952) = true := by simp [c1]
    have k2 : (ah != 2305843009213693952) = false := by simp [c2]
    have E : Hid (shl al d = bnd (al + d) ∧ shh ah d = ah) := by
      constructor
      · unfold shl; rw [if_neg c1]
      · unfold shh; rw [if_pos c2]
    clear c1 c2
    go_enter Try.func27, Try.ntmps27
    go_wp2_with fail
    refine (rCheck_okx _ _ _ HA.out).mono ?_
    rintro e w' ⟨rfl, rfl⟩
    go_wp2_with fail
    refine (Is_yes _ _ d1 d2).mono ?_
    rintro e w' ⟨rfl, rfl⟩
    go_wp2_with fail
    refine (Bound_c _ _).mono ?_
    rintro e w' ⟨rfl, rfl⟩
    go_wp2_with fail
    rw [E.out.1, E.out.2]
    exact bodyPost_ret (v := .tuple #[.agg #[.int .i64 (bnd (al + d)), .int .i64 ah], .int .i64 0]) (by simp [results, Try.results27, go_sem]) rfl ⟨rfl, by repeat (first | exact brefl _ | refine balloc ?_ _ | refine bdrew ?_ _ | refine Below.setCell ?_ (by first | (simp; done) | (simp; omega)) _)⟩
  · have k1 : (al != -2305843009213693952) = true := by simp [c1]
    have k2 : (ah != 2305843009213693952) = true := by simp [c2]
    have E : Hid (shl al d = bnd (al + d) ∧ shh ah d = bnd (ah + d)) := by
      constructor
      · unfold shl; rw [if_neg c1]
      · unfold shh; rw [if_neg c2]
    clear c1 c2
    go_enter Try.func27, Try.ntmps27
    go_wp2_with fail
    refine (rCheck_okx _ _ _ HA.out).mono ?_
    rintro e w' ⟨rfl, rfl⟩
    go_wp2_with fail
    refine (Is_yes _ _ d1 d2).mono ?_
    rintro e w' ⟨rfl, rfl⟩
    go_wp2_with fail
    refine (Bound_c _ _).mono ?_
    rintro e w' ⟨rfl, rfl⟩
    go_wp2_with fail
    refine (Bound_c _ _).mono ?_
    rintro e w' ⟨rfl, rfl⟩
    go_wp2_with fail
    rw [E.out.1, E.out.2]
    exact bodyPost_ret (v := .tuple #[.agg #[.int .i64 (bnd (al + d)), .int .i64 (bnd (ah + d))], .int .i64 0]) (by simp [results, Try.results27, go_sem]) rfl ⟨rfl, by repeat (first | exact brefl _ | refine balloc ?_ _ | refine bdrew ?_ _ | refine Below.setCell ?_ (by first | (simp; done) | (simp; omega)) _)⟩

end Go.Proofs.Ytmalkdhbpomolaa.Fx
