/-
  The program's check of a list of spans, and how many of them hold a time.
  Conditions: none but that the spans lie in memory.
-/
import Derived.Test.YtppflfodkhhfhaaHuG
namespace Go.Proofs.Ytppflfodkhhfhaa.Hu
open Go.RowKit Go.ChangeShapes Go.WideShapes Go.ChangeAt Go.Joins Fl
set_option linter.unusedVariables false
set_option linter.unusedSimpArgs false

theorem Check_any (s : Sn) (w : World) : Calls Try.prog 20 #[NV s] w fun e w' => e = .returned (.int .i64 (if okN s then 0 else 3)) ∧ Below w.heap.size w w' := by
  by_cases h : okN s
  · rw [if_pos h]
    exact (Fx.Check_okx s.lo s.hi w (okN_iff.1 h)).mono fun e w' ⟨h1, h2⟩ => ⟨h1, h2 ▸ balloc (brefl w) _⟩
  · rw [if_neg h]
    exact (Fx.Check_badx s.lo s.hi w (fun q => h (okN_iff.2 q))).mono fun e w' ⟨h1, h2⟩ => ⟨h1, h2 ▸ balloc (brefl w) _⟩
set_option maxRecDepth 100000 in
set_option maxHeartbeats 2000000 in
theorem isRight_c {w : World} {v : Value} {L : List Sn} (h : Hs w v L) (hn : L.length ≤ 8796093022208) :
    Calls Try.prog 14 #[v] w fun e w' => e = .returned (.bool (decide (okL L))) ∧ Below w.heap.size w w' := by
  have HS := Lib.hid h
  obtain ⟨a, cap, rfl, c1, c2, _⟩ := h
  obtain ⟨m, hm⟩ : ∃ m, L.length = m := ⟨_, rfl⟩
  have HM := Lib.hid hm
  by_cases big : 32 < m
  · rw [show decide (okL L) = false from decide_eq_false fun q => by have := q.2; omega]
    have d1 : decide ((32 : Int) < (m : Int)) = true := decide_eq_true (by omega)
    have d2 : decide (32 < m) = true := decide_eq_true big
    rw [hm]
    clear hm
    go_enter Try.func14, Try.ntmps14
    go_wp2_with fail
    go_ret
    exact ⟨rfl, brefl w⟩
  have d1 : decide ((32 : Int) < (m : Int)) = false := decide_eq_false (by omega)
  have d2 : decide (32 < m) = false := decide_eq_false big
  have HO : Hid (∀ b : Bool, ((∀ s ∈ L, okN s) → b = true) → (¬ (∀ s ∈ L, okN s) → b = false) → b = decide (okL L)) := Lib.hid fun b h1 h2 => by
    by_cases c : ∀ s ∈ L, okN s
    · rw [h1 c]
      exact (decide_eq_true ⟨c, by omega⟩).symm
    · rw [h2 c]
      exact (decide_eq_false fun q => c q.1).symm
  rw [hm] at HS c1 hn ⊢
  have m0 : (0 : Int) ≤ (m : Int) := by omega
  have m1 : (m : Int) ≤ 8796093022208 := by omega
  have m2 : (m : Int) ≤ (cap : Int) := by omega
  have m3 : (cap : Int) ≤ 9223372036854775807 := by omega
  clear hm
  go_enter Try.func14, Try.ntmps14
  go_wp2_with fail
  go_loopw [10] (fun iv wr => ∃ k : Nat, k ≤ m ∧ iv = .int .i64 (k : Nat) ∧ (∀ s ∈ L.take k, okN s) ∧ Below w.heap.size w wr) (fun iv _ => m - (intOf iv).toNat)
  case atStart => exact ⟨0, by omega, rfl, by simp, brefl w⟩
  case round =>
    obtain ⟨k, hk, rfl, hok, hb⟩ := hrel
    rename World => wr
    have HB := Lib.hid hb
    have HK := Lib.hid hok
    clear hb hok
    by_cases c : k < m
    · have e1 : decide ((k : Int) < (m : Int)) = true := decide_eq_true (by omega)
      have e2 : decide (k < m) = true := decide_eq_true c
      have k1 : (k : Int) < (m : Int) := by omega
      have wk : IntKind.i64.wrap ((k : Int) + 1) = (k : Int) + 1 := wrap_in (by omega) (by omega)
      obtain ⟨x, hx⟩ : ∃ x, L[k]? = some x := ⟨_, List.getElem?_eq_getElem (by rw [HM.out]; exact c)⟩
      have HX := Lib.hid hx
      obtain ⟨b, off, rfl, y0, y1⟩ := (HS.out.below HB.out).at hx
      clear hx
      by_cases ok : okN x
      · have CK := Lib.hid (fun w => Fx.Check_okx x.lo x.hi w (okN_iff.1 ok))
        have NK := Lib.hid (take_all HX.out HK.out ok)
        obtain ⟨xl, xh⟩ := x
        simp only at y0 y1 CK
        clear ok
        have BA := Lib.hid (balloc HB.out (.cells #[.int .i64 xl, .int .i64 xh] 25))
        go_wp2_with fail
        refine (CK.out _).mono ?_
        rintro e w3 ⟨rfl, rfl⟩
        have B3 := Lib.hid (balloc BA.out (.cells #[.int .i64 xl, .int .i64 xh] 25))
        clear y0 y1
        go_wp2_with fail
        exact ⟨⟨k + 1, by omega, by go_num, NK.out, B3.out⟩, by simp [intOf]; omega⟩
      · have CK := Lib.hid (fun w => Fx.Check_badx x.lo x.hi w (fun q => ok (okN_iff.2 q)))
        have NO : Hid (false = decide (okL L)) := Lib.hid (HO.out false (fun q => absurd (q x (List.mem_of_getElem? HX.out)) ok) (fun _ => rfl))
        obtain ⟨xl, xh⟩ := x
        simp only at y0 y1 CK
        clear ok
        have BA := Lib.hid (balloc HB.out (.cells #[.int .i64 xl, .int .i64 xh] 25))
        go_wp2_with fail
        refine (CK.out _).mono ?_
        rintro e w3 ⟨rfl, rfl⟩
        have B3 := Lib.hid (balloc BA.out (.cells #[.int .i64 xl, .int .i64 xh] 25))
        clear y0 y1
        go_wp2_with fail
        go_ret
        exact ⟨by rw [← NO.out]; rfl, B3.out⟩
    · have e1 : decide ((k : Int) < (m : Int)) = false := decide_eq_false (by omega)
      have e2 : decide (k < m) = false := decide_eq_false c
      obtain rfl : k = m := by omega
      have NO : Hid (true = decide (okL L)) := Lib.hid (HO.out _ (fun _ => rfl) (fun q => by
        refine absurd ?_ q
        have := HK.out
        rwa [List.take_of_length_le (by rw [HM.out]; exact Nat.le_refl _)] at this))
      go_wp2_with fail
      go_ret
      exact ⟨by rw [← NO.out]; rfl, HB.out⟩
set_option maxRecDepth 100000 in
set_option maxHeartbeats 2000000 in
theorem holders_c {w : World} {v : Value} {L : List Sn} (h : Hs w v L) (hn : L.length ≤ 8796093022208) (t : Int) :
    Calls Try.prog 21 #[v, .int .i64 t] w fun e w' => e = .returned (.int .i64 (cnt L t : Nat)) ∧ Below w.heap.size w w' := by
  have HS := Lib.hid h
  obtain ⟨a, cap, rfl, c1, c2, _⟩ := h
  obtain ⟨m, hm⟩ : ∃ m, L.length = m := ⟨_, rfl⟩
  have HM := Lib.hid hm
  have CE : Hid (cnt (L.take m) t = cnt L t) := Lib.hid (by rw [List.take_of_length_le (by rw [hm]; exact Nat.le_refl _)])
  rw [hm] at HS c1 hn ⊢
  have m0 : (0 : Int) ≤ (m : Int) := by omega
  have m1 : (m : Int) ≤ 8796093022208 := by omega
  have m2 : (m : Int) ≤ (cap : Int) := by omega
  have m3 : (cap : Int) ≤ 9223372036854775807 := by omega
  clear hm
  go_enter Try.func21, Try.ntmps21
  go_wp2_with fail
  go_loopw [5, 10] (fun nv iv wr => ∃ k : Nat, k ≤ m ∧ iv = .int .i64 (k : Nat) ∧ nv = .int .i64 (cnt (L.take k) t : Nat) ∧ Below w.heap.size w wr) (fun _ iv _ => m - (intOf iv).toNat)
  case atStart => exact ⟨0, by omega, rfl, rfl, brefl w⟩
  case round =>
    obtain ⟨k, hk, rfl, rfl, hb⟩ := hrel
    rename World => wr
    have HB := Lib.hid hb
    clear hb
    by_cases c : k < m
    · have e1 : decide ((k : Int) < (m : Int)) = true := decide_eq_true (by omega)
      have e2 : decide (k < m) = true := decide_eq_true c
      have k1 : (k : Int) < (m : Int) := by omega
      have wk : IntKind.i64.wrap ((k : Int) + 1) = (k : Int) + 1 := wrap_in (by omega) (by omega)
      obtain ⟨x, hx⟩ : ∃ x, L[k]? = some x := ⟨_, List.getElem?_eq_getElem (by rw [HM.out]; exact c)⟩
      have cl : cnt (L.take k) t ≤ k := Nat.le_trans (cnt_le _ _) (by rw [List.length_take]; omega)
      have CS := Lib.hid (cnt_succ hx t)
      obtain ⟨b, off, rfl, y0, y1⟩ := (HS.out.below HB.out).at hx
      obtain ⟨n, hn2⟩ : ∃ n, cnt (L.take k) t = n := ⟨_, rfl⟩
      rw [hn2] at cl CS ⊢
      have wn : IntKind.i64.wrap ((n : Int) + 1) = (n : Int) + 1 := wrap_in (by omega) (by omega)
      clear hx hn2
      obtain ⟨xl, xh⟩ := x
      replace CS : Hid (cnt (L.take (k + 1)) t = n + if (decide (xl ≤ t) && decide (t ≤ xh)) = true then 1 else 0) := CS
      simp only at y0 y1
      have BA := Lib.hid (balloc HB.out (.cells #[.int .i64 xl, .int .i64 xh] 25))
      cases d1 : decide (xl ≤ t) with
      | true =>
        cases d2 : decide (t ≤ xh) with
        | true =>
          rw [d1, d2] at CS
          go_wp2_with fail
          exact ⟨⟨k + 1, by omega, by go_num, by rw [CS.out]; rfl, BA.out⟩, by simp [intOf]; omega⟩
        | false =>
          rw [d1, d2] at CS
          go_wp2_with fail
          exact ⟨⟨k + 1, by omega, by go_num, by rw [CS.out]; rfl, BA.out⟩, by simp [intOf]; omega⟩
      | false =>
        rw [d1, Bool.false_and] at CS
        go_wp2_with fail
        exact ⟨⟨k + 1, by omega, by go_num, by rw [CS.out]; rfl, BA.out⟩, by simp [intOf]; omega⟩
    · have e1 : decide ((k : Int) < (m : Int)) = false := decide_eq_false (by omega)
      have e2 : decide (k < m) = false := decide_eq_false c
      obtain rfl : k = m := by omega
      rw [CE.out]
      go_wp2_with fail
      go_ret
      exact ⟨rfl, HB.out⟩
end Go.Proofs.Ytppflfodkhhfhaa.Hu
