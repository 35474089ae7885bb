/-
  The contracts of sundialref03.value and sundialref03.Parse: ten bytes that are the text of the date that they say, that date; else ErrText.
  Conditions: none.
-/
import Derived.Test.YtooinoccijfgiaaDoorCvQ
import Derived.Deep.RegionHeld3
import Derived.Deep.CutRange
namespace Go.Proofs.YtooinoccijfgiaaDoor.Cv
open Go.RowKit
set_option linter.unusedVariables false
set_option linter.unusedSimpArgs false

def va (x : ByteArray) : Nat → Int
  | 0 => 0
  | k + 1 => 10 * va x k + gb x k - 48
theorem va_bd (x : ByteArray) : ∀ k, va x k ≤ 100 * tens k - 100 ∧ -(100 * tens k - 100) ≤ va x k
  | 0 => by simp [va, tens]
  | k + 1 => by
    have a := va_bd x k
    have b := gb_bd x k
    simp only [va, tens]
    omega
theorem va_four (x : ByteArray) {k : Nat} (h : k ≤ 4) : va x k ≤ 1000000 ∧ -1000000 ≤ va x k := by
  have a := va_bd x k
  have b := tens_le h
  have c : tens 4 = 10000 := by decide
  omega

set_option maxRecDepth 100000 in
set_option maxHeartbeats 1000000 in
theorem rvalue_c (x : ByteArray) (w : World) (hx : x.size ≤ 4) :
    Calls Tryd.prog 36 #[.string x] w fun e w' => e = .returned (.int .i64 (va x x.size)) ∧ w' = w := by
  go_enter Tryd.func36, Tryd.ntmps36
  go_wp2_with fail
  go_loop [3, 4] (fun n i => ∃ k : Nat, k ≤ x.size ∧ i = .int .i64 k ∧ n = .int .i64 (va x k)) (fun _ i => x.size - (intOf i).toNat)
  case atStart => exact ⟨0, Nat.zero_le _, rfl, rfl⟩
  case round =>
    obtain ⟨k, hk, rfl, rfl⟩ := hrel
    have B := va_four x (k := k) (by omega)
    have S : Hid (va x (k + 1) = 10 * va x k + gb x k - 48) := rfl
    have hs : (x.size : Int) ≤ 4 := by omega
    by_cases c : k < x.size
    · have e0 : decide ((k : Int) < (x.size : Int)) = true := by rw [decide_eq_true_iff]; omega
      have i0 : (0 : Int) ≤ (k : Int) := by omega
      have i1 : (k : Int) < (x.size : Int) := by omega
      have G := gb_at x k c
      have G2 := gb_bd x k
      generalize gb x k = g at *
      generalize va x k = v at *
      obtain ⟨B1, B2⟩ := B
      obtain ⟨G3, G4⟩ := G2
      go_wp2_with fail
      go_round
      case rel => exact ⟨k + 1, by omega, by go_num, by rw [S.out]⟩
      case measure => simp [intOf]; omega
    · have e0 : decide ((k : Int) < (x.size : Int)) = false := by rw [decide_eq_false_iff_not]; omega
      obtain rfl : k = x.size := by omega
      go_wp2_with fail
      go_ret
      exact ⟨rfl, rfl⟩

theorem toList_ne {t s : ByteArray} (k : ¬ t = s) : (t.toList == s.toList) = false := by
  rw [beq_eq_false_iff_ne]
  intro e
  rw [Lib.toList_data, Lib.toList_data] at e
  exact k (ByteArray.ext (Array.toList_inj.1 e))
theorem ext_list (s : ByteArray) (a b : Nat) : (s.extract a b).data.toList = (s.data.toList.drop a).take (b - a) := by
  rw [ByteArray.data_extract, Array.toList_extract]
  try simp [List.extract]
theorem gb_ext (s : ByteArray) (a b i : Nat) (h : i < b - a) : gb (s.extract a b) i = gb s (a + i) := by
  unfold gb
  rw [ext_list]
  simp [List.getD_eq_getElem?_getD, List.getElem?_take, List.getElem?_drop, h]
theorem ext_size (s : ByteArray) (a b : Nat) (hb : b ≤ s.size) : (s.extract a b).size = b - a := by
  rw [ByteArray.size_extract]
  omega
theorem rvalue_Y (s : ByteArray) (hs : s.size = 10) (w : World) :
    Calls Tryd.prog 36 #[.string (s.extract 0 4)] w fun e w' => e = .returned (.int .i64 (tY s)) ∧ w' = w := by
  have z := ext_size s 0 4 (by omega)
  have := rvalue_c (s.extract 0 4) w (by omega)
  rw [z] at this
  have e : va (s.extract 0 4) (4 - 0) = tY s := by
    simp only [va, Nat.sub_zero]
    rw [gb_ext s 0 4 0 (by omega), gb_ext s 0 4 1 (by omega), gb_ext s 0 4 2 (by omega), gb_ext s 0 4 3 (by omega), tY_eq]
    simp only [Nat.zero_add]
    omega
  rwa [e] at this
theorem rvalue_M (s : ByteArray) (hs : s.size = 10) (w : World) :
    Calls Tryd.prog 36 #[.string (s.extract 5 7)] w fun e w' => e = .returned (.int .i64 (tM s)) ∧ w' = w := by
  have z := ext_size s 5 7 (by omega)
  have := rvalue_c (s.extract 5 7) w (by omega)
  rw [z] at this
  have e : va (s.extract 5 7) (7 - 5) = tM s := by
    show va (s.extract 5 7) 2 = tM s
    simp only [va]
    rw [gb_ext s 5 7 0 (by omega), gb_ext s 5 7 1 (by omega), tM_eq]
    simp only [Nat.add_zero, Nat.reduceAdd]
    omega
  rwa [e] at this
theorem rvalue_D (s : ByteArray) (hs : s.size = 10) (w : World) :
    Calls Tryd.prog 36 #[.string (s.extract 8 10)] w fun e w' => e = .returned (.int .i64 (tD s)) ∧ w' = w := by
  have z := ext_size s 8 10 (by omega)
  have := rvalue_c (s.extract 8 10) w (by omega)
  rw [z] at this
  have e : va (s.extract 8 10) (10 - 8) = tD s := by
    show va (s.extract 8 10) 2 = tD s
    simp only [va]
    rw [gb_ext s 8 10 0 (by omega), gb_ext s 8 10 1 (by omega), tD_eq]
    simp only [Nat.add_zero, Nat.reduceAdd]
    omega
  rwa [e] at this

set_option maxRecDepth 100000 in
theorem rParse_len (s : ByteArray) (w : World) (hs : ¬ s.size = 10) :
    Calls Tryd.prog 22 #[.string s] w fun e w' => e = .returned (.tuple #[.agg #[.int .i64 0, .int .i64 0, .int .i64 0], .int .i64 4]) ∧ Below w.heap.size w w' := by
  have e1 : ((s.size : Int) != 10) = true := by simp; omega
  go_enter Tryd.func22, Tryd.ntmps22
  go_wp2_with fail
  exact bodyPost_ret (v := .tuple #[.agg #[.int .i64 0, .int .i64 0, .int .i64 0], .int .i64 4]) (by simp [results, Tryd.results22, go_sem]) rfl ⟨rfl, by repeat (first | with_reducible exact brefl _ | with_reducible refine balloc ?_ _ | with_reducible refine Below.setCell ?_ (by first | (simp; done) | (simp; omega)) _)⟩

set_option maxRecDepth 100000 in
set_option maxHeartbeats 4000000 in
theorem rParse_is (s : ByteArray) (w : World) (hs : s.size = 10) (h : ok (tY s) (tM s) (tD s)) (k : txt (tY s) (tM s) (tD s) = s) :
    Calls Tryd.prog 22 #[.string s] w fun e w' => e = .returned (.tuple #[.agg #[.int .i64 (tY s), .int .i64 (tM s), .int .i64 (tD s)], .int .i64 0]) ∧ Below w.heap.size w w' := by
  have e0 : (s.size : Int) = 10 := by omega
  have V0 := Lib.hid (rvalue_Y s hs)
  have V1 := Lib.hid (rvalue_M s hs)
  have V2 := Lib.hid (rvalue_D s hs)
  have X := Lib.hid (fun w => rText_ok (tY s) (tM s) (tD s) w h)
  rw [k] at X
  clear h k
  go_enter Tryd.func22, Tryd.ntmps22
  go_wp2_with fail
  go_region_held3 (fun w' => w'.cell? ⟨w.heap.size, 0, none⟩ = some (.int .i64 0)) (go_keep)
    (first | (go_at_call 36; with_reducible refine (V0.out _).mono ?_; rintro e w' ⟨rfl, rfl⟩) | (go_at_call 36; with_reducible refine (V1.out _).mono ?_; rintro e w' ⟨rfl, rfl⟩) | (go_at_call 36; with_reducible refine (V2.out _).mono ?_; rintro e w' ⟨rfl, rfl⟩))
  all_goals
    clear V0 V1 V2
    go_wp2_with fail
    refine (X.out _).mono ?_
    rintro e w3 ⟨rfl, hb⟩
    have A := Lib.hid ((((Dt.new w 0 0 0).alloc (.cells #[.int .i64 (tY s), .int .i64 (tM s), .int .i64 (tD s)] 23)).drewN 1).below hb)
    have B := Lib.hid (((Dt.new1 w (.cells #[.int .i64 0, .int .i64 0, .int .i64 0] 23) (tY s) (tM s) (tD s)).drewN 1).below hb)
    have HB := Lib.hid (bstep (bdrew (balloc (balloc (brefl w) (.cells #[.int .i64 0, .int .i64 0, .int .i64 0] 23)) (.cells #[.int .i64 (tY s), .int .i64 (tM s), .int .i64 (tD s)] 23)) 1) hb)
    clear hb
    obtain ⟨a1, a2, a3, a4, a5, a6, a7⟩ := A.out
    obtain ⟨b1, b2, b3, b4, b5, b6, b7⟩ := B.out
    go_wp2_with fail
    exact bodyPost_ret (v := .tuple #[.agg #[.int .i64 (tY s), .int .i64 (tM s), .int .i64 (tD s)], .int .i64 0]) (by simp [results, Tryd.results22, go_sem, a2, a3, a4]) rfl ⟨rfl, by repeat (first | with_reducible exact HB.out | with_reducible exact brefl _ | with_reducible refine balloc ?_ _ | with_reducible refine Below.setCell ?_ (by first | (simp; done) | (simp; omega)) _)⟩

set_option maxRecDepth 100000 in
set_option maxHeartbeats 4000000 in
theorem rParse_ne (s : ByteArray) (w : World) (hs : s.size = 10) (h : ok (tY s) (tM s) (tD s)) (k : ¬ txt (tY s) (tM s) (tD s) = s) :
    Calls Tryd.prog 22 #[.string s] w fun e w' => e = .returned (.tuple #[.agg #[.int .i64 0, .int .i64 0, .int .i64 0], .int .i64 4]) ∧ Below w.heap.size w w' := by
  have e0 : (s.size : Int) = 10 := by omega
  have V0 := Lib.hid (rvalue_Y s hs)
  have V1 := Lib.hid (rvalue_M s hs)
  have V2 := Lib.hid (rvalue_D s hs)
  have X := Lib.hid (fun w => rText_ok (tY s) (tM s) (tD s) w h)
  generalize txt (tY s) (tM s) (tD s) = t at *
  have k1 := toList_ne k
  clear h
  go_enter Tryd.func22, Tryd.ntmps22
  go_wp2_with fail
  go_region_held3 (fun w' => w'.cell? ⟨w.heap.size, 0, none⟩ = some (.int .i64 0)) (go_keep)
    (first | (go_at_call 36; with_reducible refine (V0.out _).mono ?_; rintro e w' ⟨rfl, rfl⟩) | (go_at_call 36; with_reducible refine (V1.out _).mono ?_; rintro e w' ⟨rfl, rfl⟩) | (go_at_call 36; with_reducible refine (V2.out _).mono ?_; rintro e w' ⟨rfl, rfl⟩))
  all_goals
    clear V0 V1 V2
    go_wp2_with fail
    refine (X.out _).mono ?_
    rintro e w3 ⟨rfl, hb⟩
    have A := Lib.hid ((((Dt.new w 0 0 0).alloc (.cells #[.int .i64 (tY s), .int .i64 (tM s), .int .i64 (tD s)] 23)).drewN 1).below hb)
    have B := Lib.hid (((Dt.new1 w (.cells #[.int .i64 0, .int .i64 0, .int .i64 0] 23) (tY s) (tM s) (tD s)).drewN 1).below hb)
    have HB := Lib.hid (bstep (bdrew (balloc (balloc (brefl w) (.cells #[.int .i64 0, .int .i64 0, .int .i64 0] 23)) (.cells #[.int .i64 (tY s), .int .i64 (tM s), .int .i64 (tD s)] 23)) 1) hb)
    clear hb
    obtain ⟨a1, a2, a3, a4, a5, a6, a7⟩ := A.out
    obtain ⟨b1, b2, b3, b4, b5, b6, b7⟩ := B.out
    go_wp2_with fail
    exact bodyPost_ret (v := .tuple #[.agg #[.int .i64 0, .int .i64 0, .int .i64 0], .int .i64 4]) (by simp [results, Tryd.results22, go_sem, a2, a3, a4]) rfl ⟨rfl, by repeat (first | with_reducible exact HB.out | with_reducible exact brefl _ | with_reducible refine balloc ?_ _ | with_reducible refine Below.setCell ?_ (by first | (simp; done) | (simp; omega)) _)⟩

set_option maxRecDepth 100000 in
set_option maxHeartbeats 4000000 in
theorem rParse_no (s : ByteArray) (w : World) (hs : s.size = 10) (h : ¬ ok (tY s) (tM s) (tD s)) :
    Calls Tryd.prog 22 #[.string s] w fun e w' => e = .returned (.tuple #[.agg #[.int .i64 0, .int .i64 0, .int .i64 0], .int .i64 4]) ∧ Below w.heap.size w w' := by
  have e0 : (s.size : Int) = 10 := by omega
  have V0 := Lib.hid (rvalue_Y s hs)
  have V1 := Lib.hid (rvalue_M s hs)
  have V2 := Lib.hid (rvalue_D s hs)
  have X := Lib.hid (fun w => rText_bad (tY s) (tM s) (tD s) w h)
  clear h
  go_enter Tryd.func22, Tryd.ntmps22
  go_wp2_with fail
  go_region_held3 (fun w' => w'.cell? ⟨w.heap.size, 0, none⟩ = some (.int .i64 0)) (go_keep)
    (first | (go_at_call 36; with_reducible refine (V0.out _).mono ?_; rintro e w' ⟨rfl, rfl⟩) | (go_at_call 36; with_reducible refine (V1.out _).mono ?_; rintro e w' ⟨rfl, rfl⟩) | (go_at_call 36; with_reducible refine (V2.out _).mono ?_; rintro e w' ⟨rfl, rfl⟩))
  all_goals
    clear V0 V1 V2
    go_wp2_with fail
    refine (X.out _).mono ?_
    rintro e w3 ⟨rfl, hb⟩
    have A := Lib.hid ((((Dt.new w 0 0 0).alloc (.cells #[.int .i64 (tY s), .int .i64 (tM s), .int .i64 (tD s)] 23)).drewN 1).below hb)
    have B := Lib.hid (((Dt.new1 w (.cells #[.int .i64 0, .int .i64 0, .int .i64 0] 23) (tY s) (tM s) (tD s)).drewN 1).below hb)
    have HB := Lib.hid (bstep (bdrew (balloc (balloc (brefl w) (.cells #[.int .i64 0, .int .i64 0, .int .i64 0] 23)) (.cells #[.int .i64 (tY s), .int .i64 (tM s), .int .i64 (tD s)] 23)) 1) hb)
    clear hb
    obtain ⟨a1, a2, a3, a4, a5, a6, a7⟩ := A.out
    obtain ⟨b1, b2, b3, b4, b5, b6, b7⟩ := B.out
    go_wp2_with fail
    exact bodyPost_ret (v := .tuple #[.agg #[.int .i64 0, .int .i64 0, .int .i64 0], .int .i64 4]) (by simp [results, Tryd.results22, go_sem, a2, a3, a4]) rfl ⟨rfl, by repeat (first | with_reducible exact HB.out | with_reducible exact brefl _ | with_reducible refine balloc ?_ _ | with_reducible refine Below.setCell ?_ (by first | (simp; done) | (simp; omega)) _)⟩

theorem rParse_ten (s : ByteArray) (w : World) (hs : s.size = 10) :
    Calls Tryd.prog 22 #[.string s] w fun e w' => ((good s ∧ ok (tY s) (tM s) (tD s) ∧ e = .returned (.tuple #[.agg #[.int .i64 (tY s), .int .i64 (tM s), .int .i64 (tD s)], .int .i64 0])) ∨ (noDate s ∧ e = .returned (.tuple #[.agg #[.int .i64 0, .int .i64 0, .int .i64 0], .int .i64 4]))) ∧ Below w.heap.size w w' := by
  by_cases h : ok (tY s) (tM s) (tD s)
  · by_cases k : txt (tY s) (tM s) (tD s) = s
    · have g : good s := by rw [← k]; exact (txt_good h).1
      exact (rParse_is s w hs h k).mono fun e w' ⟨he, hb⟩ => ⟨Or.inl ⟨g, h, he⟩, hb⟩
    · exact (rParse_ne s w hs h k).mono fun e w' ⟨he, hb⟩ => ⟨Or.inr ⟨fun g => k (good_txt hs g.1), he⟩, hb⟩
  · exact (rParse_no s w hs h).mono fun e w' ⟨he, hb⟩ => ⟨Or.inr ⟨fun g => h g.2, he⟩, hb⟩

/-- what both read: a date and an error's number. -/
theorem parses (s : ByteArray) : ∃ y m d r : Int, (∀ w, Calls Tryd.prog 21 #[.string s] w fun e w' => e = .returned (.tuple #[.agg #[.int .i64 y, .int .i64 m, .int .i64 d], .int .i64 r]) ∧ Below w.heap.size w w') ∧ (∀ w, Calls Tryd.prog 22 #[.string s] w fun e w' => e = .returned (.tuple #[.agg #[.int .i64 y, .int .i64 m, .int .i64 d], .int .i64 r]) ∧ Below w.heap.size w w') := by
  by_cases hs : s.size = 10
  · by_cases c : good s ∧ ok (tY s) (tM s) (tD s)
    · refine ⟨tY s, tM s, tD s, 0, fun w => (Parse_ten s w hs).mono ?_, fun w => (rParse_ten s w hs).mono ?_⟩
      · rintro e w' ⟨⟨_, _, he⟩ | ⟨hn, _⟩, hb⟩
        · exact ⟨he, hb⟩
        · exact absurd c hn
      · rintro e w' ⟨⟨_, _, he⟩ | ⟨hn, _⟩, hb⟩
        · exact ⟨he, hb⟩
        · exact absurd c hn
    · refine ⟨0, 0, 0, 4, fun w => (Parse_ten s w hs).mono ?_, fun w => (rParse_ten s w hs).mono ?_⟩
      · rintro e w' ⟨⟨g1, g2, _⟩ | ⟨_, he⟩, hb⟩
        · exact absurd ⟨g1, g2⟩ c
        · exact ⟨he, hb⟩
      · rintro e w' ⟨⟨g1, g2, _⟩ | ⟨_, he⟩, hb⟩
        · exact absurd ⟨g1, g2⟩ c
        · exact ⟨he, hb⟩
  · exact ⟨0, 0, 0, 4, fun w => Parse_len s w hs, fun w => rParse_len s w hs⟩
/-- the text of a date is read as that date. -/
theorem Parse_txt {y m d : Int} (h : ok y m d) (w : World) :
    Calls Tryd.prog 21 #[.string (txt y m d)] w fun e w' => e = .returned (.tuple #[.agg #[.int .i64 y, .int .i64 m, .int .i64 d], .int .i64 0]) ∧ Below w.heap.size w w' := by
  obtain ⟨g, eY, eM, eD⟩ := txt_good h
  refine (Parse_ten (txt y m d) w (txt_size y m d)).mono ?_
  rw [eY, eM, eD]
  rintro e w' ⟨⟨_, _, he⟩ | ⟨hn, _⟩, hb⟩
  · exact ⟨he, hb⟩
  · exact absurd ⟨g, by rw [eY, eM, eD]; exact h⟩ hn
end Go.Proofs.YtooinoccijfgiaaDoor.Cv
