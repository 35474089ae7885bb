/-
  Contracts of Text, of civil and of sundialref03, and of sundiallaw03.awake: of a date its text, else ErrShape.
  Conditions: internal/strconv's table of powers of ten reads as its text lays it.
-/
import Derived.Test.YtooinoccijfgiaaDoorCvD
namespace Go.Proofs.YtooinoccijfgiaaDoor.Cv
open Go.RowKit
set_option linter.unusedVariables false
set_option linter.unusedSimpArgs false

/-- the text of a date. -/
def txt (y m d : Int) : ByteArray := t4 y ++ ⟨#[45]⟩ ++ t2 m ++ ⟨#[45]⟩ ++ t2 d

set_option maxRecDepth 100000 in
theorem Text_bad (y m d : Int) (w : World) (h : ¬ ok y m d) :
    Calls Tryd.prog 19 #[.agg #[.int .i64 y, .int .i64 m, .int .i64 d]] w fun e w' => e = .returned (.tuple #[.string ⟨#[]⟩, .int .i64 3]) ∧ Below w.heap.size w w' := by
  have HA := Lib.hid h
  clear h
  go_enter Tryd.func19, Tryd.ntmps19
  go_wp2_with fail
  refine (isDate_no _ _ _ _ HA.out).mono ?_
  rintro e w1 ⟨rfl, hb⟩
  have HB := Lib.hid (bstep (balloc (brefl w) _) hb)
  clear hb
  go_wp2_with fail
  go_ret2
  exact ⟨rfl, HB.out⟩

set_option maxRecDepth 100000 in
set_option maxHeartbeats 4000000 in
theorem Text_ok (y m d : Int) (w : World) (T : Tab w) (h : ok y m d) :
    Calls Tryd.prog 19 #[.agg #[.int .i64 y, .int .i64 m, .int .i64 d]] w fun e w' => e = .returned (.tuple #[.string (txt y m d), .int .i64 0]) ∧ Below w.heap.size w w' := by
  have HA := Lib.hid h
  have hl := len_bd y m
  obtain ⟨h1, h2, h3, h4, h5, h6⟩ := h
  have h7 : d ≤ 31 := by omega
  clear hl h6
  have E : Hid (txt y m d = t4 y ++ ⟨#[45]⟩ ++ t2 m ++ ⟨#[45]⟩ ++ t2 d) := rfl
  go_enter Tryd.func19, Tryd.ntmps19
  go_wp2_with fail
  refine (isDate_yes _ _ _ _ HA.out).mono ?_
  rintro e w1 ⟨rfl, hb⟩
  have A := (Dt.new w y m d).below hb
  have HB := Lib.hid (bstep (balloc (brefl w) _) hb)
  have KP : Hid (∀ w', Below w1.heap.size w1 w' → (fun w' => w'.cell? ⟨w.heap.size, 0, none⟩ = some (.int .i64 y) ∧ w'.cell? ⟨w.heap.size, 1, none⟩ = some (.int .i64 m) ∧ w'.cell? ⟨w.heap.size, 2, none⟩ = some (.int .i64 d)) w') := Lib.hid fun w' k => ⟨(A.below k).2.1, (A.below k).2.2.1, (A.below k).2.2.2.1⟩
  have T1 := Lib.hid ((T.below (balloc (brefl w) _)).below hb)
  have I : Hid (∀ w', Below w1.heap.size w1 w' → Calls Tryd.prog 33 #[.int .i64 y] w' fun e w'' => e = .returned (.string (t4 y)) ∧ Below w'.heap.size w' w'') := Lib.hid fun w' k => Itoa4_c y w' (T1.out.below k) (by omega) h2
  have M : Hid (∀ w', Calls Tryd.prog 34 #[.int .i64 m] w' fun e w'' => e = .returned (.string (t2 m)) ∧ w'' = w') := Lib.hid fun w' => two_c m w' (by omega) (by omega)
  have D : Hid (∀ w', Calls Tryd.prog 34 #[.int .i64 d] w' fun e w'' => e = .returned (.string (t2 d)) ∧ w'' = w') := Lib.hid fun w' => two_c d w' (by omega) (by omega)
  have z4 : (t4 y).size = 4 := rfl
  have zm : (t2 m).size = 2 := rfl
  have zd : (t2 d).size = 2 := rfl
  have z5 : (t4 y ++ ⟨#[45]⟩).size = 5 := rfl
  have z7 : (t4 y ++ ⟨#[45]⟩ ++ t2 m).size = 7 := rfl
  have z8 : (t4 y ++ ⟨#[45]⟩ ++ t2 m ++ ⟨#[45]⟩).size = 8 := rfl
  generalize t4 y = s4 at *
  generalize t2 m = sm at *
  generalize t2 d = sd at *
  clear hb A
  go_wp2_with fail
  have hb0 : Below w1.heap.size w1 w1.drew := (brefl w1).drew
  go_region_held3 (fun w' => w'.cell? ⟨w.heap.size, 0, none⟩ = some (.int .i64 y) ∧ w'.cell? ⟨w.heap.size, 1, none⟩ = some (.int .i64 m) ∧ w'.cell? ⟨w.heap.size, 2, none⟩ = some (.int .i64 d))
    (first | exact KP.out _ (by assumption))
    (first | (go_at_call 33; refine (I.out _ (by assumption)).mono ?_; rintro e w' ⟨rfl, hb⟩; replace hb := bstep (w := w1) (by assumption) hb) | (go_at_call 34; with_reducible refine (M.out _).mono ?_; rintro e w' ⟨rfl, rfl⟩) | (go_at_call 34; with_reducible refine (D.out _).mono ?_; rintro e w' ⟨rfl, rfl⟩))
  all_goals
    go_wp2_with fail
    go_ret2
    exact ⟨by rw [E.out]; rfl, bstep HB.out (by assumption)⟩

set_option maxRecDepth 100000 in
theorem rText_bad (y m d : Int) (w : World) (h : ¬ ok y m d) :
    Calls Tryd.prog 20 #[.agg #[.int .i64 y, .int .i64 m, .int .i64 d]] w fun e w' => e = .returned (.tuple #[.string ⟨#[]⟩, .int .i64 3]) ∧ Below w.heap.size w w' := by
  have HA := Lib.hid h
  clear h
  go_enter Tryd.func20, Tryd.ntmps20
  go_wp2_with fail
  refine (rIs_no _ _ _ _ HA.out).mono ?_
  rintro e w1 ⟨rfl, hb⟩
  have HB := Lib.hid (bstep (balloc (brefl w) _) hb)
  clear hb
  go_wp2_with fail
  go_ret2
  exact ⟨rfl, HB.out⟩

set_option maxRecDepth 100000 in
set_option maxHeartbeats 4000000 in
theorem rText_ok (y m d : Int) (w : World) (h : ok y m d) :
    Calls Tryd.prog 20 #[.agg #[.int .i64 y, .int .i64 m, .int .i64 d]] w fun e w' => e = .returned (.tuple #[.string (txt y m d), .int .i64 0]) ∧ Below w.heap.size w w' := by
  have HA := Lib.hid h
  have hl := len_bd y m
  obtain ⟨h1, h2, h3, h4, h5, h6⟩ := h
  have h7 : d ≤ 31 := by omega
  clear hl h6
  have E : Hid (txt y m d = t4 y ++ ⟨#[45]⟩ ++ t2 m ++ ⟨#[45]⟩ ++ t2 d) := rfl
  go_enter Tryd.func20, Tryd.ntmps20
  go_wp2_with fail
  refine (rIs_yes _ _ _ _ HA.out).mono ?_
  rintro e w1 ⟨rfl, hb⟩
  have A := (Dt.new w y m d).below hb
  have HB := Lib.hid (bstep (balloc (brefl w) _) hb)
  have KP : Hid (∀ w', Below w1.heap.size w1 w' → (fun w' => w'.cell? ⟨w.heap.size, 0, none⟩ = some (.int .i64 y) ∧ w'.cell? ⟨w.heap.size, 1, none⟩ = some (.int .i64 m) ∧ w'.cell? ⟨w.heap.size, 2, none⟩ = some (.int .i64 d)) w') := Lib.hid fun w' k => ⟨(A.below k).2.1, (A.below k).2.2.1, (A.below k).2.2.2.1⟩
  have I : Hid (∀ w', Calls Tryd.prog 35 #[.int .i64 y, .int .i64 4] w' fun e w'' => e = .returned (.string (t4 y)) ∧ Below w'.heap.size w' w'') := Lib.hid fun w' => by rw [← sf4 (by omega) h2]; exact rdigits_c y 4 w' (by omega) h2 (by omega)
  have M : Hid (∀ w', Calls Tryd.prog 35 #[.int .i64 m, .int .i64 2] w' fun e w'' => e = .returned (.string (t2 m)) ∧ Below w'.heap.size w' w'') := Lib.hid fun w' => by rw [← sf2 (by omega) (by omega)]; exact rdigits_c m 2 w' (by omega) (by omega) (by omega)
  have D : Hid (∀ w', Calls Tryd.prog 35 #[.int .i64 d, .int .i64 2] w' fun e w'' => e = .returned (.string (t2 d)) ∧ Below w'.heap.size w' w'') := Lib.hid fun w' => by rw [← sf2 (by omega) (by omega)]; exact rdigits_c d 2 w' (by omega) (by omega) (by omega)
  have z4 : (t4 y).size = 4 := rfl
  have zm : (t2 m).size = 2 := rfl
  have zd : (t2 d).size = 2 := rfl
  have z5 : (t4 y ++ ⟨#[45]⟩).size = 5 := rfl
  have z7 : (t4 y ++ ⟨#[45]⟩ ++ t2 m).size = 7 := rfl
  have z8 : (t4 y ++ ⟨#[45]⟩ ++ t2 m ++ ⟨#[45]⟩).size = 8 := rfl
  generalize t4 y = s4 at *
  generalize t2 m = sm at *
  generalize t2 d = sd at *
  clear hb A
  go_wp2_with fail
  have hb0 : Below w1.heap.size w1 w1.drew := (brefl w1).drew
  go_region_held3 (fun w' => w'.cell? ⟨w.heap.size, 0, none⟩ = some (.int .i64 y) ∧ w'.cell? ⟨w.heap.size, 1, none⟩ = some (.int .i64 m) ∧ w'.cell? ⟨w.heap.size, 2, none⟩ = some (.int .i64 d))
    (first | exact KP.out _ (by assumption))
    (first | (go_at_call 35; with_reducible refine (I.out _).mono ?_; rintro e w' ⟨rfl, hb⟩; replace hb := bstep (w := w1) (by assumption) hb) | (go_at_call 35; with_reducible refine (M.out _).mono ?_; rintro e w' ⟨rfl, hb⟩; replace hb := bstep (w := w1) (by assumption) hb) | (go_at_call 35; with_reducible refine (D.out _).mono ?_; rintro e w' ⟨rfl, hb⟩; replace hb := bstep (w := w1) (by assumption) hb))
  all_goals
    go_wp2_with fail
    go_ret2
    exact ⟨by rw [E.out]; rfl, bstep HB.out (by assumption)⟩

theorem ok_a : ok 2026 11 15 := by unfold ok; decide
theorem ok_b : ok 2000 2 29 := by unfold ok; decide
theorem ok_c : ok 2026 11 5 := by unfold ok; decide
theorem num_a : num 2026 11 15 = 46339 := by decide
theorem day_b : isDay 36583 2000 2 29 := ⟨ok_b, by decide⟩
theorem txt_c : txt 2026 11 5 = ⟨#[50, 48, 50, 54, 45, 49, 49, 45, 48, 53]⟩ := by rfl

set_option maxRecDepth 100000 in
set_option maxHeartbeats 2000000 in
theorem awake_c (w : World) (T : Tab w) :
    Calls Tryd.prog 8 #[] w fun e w' => e = .returned (.bool true) ∧ Below w.heap.size w w' := by
  have N := Lib.hid (fun w => Number_ok 2026 11 15 w ok_a)
  have X := Lib.hid (fun w T => Text_ok 2026 11 5 w T ok_c)
  rw [num_a] at N
  rw [txt_c] at X
  have HT := Lib.hid T
  clear T
  go_enter Tryd.func8, Tryd.ntmps8
  go_wp2_with fail
  refine (N.out _).mono ?_
  rintro e w1 ⟨rfl, hb⟩
  have HB := Lib.hid hb
  clear hb
  go_wp2_with fail
  refine (Day_ok 36583 _ (by omega) (by omega)).mono ?_
  rintro e w2 ⟨⟨y, m, d, hd, rfl⟩, hb⟩
  obtain ⟨rfl, rfl, rfl⟩ := isDay_one hd day_b
  have HB2 := Lib.hid (bstep HB.out hb)
  clear hb hd
  go_wp2_with fail
  refine (X.out _ ((HT.out.below HB2.out).below (balloc (brefl _) _))).mono ?_
  rintro e w3 ⟨rfl, hb⟩
  have A := (Dt.new w2 2000 2 29).below hb
  have HB3 := Lib.hid (bstep (balloc HB2.out _) hb)
  clear hb
  obtain ⟨a1, a2, a3, a4, a5, a6, a7⟩ := A
  go_wp2_with fail
  go_ret
  exact ⟨rfl, HB3.out⟩
end Go.Proofs.YtooinoccijfgiaaDoor.Cv
