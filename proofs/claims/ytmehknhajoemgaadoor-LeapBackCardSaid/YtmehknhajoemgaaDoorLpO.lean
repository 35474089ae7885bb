/-
  The contracts of sundiallaw08.known and awake.
  Conditions: none.
-/
import Derived.Test.YtmehknhajoemgaaDoorLpM
import Derived.Test.YtmehknhajoemgaaDoorLpN
namespace Go.Proofs.YtmehknhajoemgaaDoor.Lp
open Go.RowKit Go.ChangeShapes Go.WideShapes Go.ChangeAt Go.Joins Cv
set_option linter.unusedVariables false
set_option linter.unusedSimpArgs false

def kA (i : Nat) : Int := if i = 0 then 2382428425420800 else 2398917073305600
def kO (i : Nat) : Int := if i = 0 then 10 else 11
theorem kTb : Tb 2 kA kO 2411724800000000 := by
  refine ⟨rt_iff.2 ⟨by decide, fun i hi => ?_⟩, by decide, by decide, by decide⟩
  match i, hi with
  | 0, _ => exact ⟨⟨⟨by decide, by decide, 1972, 1, by unfold ok; decide, by decide⟩, by decide, by decide, by decide⟩, fun h => absurd h (by decide)⟩
  | 1, _ => exact ⟨⟨⟨by decide, by decide, 1972, 7, by unfold ok; decide, by decide⟩, by decide, by decide, by decide⟩, fun _ => ⟨by decide, by decide⟩⟩
theorem kUt : ut 2 kA kO 2398917083791360 = 2398917072257024 ∧ inl 2 kA kO 2398917083791360 = true := by decide +kernel
theorem kEv : evs 2 kA kO 2398917072257024 2 = [2398917082742784, 2398917083791360] := by decide +kernel
theorem kLt : ut 2 kA kO 2398917073305600 < 2411724800000000 := by decide +kernel
theorem kWv {v : Int} (h : WV 2 kA kO 2398917073305600 v) : v = 1 :=
  kTb.1.WV_one h (.inr ⟨1, ⟨by decide, by decide, by decide, by decide +kernel, by decide +kernel⟩, by decide⟩)

/-- what known answers. -/
def KP (w : World) (x : Ending) (w' : World) : Prop := ∃ vs, x = .returned (lv vs 2411724800000000) ∧ Cs w' vs 2 kA kO ∧ Below w.heap.size w w'
set_option maxRecDepth 100000 in
theorem known_c (w : World) : Calls Tryd.prog 10 #[] w (KP w) := by
  go_enter Tryd.func10, Tryd.ntmps10
  go_wp2_with fail
  refine bodyPost_ret (v := lv (.slice (some ⟨w.heap.size + 1, 0, none⟩) 2 2) 2411724800000000) (by simp [results, Tryd.results10, go_sem, lv]) rfl ⟨_, rfl, ⟨_, 2, rfl, Nat.le_refl _, by omega, fun i hi => ?_, fun _ => ⟨w.heap.size + 1, 0, rfl, by simp, fun i hi => ?_⟩⟩, balloc (balloc (brefl w) _) _⟩
  · unfold kA kO I64
    split <;> omega
  · match i, hi with
    | 0, _ => exact ⟨cell_new1 rfl, cell_new1 rfl⟩
    | 1, _ => exact ⟨cell_new1 rfl, cell_new1 rfl⟩

set_option maxRecDepth 100000 in
set_option maxHeartbeats 4000000 in
theorem awake8_c (w : World) :
    Calls Tryd.prog 4 #[] w fun e w' => e = .returned (.bool true) ∧ Below w.heap.size w w' := by
  have KN := Lib.hid (fun w => known_c w)
  have U := Lib.hid (fun w vs (A : Cs w vs 2 kA kO) => UTC_ok A kTb (u := 2398917083791360) (by decide) (by decide))
  rw [kUt.1, kUt.2] at U
  have E := Lib.hid (fun w vs (A : Cs w vs 2 kA kO) => Even_ok A kTb (t := 2398917072257024) (by decide) (by decide))
  rw [kEv] at E
  have W := Lib.hid (fun w vs (A : Cs w vs 2 kA kO) => Warn_ok A kTb (u := 2398917073305600) (by decide) (by decide) kLt)
  have C := Lib.hid (fun w vs (A : Cs w vs 2 kA kO) => Check_c (e := 2411724800000000) A)
  go_enter Tryd.func4, Tryd.ntmps4
  go_wp2_with fail
  refine (KN.out _).mono ?_
  rintro x w1 ⟨v1, rfl, A1, hb⟩
  have B1 := Lib.hid hb
  have C1 := Lib.hid A1
  clear hb A1
  unfold lv at *
  go_wp2_with fail
  refine (U.out _ _ C1.out).mono ?_
  rintro x w2 ⟨rfl, hb⟩
  have B2 := Lib.hid (bstep B1.out hb)
  clear hb B1 C1 U
  go_wp2_with fail
  refine (KN.out _).mono ?_
  rintro x w3 ⟨v3, rfl, A3, hb⟩
  have B3 := Lib.hid (bstep B2.out hb)
  have C3 := Lib.hid A3
  clear hb A3 B2
  unfold lv at *
  go_wp2_with fail
  refine (E.out _ _ C3.out).mono ?_
  rintro x w4 ⟨⟨vt, rfl, ot⟩, hb⟩
  have B4 := Lib.hid (bstep B3.out hb)
  obtain ⟨ad, cap, rfl, _, _, _⟩ := ot.ts
  clear hb B3 C3 E ot
  go_wp2_with fail
  refine (KN.out _).mono ?_
  rintro x w5 ⟨v5, rfl, A5, hb⟩
  have B5 := Lib.hid (bstep B4.out hb)
  have C5 := Lib.hid A5
  clear hb A5 B4
  unfold lv at *
  go_wp2_with fail
  refine (W.out _ _ C5.out).mono ?_
  rintro x w6 ⟨⟨wv, hw, rfl⟩, hb⟩
  obtain rfl := kWv hw
  have B6 := Lib.hid (bstep B5.out hb)
  clear hb hw B5 C5 W
  go_wp2_with fail
  refine (KN.out _).mono ?_
  rintro x w7 ⟨v7, rfl, A7, hb⟩
  have B7 := Lib.hid (bstep B6.out hb)
  have C7 := Lib.hid A7
  clear hb A7 B6
  unfold lv at *
  go_wp2_with fail
  refine (C.out _ _ C7.out).mono ?_
  rintro x w8 ⟨hc, hb⟩
  obtain ⟨_, rfl⟩ := hc.resolve_right (fun g => g.1 kTb)
  have B8 := Lib.hid (bstep B7.out hb)
  clear hb hc B7
  go_wp2_with fail
  go_ret
  exact ⟨rfl, B8.out⟩
end Go.Proofs.YtmehknhajoemgaaDoor.Lp
