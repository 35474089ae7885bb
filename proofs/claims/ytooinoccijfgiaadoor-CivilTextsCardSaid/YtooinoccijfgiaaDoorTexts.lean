/-
  CivilTexts: every date has one text, and only that is read as it. The law returns true for every input, and the input reads as it did.
  Conditions: the library's three tables that the row lists read as the program's text lays them (the card ties them).
-/
import Derived.Test.YtooinoccijfgiaaDoorRows
import Derived.Test.YtooinoccijfgiaaDoorCards
import Derived.Test.YtooinoccijfgiaaDoorTie
import Derived.Test.YtooinoccijfgiaaDoorCvW
import Derived.Test.YtooinoccijfgiaaDoorCvR
import Derived.SevenTiedAt
namespace Go.Proofs.YtooinoccijfgiaaDoor.civilTexts
open Go.ChangeShapes Go.WideShapes Go.ChangeAt Go.RowKit Go.Joins Cv
set_option linter.unusedVariables false
set_option linter.unusedSimpArgs false

theorem open_str {H : Type} {enc : TypeId × Value → H} {W : World} {base b0 : Nat} {sp : Nat → Bool} {held : Bool} {r : Reach} {v : Value} {d : DataW H} {p : List MemPlace}
    (hv : Value.okWide Tryd.prog W r b0 9 v) (h : DataW.Trod enc Tryd.prog W base sp held 9 v d p) : ∃ s : ByteArray, v = .string s := by
  obtain ⟨s, rfl, _⟩ := ChangeMaps.open_string Tryd.underlying9 hv h
  exact ⟨s, rfl⟩

set_option maxRecDepth 100000 in
set_option maxHeartbeats 4000000 in
theorem walk_gen (y m d : Int) (s : ByteArray) (w : World) (TT : Tab w) (t : ByteArray) (te py pm pd pe : Int)
    (T1 : Hid (∀ w, Tab w → Calls Tryd.prog 19 #[.agg #[.int .i64 y, .int .i64 m, .int .i64 d]] w fun e w' => e = .returned (.tuple #[.string t, .int .i64 te]) ∧ Below w.heap.size w w')) (T2 : Hid (∀ w, Calls Tryd.prog 20 #[.agg #[.int .i64 y, .int .i64 m, .int .i64 d]] w fun e w' => e = .returned (.tuple #[.string t, .int .i64 te]) ∧ Below w.heap.size w w'))
    (P1 : Hid (∀ w, Calls Tryd.prog 21 #[.string s] w fun e w' => e = .returned (.tuple #[.agg #[.int .i64 py, .int .i64 pm, .int .i64 pd], .int .i64 pe]) ∧ Below w.heap.size w w')) (P2 : Hid (∀ w, Calls Tryd.prog 22 #[.string s] w fun e w' => e = .returned (.tuple #[.agg #[.int .i64 py, .int .i64 pm, .int .i64 pd], .int .i64 pe]) ∧ Below w.heap.size w w')) :
    Calls Tryd.prog 4 #[.agg #[.int .i64 y, .int .i64 m, .int .i64 d], .string s] w fun e w' => e = .returned (.bool true) ∧ Below w.heap.size w w' := by
  have HT := Lib.hid (TT.below (balloc (brefl w) (.cells #[.int .i64 y, .int .i64 m, .int .i64 d] 23)))
  clear TT
  go_enter Tryd.func4, Tryd.ntmps4
  go_wp2_with fail
  refine (awake_c _ HT.out).mono ?_
  rintro e w1 ⟨rfl, hb⟩
  have A := Lib.hid ((Dt.new w y m d).below hb)
  have HB := Lib.hid (bstep (balloc (brefl w) _) hb)
  replace HT := Lib.hid (HT.out.below hb)
  clear hb
  obtain ⟨a1, a2, a3, a4, a5, a6, a7⟩ := A.out
  go_wp2_with fail
  clear a1 a2 a3 a4 a5 a6 a7
  refine (T1.out _ HT.out).mono ?_
  rintro e w2 ⟨rfl, hb⟩
  replace A := Lib.hid (A.out.below hb)
  replace HB := Lib.hid (bstep HB.out hb)
  clear hb HT
  obtain ⟨a1, a2, a3, a4, a5, a6, a7⟩ := A.out
  go_wp2_with fail
  clear a1 a2 a3 a4 a5 a6 a7 A
  refine (T2.out _).mono ?_
  rintro e w3 ⟨rfl, hb⟩
  replace HB := Lib.hid (bstep HB.out hb)
  clear hb
  go_wp2_with fail
  refine (P1.out _).mono ?_
  rintro e w4 ⟨rfl, hb⟩
  replace HB := Lib.hid (bstep HB.out hb)
  clear hb
  go_wp2_with fail
  refine (P2.out _).mono ?_
  rintro e w5 ⟨rfl, hb⟩
  have B := Lib.hid (((Dt.new w4 py pm pd).below hb).alloc (.cells #[.int .i64 py, .int .i64 pm, .int .i64 pd] 23))
  have C := Lib.hid (Dt.new w5 py pm pd)
  replace HB := Lib.hid (balloc (bstep (balloc HB.out (.cells #[.int .i64 py, .int .i64 pm, .int .i64 pd] 23)) hb) (.cells #[.int .i64 py, .int .i64 pm, .int .i64 pd] 23))
  clear hb
  obtain ⟨b1, b2, b3, b4, b5, b6, b7⟩ := B.out
  obtain ⟨c1, c2, c3, c4, c5, c6, c7⟩ := C.out
  go_wp2_with fail
  go_ret
  exact ⟨rfl, HB.out⟩

theorem texts (y m d : Int) : ∃ (t : ByteArray) (te : Int), (∀ w, Tab w → Calls Tryd.prog 19 #[.agg #[.int .i64 y, .int .i64 m, .int .i64 d]] w fun e w' => e = .returned (.tuple #[.string t, .int .i64 te]) ∧ Below w.heap.size w w') ∧ (∀ w, Calls Tryd.prog 20 #[.agg #[.int .i64 y, .int .i64 m, .int .i64 d]] w fun e w' => e = .returned (.tuple #[.string t, .int .i64 te]) ∧ Below w.heap.size w w') := by
  by_cases c : ok y m d
  · exact ⟨_, 0, fun w T => Text_ok y m d w T c, fun w => rText_ok y m d w c⟩
  · exact ⟨_, 3, fun w T => Text_bad y m d w c, fun w => rText_bad y m d w c⟩

theorem walk (y m d : Int) (s : ByteArray) (w : World) (TT : Tab w) :
    Calls Tryd.prog 4 #[.agg #[.int .i64 y, .int .i64 m, .int .i64 d], .string s] w fun e w' => e = .returned (.bool true) ∧ Below w.heap.size w w' := by
  obtain ⟨t, te, T1, T2⟩ := texts y m d
  obtain ⟨py, pm, pd, pe, P1, P2⟩ := parses s
  exact walk_gen y m d s w TT t te py pm pd pe T1 T2 P1 P2

set_option maxRecDepth 100000 in
theorem lifted (os : Os) (started : os.Started) (H : Type) (enc : TypeId × Value → H) :
    ReturnsInHanded {} Tryd.checked os 4 .any (fun w args => (Rows.civilTextsSpec.pre enc Tryd.prog Tryd.f4 [] false w args ∧ laidMetH Tryd.prog Rows.civilDaysRow.laid w) ∧ sizedMet enc Tryd.prog Tryd.f4 (OpenSpec.ofChange Rows.civilTextsSpec) false w args)
      (Rows.civilTextsSpec.post enc Tryd.prog Tryd.f4 false true false false) := by
  refine returnsInHanded_of_change_and (C := Tryd.checked) (X := fun w _ => laidMetH Tryd.prog Rows.civilDaysRow.laid w) (fun _ _ _ hh h => h.of_heap hh) own started (by kernel_rfl) Tryd.func4
    (ChangeSpec.witness_shaped (enc := enc) (C := Tryd.checked) (os := os) (X := fun w _ => laidMetH Tryd.prog Rows.civilDaysRow.laid w) false (World.doorLaid Tryd.prog 24 os) #[.agg #[.int .i64 0, .int .i64 0, .int .i64 0], .string ⟨#[]⟩] 8 rfl (World.shaped_of_RefB (by kernel_rfl) (by kernel_rfl)) (by kernel_rfl) (by kernel_rfl) (by kernel_rfl) (door_met os _)) ?_
  intro W base args ds gs before hval0 hW _ _ hL _
  have hval : ∀ (j : Nat) t v, Tryd.f4.params[j]? = some t → args[j]? = some v → Value.okWide Tryd.prog W .any base t v := hval0
  have hW' := hW
  obtain ⟨p, q, hA0, hV, rfl, hfz, hnd⟩ := hW
  have hA : DataW.TrodAll enc Tryd.prog W 0 (fun _ => true) true Tryd.f4.params.toList args.toList ds p := hA0
  rw [Tryd.params4] at hA hval
  obtain ⟨v0, vs0, d0, ds0, p0, q0, hargs, rfl, rfl, h0, r0⟩ := trodAll_cons hA
  obtain ⟨v1, vs1, d1, ds1, p1, q1, rfl, rfl, rfl, h1, r1⟩ := trodAll_cons r0
  obtain ⟨rfl, rfl, rfl⟩ := trodAll_nil r1
  obtain rfl : args = #[v0, v1] := by cases args; simp_all
  obtain ⟨rfl, rfl⟩ := trodVars_none hV
  have h0k := h0
  have hlt0 : ∀ x ∈ p0, x.block < W.heap.size := fun x hx => by have := hW'.lt x (by simp [hx]); simpa using this
  have h1k := h1
  have hlt1 : ∀ x ∈ p1, x.block < W.heap.size := fun x hx => by have := hW'.lt x (by simp [hx]); simpa using this
  obtain ⟨y0, m0, x0, rfl, wy0, wm0, wx0⟩ := open_date (hval 0 23 v0 rfl rfl) h0
  obtain ⟨s1, rfl⟩ := open_str (hval 1 9 v1 rfl rfl) h1
  clear hA0 hval0
  simp only [List.append_nil] at hW'
  refine (walk y0 m0 x0 s1 W (tab_of_laid hL) ).mono fun e W' ⟨he, hg⟩ => ?_
  subst he
  exact ⟨_, rfl, _, _, _, [], _, [], hW', trodAll_cons_mk (shut_bool Tryd.underlying4 _) trodAll_mk0,
    (trodAll_cons_mk (Below.trod laidOut (by kernel_rfl) (of_decide_eq_true (by kernel_rfl)) h0k hg hlt0) (trodAll_cons_mk (Below.trod laidOut (by kernel_rfl) (of_decide_eq_true (by kernel_rfl)) h1k hg hlt1) trodAll_mk0)), rfl, hg.frame _, fun h => nomatch h⟩

theorem over : Rows.CivilTextsSaid :=
  OpenClaim.holds_of_wide 4 Tryd.f4 rfl rfl rfl rfl rfl rfl rfl ⟨rfl, rfl, rfl, rfl, rfl⟩ rfl rfl rfl rfl rfl (by kernel_rfl) Tryd.func4 (by kernel_rfl)
    (of_decide_eq_true (by kernel_rfl)) (by unfold Func.isWrapper; first | (rw [if_pos (by decide +kernel)]; kernel_rfl) | (rw [if_neg (by decide +kernel)]; exact ⟨rfl, rfl⟩))
    (fun os started H enc _ => lifted os started H enc)

theorem proved : Rows.CivilTextsCardSaid :=
  Claim7.holds_tied_plain_at .later [] [.data, .data, .data] true Rows.civilTextsCard.stood.harness false
    over (fun _ h => by cases h) (by kernel_rfl) (fun _ h => by cases h) civilTexts_row_tie rfl ⟨rfl, rfl⟩ (by kernel_rfl) rfl
    (fun f fn hf hfn => by
      obtain rfl : f = 4 := Option.some.inj ((show Tryd.prog.funcNamed Rows.civilTextsRow.func = some 4 by kernel_rfl).symm.trans hf) |>.symm
      obtain rfl : fn = Tryd.f4 := (Option.some.inj (Tryd.func4.symm.trans hfn)).symm
      exact ⟨by kernel_rfl, fun j t ht => by
        rw [Tryd.params4] at ht
        have hm : t ∈ [23, 9] := by simpa using Array.mem_of_getElem? ht
        have hall : ([23, 9].all fun u => !Tryd.prog.wantsStandIn u) = true := by kernel_rfl
        exact (show Tryd.prog.wantsStandIn t = false by simpa using List.all_eq_true.1 hall t hm)⟩)
    (by kernel_rfl)
end Go.Proofs.YtooinoccijfgiaaDoor.civilTexts
