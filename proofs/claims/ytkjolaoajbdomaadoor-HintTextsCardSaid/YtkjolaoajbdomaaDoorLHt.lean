/-
  HintTexts: Every hint has its text, and only that is read as it. The law returns true for every input, and the input reads as it did.
  Conditions: the tables and the errors that the row lists read as the program's text lays them (the card ties them).
-/
import Derived.Test.YtkjolaoajbdomaaDoorRows
import Derived.Test.YtkjolaoajbdomaaDoorCards
import Derived.Test.YtkjolaoajbdomaaDoorTie
import Derived.Test.YtkjolaoajbdomaaDoorHiH
import Derived.Test.YtkjolaoajbdomaaDoorHiK
import Derived.SevenTiedAt
namespace Go.Proofs.YtkjolaoajbdomaaDoor.hintTexts
open Go.ChangeShapes Go.WideShapes Go.ChangeAt Go.RowKit Go.Joins By Ct Dk Hi
set_option linter.unusedVariables false
set_option linter.unusedSimpArgs false

set_option maxRecDepth 100000 in
set_option maxHeartbeats 16000000 in
theorem walk_no (a : Int) (v : Value) (l : List Nat) (w : World) (G : Gt w) (S : Sl w v l) (ho : okT a = false) :
    Calls Tryd.prog 3 #[.int .i64 a, v] w fun e w' => e = .returned (.bool true) ∧ Below w.heap.size w w' := by
  obtain ⟨da, dc, rfl⟩ := S.form
  have HS := Lib.hid S
  have HG := Lib.hid G
  have AW := Lib.hid (awake12_c w G)
  have K3 := Lib.hid (fun w' (q : Below w.heap.size w w') => Parse_c (HG.out.below q) (HS.out.below q))
  have K4 := Lib.hid (fun w' (q : Below w.heap.size w w') => rParse_c (HS.out.below q))
  obtain ⟨⟨r1, r2⟩, hR⟩ : ∃ R, prs (bt l) = R := ⟨_, rfl⟩
  rw [hR] at K3 K4
  dsimp only at K3 K4
  have K1 := Lib.hid (fun w' => Text_no w' ho)
  have K2 := Lib.hid (fun w' => rText_no w' ho)
  clear hR G S ho
  go_enter Tryd.func3, Tryd.ntmps3
  go_wp2_with fail
  refine AW.out.mono ?_
  rintro e w1 ⟨rfl, hb⟩
  have B1 := Lib.hid hb
  clear hb AW
  go_wp2_with fail
  refine (K1.out w1).mono ?_
  rintro e w2 ⟨rfl, hw⟩
  subst hw
  clear K1
  go_wp2_with fail
  refine (K2.out w2).mono ?_
  rintro e w3 ⟨rfl, hw⟩
  subst hw
  have B3 := B1
  clear K2
  go_wp2_with fail
  refine (K3.out w3 B3.out).mono ?_
  rintro e w4 ⟨rfl, hb⟩
  have B4 := Lib.hid (bstep B3.out hb)
  clear hb K3
  go_wp2_with fail
  refine (K4.out w4 B4.out).mono ?_
  rintro e w5 ⟨rfl, hb⟩
  have B5 := Lib.hid (bstep B4.out hb)
  clear hb K4
  go_wp2_with fail
  go_ret
  exact ⟨rfl, B5.out⟩
set_option maxRecDepth 100000 in
set_option maxHeartbeats 16000000 in
theorem walk_yes (a : Int) (v : Value) (l : List Nat) (w : World) (G : Gt w) (S : Sl w v l) (ho : okT a = true) :
    Calls Tryd.prog 3 #[.int .i64 a, v] w fun e w' => e = .returned (.bool true) ∧ Below w.heap.size w w' := by
  obtain ⟨da, dc, rfl⟩ := S.form
  have HS := Lib.hid S
  have HG := Lib.hid G
  have AW := Lib.hid (awake12_c w G)
  have K3 := Lib.hid (fun w' (q : Below w.heap.size w w') => Parse_c (HG.out.below q) (HS.out.below q))
  have K4 := Lib.hid (fun w' (q : Below w.heap.size w w') => rParse_c (HS.out.below q))
  obtain ⟨⟨r1, r2⟩, hR⟩ : ∃ R, prs (bt l) = R := ⟨_, rfl⟩
  rw [hR] at K3 K4
  dsimp only at K3 K4
  have K1 := Lib.hid (fun w' (q : Below w.heap.size w w') => Text_c w' (HG.out.below q) ho)
  have K2 := Lib.hid (fun w' => rText_c w' ho)
  generalize (⟨(txt a).toArray⟩ : ByteArray) = tx at *
  clear hR G S ho
  go_enter Tryd.func3, Tryd.ntmps3
  go_wp2_with fail
  refine AW.out.mono ?_
  rintro e w1 ⟨rfl, hb⟩
  have B1 := Lib.hid hb
  clear hb AW
  go_wp2_with fail
  refine (K1.out w1 B1.out).mono ?_
  rintro e w2 ⟨rfl, hb⟩
  have B2 := Lib.hid (bstep B1.out hb)
  clear hb K1
  go_wp2_with fail
  refine (K2.out w2).mono ?_
  rintro e w3 ⟨rfl, hb⟩
  have B3 := Lib.hid (bstep B2.out hb)
  clear hb K2
  go_wp2_with fail
  refine (K3.out w3 B3.out).mono ?_
  rintro e w4 ⟨rfl, hb⟩
  have B4 := Lib.hid (bstep B3.out hb)
  clear hb K3
  go_wp2_with fail
  refine (K4.out w4 B4.out).mono ?_
  rintro e w5 ⟨rfl, hb⟩
  have B5 := Lib.hid (bstep B4.out hb)
  clear hb K4
  go_wp2_with fail
  go_ret
  exact ⟨rfl, B5.out⟩
theorem walk (a : Int) (v : Value) (n : Nat) (f : Nat → Nat) (w : World) (G : Gt w) (ha : (Lit.int .i64 a).wf = true) (A : By.Arg w v n f) :
    Calls Tryd.prog 3 #[.int .i64 a, v] w fun e w' => e = .returned (.bool true) ∧ Below w.heap.size w w' := by
  have hn : n ≤ 140737488351232 := by obtain ⟨_, _, _, h1, h2, _⟩ := A; omega
  have S := sb_sl A.sb hn
  cases ho : okT a with
  | false => exact walk_no a v _ w G S ho
  | true => exact walk_yes a v _ w G S ho
set_option maxRecDepth 100000 in
theorem lifted (os : Os) (started : os.Started) (H : Type) (enc : TypeId × Value → H) :
    ReturnsInHanded {} Tryd.checked os 3 .any (fun w args => (Rows.hintTextsSpec.pre enc Tryd.prog Tryd.f3 [] false w args ∧ laidMetH Tryd.prog Rows.hintTextsRow.laid w) ∧ sizedMet enc Tryd.prog Tryd.f3 (OpenSpec.ofChange Rows.hintTextsSpec) false w args)
      (Rows.hintTextsSpec.post enc Tryd.prog Tryd.f3 false true false false) := by
  refine returnsInHanded_of_change_and (C := Tryd.checked) (X := fun w _ => laidMetH Tryd.prog Rows.hintTextsRow.laid w) (fun _ _ _ hh h => h.of_heap hh) Hs.own started (by kernel_rfl) Tryd.func3
    (ChangeSpec.witness_shaped (enc := enc) (C := Tryd.checked) (os := os) (X := fun w _ => laidMetH Tryd.prog Rows.hintTextsRow.laid w) false (World.doorLaid Tryd.prog 76 os) #[.int .i64 0, .slice none 0 0] 8 rfl (World.shaped_of_RefB (by kernel_rfl) (by kernel_rfl)) (by kernel_rfl) (by kernel_rfl) (by kernel_rfl) (Hs.door_met os _)) ?_
  intro W base args ds gs before hval0 hW _ hsz0 hL _
  have hsz : (DataW.weightsEach Tryd.prog (Tryd.f3.params.toList ++ Rows.hintTextsSpec.plain.varTypes Tryd.prog) (ds ++ gs)).all (· ≤ reachBytes) = true := hsz0
  have hval : ∀ (j : Nat) t v, Tryd.f3.params[j]? = some t → args[j]? = some v → Value.okWide Tryd.prog W .any base t v := hval0
  have hW' := hW
  obtain ⟨p, q, hA0, hV, rfl, hfz, hnd⟩ := hW
  have hA : DataW.TrodAll enc Tryd.prog W 0 (fun _ => true) true Tryd.f3.params.toList args.toList ds p := hA0
  rw [Tryd.params3] at hA hval hsz
  obtain ⟨v0, vs0, d0, ds0, p0, q0, hargs, rfl, rfl, h0, r0⟩ := trodAll_cons hA
  obtain ⟨v1, vs1, d1, ds1, p1, q1, rfl, rfl, rfl, h1, r1⟩ := trodAll_cons r0
  obtain ⟨rfl, rfl, rfl⟩ := trodAll_nil r1
  obtain rfl : args = #[v0, v1] := by cases args; simp_all
  obtain ⟨rfl, rfl⟩ := trodVars_none hV
  have h1k := h1
  have hlt1 : ∀ x ∈ p1, x.block < W.heap.size := fun x hx => by have := hW'.lt x (by simp [hx]); simpa using this
  have hb1 : ∀ es sp, d1 = .slice es sp → (es.length + sp.length) * Tryd.prog.bytesOf 5 ≤ reachBytes := by
    intro es sp he
    exact sized_slice hsz (j := 1) (t := 22) (e := 5) rfl (by rw [he]; rfl) Tryd.underlying22
  obtain ⟨a0, rfl, rfl, rfl, w0⟩ := open_int Tryd.underlying3 (hval 0 3 v0 rfl rfl) h0
  obtain ⟨n1, f1, g1⟩ := By.open_bytes (hval 1 22 v1 rfl rfl) h1 hb1
  clear hA0 hval0
  simp only [List.append_nil] at hW'
  refine (walk a0 v1 n1 f1 W (gt_of_laid hL) w0 g1).mono fun e W' ⟨he, hg⟩ => ?_
  subst he
  exact ⟨_, rfl, _, _, _, [], _, [], hW', trodAll_cons_mk (shut_bool Tryd.underlying4 _) trodAll_mk0,
    (trodAll_cons_mk (shut_int Tryd.underlying3 w0) (trodAll_cons_mk (Below.trod Hs.laidOut (by kernel_rfl) (of_decide_eq_true (by kernel_rfl)) h1k hg hlt1) trodAll_mk0)), rfl, hg.frame _, fun h => nomatch h⟩

theorem over : Rows.HintTextsSaid :=
  OpenClaim.holds_of_wide 3 Tryd.f3 rfl rfl rfl rfl rfl rfl rfl ⟨rfl, rfl, rfl, rfl, rfl⟩ rfl rfl rfl rfl rfl (by kernel_rfl) Tryd.func3 (by kernel_rfl)
    (of_decide_eq_true (by kernel_rfl)) (by unfold Func.isWrapper; first | (rw [if_pos (by decide +kernel)]; kernel_rfl) | (rw [if_neg (by decide +kernel)]; exact ⟨rfl, rfl⟩))
    (fun os started H enc _ => lifted os started H enc)

theorem proved : Rows.HintTextsCardSaid :=
  Claim7.holds_tied_plain_at .later [] [.data, .data, .data, .data, .data, .sentinel, .sentinel] true Rows.hintTextsCard.stood.harness true
    over (fun _ h => by cases h) (by kernel_rfl) (fun _ h => by cases h) hintTexts_row_tie rfl ⟨rfl, rfl⟩ (by kernel_rfl) rfl
    (fun f fn hf hfn => by
      obtain rfl : f = 3 := Option.some.inj ((show Tryd.prog.funcNamed Rows.hintTextsRow.func = some 3 by kernel_rfl).symm.trans hf) |>.symm
      obtain rfl : fn = Tryd.f3 := (Option.some.inj (Tryd.func3.symm.trans hfn)).symm
      exact ⟨by kernel_rfl, fun j t ht => by
        rw [Tryd.params3] at ht
        have hm : t ∈ [3, 22] := by simpa using Array.mem_of_getElem? ht
        have hall : ([3, 22].all fun u => !Tryd.prog.wantsStandIn u) = true := by kernel_rfl
        exact (show Tryd.prog.wantsStandIn t = false by simpa using List.all_eq_true.1 hall t hm)⟩)
    (by kernel_rfl)
end Go.Proofs.YtkjolaoajbdomaaDoor.hintTexts
