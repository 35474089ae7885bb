/-
  RadioLines: Every line of a reference clock tells just its time, or is refused with the document's error. The law returns true, and the input reads as it did.
  Conditions: what the law reads is of bulk at most 1048576; unicode/utf8's two tables that the row lists read as the program's text lays them (the card ties them).
-/
import Derived.Test.YtoecgabdjpgleaaGreatDoorRows
import Derived.Test.YtoecgabdjpgleaaGreatDoorCards
import Derived.Test.YtoecgabdjpgleaaGreatDoorTie
import Derived.Test.YtoecgabdjpgleaaGreatDoorRdX
import Derived.Test.YtoecgabdjpgleaaGreatDoorRdY
import Derived.Test.YtoecgabdjpgleaaGreatDoorRdO
import Derived.Test.YtoecgabdjpgleaaGreatDoorRdF
import Derived.Test.YtoecgabdjpgleaaGreatDoorRdT
import Derived.SevenTiedAt
import Derived.ChangeMaps5
import Derived.Carry
import Derived.Lib.SmallJoins
import Derived.JoinedCond
import Derived.Deep.DeepHandedRow
namespace Go.Proofs.YtoecgabdjpgleaaGreatDoor.radioLines
open Go.ChangeShapes Go.WideShapes Go.ChangeAt Go.RowKit Go.Joins Cv Rd
set_option linter.unusedVariables false
set_option linter.unusedSimpArgs false

theorem cdN_bd (R : Int ⊕ List Wd.W3) : 0 ≤ cdN R ∧ cdN R ≤ 5 := by
  cases R with
  | inl ch => exact ⟨by show (0 : Int) ≤ 4; decide, by show (4 : Int) ≤ 5; decide⟩
  | inr L =>
    unfold cdN
    dsimp only
    split
    · split <;> decide
    · decide
set_option maxRecDepth 100000 in
set_option maxHeartbeats 4000000 in
theorem walk (s : ByteArray) (hs : s.size ≤ 1048576) (w : World) (T : Lib.Utf8Tabs 3 4 w) :
    Calls Tryz.prog 3 #[.string s] w fun e w' => e = .returned (.bool true) ∧ Below w.heap.size w w' := by
  have HT := Lib.hid T
  have N1 := Lib.hid (fun w => NMEA_c s w (by omega))
  have N2 := Lib.hid (fun w => rNMEA_c s w hs)
  have C1 := Lib.hid (fun w => Code_c s w (by omega))
  have C2 := Lib.hid (fun w T => rCode_c s w T (by omega))
  obtain ⟨t, n, hE, k1, k2, k3⟩ := nm_kind s
  have nb : 0 ≤ n ∧ n ≤ 31 := by
    by_cases q : okL s
    · by_cases q2 : sumL s = sumT (bodyL s)
      · rcases k1 q q2 with h | h <;> omega
      · have := k2 q q2; omega
    · have := k3 q; omega
  rw [hE] at N1 N2
  have cb := cdN_bd (Wd.spR s)
  unfold cdE at C1 C2
  generalize cdT (Wd.spR s) = ct at *
  generalize cdN (Wd.spR s) = cn at *
  clear hE T k1 k2 k3
  have n1 : (t == t) = true := by simp
  have n2 : (n == n) = true := by simp
  have n3 : (ct == ct) = true := by simp
  have n4 : (cn == cn) = true := by simp
  go_enter Tryz.func3, Tryz.ntmps3
  go_wp2_with fail
  refine (awake13_c _).mono ?_
  rintro x w1 ⟨rfl, hb⟩
  have B1 := Lib.hid hb
  clear hb
  go_wp2_with fail
  refine (N1.out _).mono ?_
  rintro x w2 ⟨rfl, hb⟩
  have B2 := Lib.hid (bstep B1.out hb)
  clear hb N1
  go_wp2_with fail
  refine (N2.out _).mono ?_
  rintro x w3 ⟨rfl, hb⟩
  have B3 := Lib.hid (bstep B2.out hb)
  clear hb N2
  go_wp2_with fail
  refine (C1.out _).mono ?_
  rintro x w4 ⟨rfl, hb⟩
  have B4 := Lib.hid (bstep B3.out hb)
  clear hb C1
  go_wp2_with fail
  refine (C2.out _ (Utf8Tabs_below HT.out B4.out)).mono ?_
  rintro x w5 ⟨rfl, hb⟩
  have B5 := Lib.hid (bstep B4.out hb)
  clear hb C2
  go_wp2_with fail
  go_ret
  exact ⟨rfl, B5.out⟩

theorem bulk_one {H : Type} (d : DataW H) : 1 ≤ Rows.uptoBulk d := by
  cases d with
  | lit l => cases l <;> simp [Rows.uptoBulk]
  | _ => simp [Rows.uptoBulk]
theorem bulk_len {H : Type} : ∀ l : List (DataW H), l.length ≤ Rows.uptoBulkAll l
  | [] => Nat.zero_le _
  | d :: r => by
    have a := bulk_one d
    have b := bulk_len r
    simp only [List.length_cons, Rows.uptoBulkAll]
    omega
theorem bulk_mem {H : Type} : ∀ (l : List (DataW H)) (d : DataW H), d ∈ l → Rows.uptoBulk d ≤ Rows.uptoBulkAll l
  | [], d, h => by cases h
  | x :: r, d, h => by
    rcases List.mem_cons.1 h with e | e
    · subst e
      simp only [Rows.uptoBulkAll]
      omega
    · have := bulk_mem r d e
      simp only [Rows.uptoBulkAll]
      omega
theorem bulk_str {H : Type} {ds : List (DataW H)} {s : ByteArray} (hk : Rows.uptoBulkAll ds ≤ 1048576) (h : (DataW.lit (.string s.data.toList)) ∈ ds) : s.size ≤ 1048576 := by
  have := bulk_mem ds _ h
  simp only [Rows.uptoBulk] at this
  have e : s.data.toList.length = s.size := by rw [Array.length_toList]; rfl
  omega

theorem reads (os : Os) {H : Type} (enc : TypeId × Value → H) : ∃ places, DataW.whole enc Tryz.prog ((World.laidAll Tryz.prog os Rows.radioLinesUptoRow.laid).forCall (fun _ _ => 0) ⟨#[], #[.string ⟨#[]⟩], []⟩).memory Tryz.f3.params.toList Rows.radioLinesSpec.vars false #[.string ⟨#[]⟩].toList 8 = some ([.lit (.string [])], [], places) :=
  ⟨[], by kernel_rfl⟩
theorem metU (os : Os) (args : Array Value) : laidMetH Tryz.prog Rows.radioLinesUptoRow.laid ((World.laidAll Tryz.prog os Rows.radioLinesUptoRow.laid).forCall (fun _ _ => 0) ⟨#[], args, []⟩).memory := by
  rw [MakeChecks.laidMetH_plain _ _ _ (by kernel_rfl)]
  exact laidMet_laidAll args (by kernel_rfl) (by kernel_rfl)

set_option maxRecDepth 100000 in
theorem lifted (os : Os) (started : os.Started) (H : Type) (enc : TypeId × Value → H) (I : Stop.Interp) :
    ReturnsInHanded {} Tryz.checked os 3 .any ((Rows.OpenSpec.upto Rows.radioLinesSpec).preRow enc Tryz.prog Tryz.f3 Rows.radioLinesUptoRow.domain false Rows.radioLinesUptoRow.laid) (((Rows.OpenSpec.upto Rows.radioLinesSpec).at I).post enc Tryz.prog Tryz.f3 false true false false) := by
  obtain ⟨places, hx⟩ := reads os enc
  refine returnsInHanded_of_row (C := Tryz.checked) (s := Rows.OpenSpec.upto Rows.radioLinesSpec) own started (by kernel_rfl) Tryz.func3
    (witness_row_at (enc := enc) (C := Tryz.checked) false (World.laidAll Tryz.prog os Rows.radioLinesUptoRow.laid) #[.string ⟨#[]⟩] rfl (by kernel_rfl) (by kernel_rfl) (by kernel_rfl)
      (OpenSpec.preRow_of_cond 8 hx (by kernel_rfl) (fun k hk => by cases hk; kernel_rfl) (by kernel_rfl) (metU os _))) ?_
  intro W base args ds gs before hval0 hW _ hcond hsz0 hL _ _
  have hsz : (DataW.weightsEach Tryz.prog (Tryz.f3.params.toList ++ Rows.radioLinesSpec.plain.varTypes Tryz.prog) (ds ++ gs)).all (· ≤ reachBytes) = true := hsz0
  have hk0 : Rows.uptoBulkAll (ds ++ gs) ≤ 1048576 := of_decide_eq_true (hcond _ rfl)
  have hval : ∀ (j : Nat) t v, Tryz.f3.params[j]? = some t → args[j]? = some v → Value.okWide Tryz.prog W .any base t v := hval0
  have hW' := hW
  obtain ⟨p, q, hA0, hV, rfl, hfz, hnd⟩ := hW
  have hA : DataW.TrodAll enc Tryz.prog W 0 (fun _ => true) true Tryz.f3.params.toList args.toList ds p := hA0
  rw [Tryz.params3] at hA hval hsz
  obtain ⟨v0, vs0, d0, ds0, p0, q0, hargs, rfl, rfl, h0, r0⟩ := trodAll_cons hA
  obtain ⟨rfl, rfl, rfl⟩ := trodAll_nil r0
  obtain rfl : args = #[v0] := by cases args; simp_all
  obtain ⟨rfl, rfl⟩ := trodVars_none hV
  have h0k := h0
  have hlt0 : ∀ x ∈ p0, x.block < W.heap.size := fun x hx => by have := hW'.lt x (by simp [hx]); simpa using this
  obtain ⟨s0, rfl, rfl, rfl, ws0⟩ := Go.ChangeMaps.open_string Tryz.underlying9 (hval 0 9 v0 rfl rfl) h0
  have hs0 : s0.size ≤ 1048576 := bulk_str hk0 (by simp)
  clear hA0 hval0
  simp only [List.append_nil] at hW'
  refine (walk s0 hs0 W (tabs_of_laid hL)).mono fun e W' ⟨he, hg⟩ => ?_
  subst he
  exact ⟨_, rfl, _, _, _, [], _, [], hW', trodAll_cons_mk (shut_bool Tryz.underlying4 _) trodAll_mk0,
    (trodAll_cons_mk (Below.trod laidOut (by kernel_rfl) (of_decide_eq_true (by kernel_rfl)) h0k hg hlt0) trodAll_mk0), rfl, hg.frame _, fun h => nomatch h⟩

theorem over : Rows.RadioLinesUptoSaid :=
  OpenClaim.holds_of_cond 3 Tryz.f3 rfl rfl rfl rfl rfl rfl rfl ⟨rfl, rfl, rfl, rfl, rfl⟩ rfl rfl rfl rfl rfl (by kernel_rfl) Tryz.func3 (by kernel_rfl)
    (of_decide_eq_true (by kernel_rfl)) (by unfold Func.isWrapper; first | (rw [if_pos (by decide +kernel)]; kernel_rfl) | (rw [if_neg (by decide +kernel)]; exact ⟨rfl, rfl⟩))
    (fun os started H enc _ I => by rw [OpenClaim.pre_eq_preRow]; exact lifted os started H enc I)

theorem proved : Rows.RadioLinesUptoCardSaid :=
  Claim7.holds_tied_plain_at .later [] _ _ _ _ over (fun _ h => by cases h) (by kernel_rfl) (fun _ h => by cases h) radioLinesUpto_row_tie rfl ⟨rfl, rfl⟩ (by kernel_rfl) rfl
    (fun f fn hf hfn => by
      obtain rfl : f = 3 := Option.some.inj ((show Tryz.prog.funcNamed Rows.radioLinesUptoRow.func = some 3 by kernel_rfl).symm.trans hf) |>.symm
      obtain rfl : fn = Tryz.f3 := (Option.some.inj (Tryz.func3.symm.trans hfn)).symm
      exact ⟨by kernel_rfl, fun j t ht => by
        rw [Tryz.params3] at ht
        have hm : t ∈ [9] := by simpa using Array.mem_of_getElem? ht
        have hall : ([9].all fun u => !Tryz.prog.wantsStandIn u) = true := by kernel_rfl
        exact (show Tryz.prog.wantsStandIn t = false by simpa using List.all_eq_true.1 hall t hm)⟩)
    (by kernel_rfl)
end Go.Proofs.YtoecgabdjpgleaaGreatDoor.radioLines
