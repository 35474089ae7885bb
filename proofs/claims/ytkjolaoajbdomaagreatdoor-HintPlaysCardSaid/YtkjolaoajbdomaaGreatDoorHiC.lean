/-
  The contract of hint.Parse.
  Conditions: the tables and the errors that the calls read lie as the program's text lays them.
-/
import Derived.Test.YtkjolaoajbdomaaGreatDoorHiB
namespace Go.Proofs.YtkjolaoajbdomaaGreatDoor.Hi
open Go.ChangeShapes Go.WideShapes Go.ChangeAt Go.RowKit Go.Joins By Ct Dk
set_option linter.unusedVariables false
set_option linter.unusedSimpArgs false

theorem conv_belowT (w : World) (t : TypeId) (s : ByteArray) : Below w.heap.size w (Lib.bytesWorld w t s) :=
  ⟨rfl, rfl, rfl, by rw [Lib.bytesWorld_size]; omega, fun j hj => Lib.bytesWorld_at_old w _ s j hj⟩
theorem Atoi_ok (s : ByteArray) (hmax : s.size ≤ 9223372036854775806) (v : Int) (h : Lib.atoiAll s.data.toList = .ok v) (w : World) :
    Calls Tryz.prog 65 #[.string s] w fun e w' => e = .returned (.tuple #[.int .i64 v, .nilIface]) ∧ Below w.heap.size w w' :=
  (Any.strconv_Atoi_ok atoiL s hmax v h w).mono fun e w' ⟨he, hw⟩ => ⟨he, by
    rcases hw with rfl | ⟨t, rfl⟩
    · exact brefl _
    · exact conv_belowT _ _ _⟩
theorem Atoi_bad (s : ByteArray) (hlim : s.size ≤ 281474976710656) (h : ∀ v, Lib.atoiAll s.data.toList ≠ .ok v) (w : World) (E : Gt w) :
    Calls Tryz.prog 65 #[.string s] w fun e w' => (∃ n N, e = .returned (.tuple #[.int .i64 n, .iface 141 (.pointer (some ⟨N, 0, none⟩))])) ∧ Below w.heap.size w w' := by
  obtain ⟨_, _, ⟨ev, s1, s2⟩, ⟨er, r1, r2⟩⟩ := E
  cases x : Lib.atoiAll s.data.toList with
  | ok v => exact absurd x (h v)
  | range => exact (Any.strconv_Atoi_range atoiL s hlim x er w r1 r2).mono fun e w' ⟨N, he, _, _, hb⟩ => ⟨⟨_, N, he⟩, hb⟩
  | _ => exact (Any.strconv_Atoi_syntax atoiL s hlim x ev w s1 s2).mono fun e w' ⟨N, he, _, _, hb⟩ => ⟨⟨_, N, he⟩, hb⟩
theorem clamp_c (n : Int) (w : World) : Calls Tryz.prog 66 #[.int .i64 n] w fun e w' => e = .returned (.int .i64 (clampI n)) ∧ w' = w := by
  go_enter Tryz.func66, Tryz.ntmps66
  go_wp2_with fail
  go_ret
  exact ⟨rfl, rfl⟩
theorem cutA_size (s : ByteArray) (c : UInt8) : (cutA s c).size ≤ s.size := by
  unfold cutA
  rw [ByteArray.size_extract]
  omega
theorem cutB_size (s : ByteArray) (c : UInt8) : (cutB s c).size ≤ s.size := by
  unfold cutB
  rw [ByteArray.size_extract]
  omega
theorem ba_list {s t : ByteArray} : s.data.toList = t.data.toList ↔ s = t :=
  ⟨fun h => ByteArray.ext (Array.toList_inj.1 h), fun h => by rw [h]⟩
set_option maxRecDepth 100000 in
set_option maxHeartbeats 8000000 in
theorem Parse_c {w : World} {v : Value} {l : List Nat} (E : Gt w) (S : Sl w v l) :
    Calls Tryz.prog 49 #[v] w fun e w' => e = .returned (.tuple #[.int .i64 (prs (bt l)).1, .int .i64 (prs (bt l)).2]) ∧ Below w.heap.size w w' := by
  obtain ⟨da, dc, rfl⟩ := S.form
  have CV := S.conv (brefl w)
  have PQ : prs (bt l) = prsE (By.bs8 l).data.toList (Lib.atoiAll (cutN (By.bs8 l)).data.toList) := prs_cut (By.bs8 l)
  have SZ : (By.bs8 l).size ≤ 140737488351232 := by
    show (⟨(l.map UInt8.ofNat).toArray⟩ : ByteArray).size ≤ _
    rw [ls_size, List.length_map]
    exact S.1
  rw [PQ]
  have HE := Lib.hid E
  clear PQ S E
  generalize By.bs8 l = s at *
  have HA : Hid (cutN s = cutA (cutB s 32) 32) := Lib.hid rfl
  have z1 := cutA_size (cutB s 32) 32
  have z2 := cutB_size s 32
  have K1 := Lib.hid (Cut_c s 32 w (by omega))
  have K2 := Lib.hid (fun w' : World => Cut_c (cutB s 32) 32 w' (by omega))
  rw [← HA.out] at z1
  have K3 : Hid (∀ (v : Int) (w' : World), Lib.atoiAll (cutN s).data.toList = .ok v → Calls Tryz.prog 65 #[.string (cutN s)] w' fun e w'' => e = .returned (.tuple #[.int .i64 v, .nilIface]) ∧ Below w'.heap.size w' w'') := Lib.hid (fun v w' h => Atoi_ok (cutN s) (by omega) v h w')
  have K4 : Hid (∀ (w' : World), Below w.heap.size w w' → (∀ v, Lib.atoiAll (cutN s).data.toList ≠ .ok v) → Calls Tryz.prog 65 #[.string (cutN s)] w' fun e w'' => (∃ n N, e = .returned (.tuple #[.int .i64 n, .iface 141 (.pointer (some ⟨N, 0, none⟩))])) ∧ Below w'.heap.size w' w'') := Lib.hid (fun w' q h => Atoi_bad (cutN s) (by omega) h w' (HE.out.below q))
  rw [← HA.out] at K2
  obtain ⟨X, hX⟩ : ∃ X, Lib.atoiAll (cutN s).data.toList = X := ⟨_, rfl⟩
  rw [hX] at K3 K4
  rw [hX]
  clear HA hX
  obtain ⟨⟨r1, r2⟩, hR⟩ : ∃ R, prsE s.data.toList X = R := ⟨_, rfl⟩
  rw [hR]
  have HR := Lib.hid hR
  clear hR
  dsimp only
  generalize cutN s = a2 at *
  generalize cutA s 32 = a0 at *
  generalize cutB (cutB s 32) 32 = a3 at *
  generalize cutF (cutB s 32) 32 = f1 at *
  generalize cutF s 32 = f0 at *
  generalize cutB s 32 = a1 at *
  go_enter Tryz.func49, Tryz.ntmps49
  go_wp2_with fail
  refine K1.out.mono ?_
  rintro e w1 ⟨rfl, hb⟩
  have B1 := Lib.hid hb
  clear hb
  go_wp2_with fail
  refine (K2.out w1).mono ?_
  rintro e w2 ⟨rfl, hb⟩
  have B2 := Lib.hid (bstep B1.out hb)
  clear hb B1 K1 K2
  by_cases c : ∃ v, X = .ok v
  · obtain ⟨v, rfl⟩ := c
    go_wp2_with fail
    refine (K3.out v w2 rfl).mono ?_
    rintro e w3 ⟨rfl, hb⟩
    have B3 := Lib.hid (bstep B2.out hb)
    clear hb B2 K3 K4
    cases ho : okT v with
    | false =>
      have hr : (r1, r2) = ((0 : Int), (4 : Int)) := HR.out.symm.trans (by unfold prsE; dsimp only; rw [if_neg (by rw [ho]; simp)])
      replace hr := Lib.hid hr
      have T := Lib.hid (Text_no w3 ho)
      go_wp2_with fail
      refine T.out.mono ?_
      rintro e w4 ⟨rfl, rfl⟩
      go_wp2_with fail
      exact bodyPost_ret (v := .tuple #[.int .i64 0, .int .i64 4]) (by simp [results, Tryz.results49, go_sem]) rfl ⟨by obtain ⟨rfl, rfl⟩ := Prod.mk.inj hr.out; rfl, B3.out⟩
    | true =>
      have T := Lib.hid (Text_c w3 (HE.out.below B3.out) ho)
      by_cases d : txt v = s.data.toList
      · have hr : (r1, r2) = (clampI v, (0 : Int)) := HR.out.symm.trans (by unfold prsE; dsimp only; rw [if_pos ⟨ho, d⟩])
        replace hr := Lib.hid hr
        have e1 : (⟨(txt v).toArray⟩ : ByteArray) = s := by rw [d]
        rw [e1] at T
        have CL := fun w' => Lib.hid (clamp_c v w')
        generalize clampI v = cv at *
        clear d e1 ho
        go_wp2_with fail
        refine T.out.mono ?_
        rintro e w4 ⟨rfl, hb⟩
        have B4 := Lib.hid (bstep B3.out hb)
        clear hb B3
        go_wp2_with fail
        refine (CL w4).out.mono ?_
        rintro e w5 ⟨rfl, hw⟩
        subst hw
        go_wp2_with fail
        exact bodyPost_ret (v := .tuple #[.int .i64 cv, .int .i64 0]) (by simp [results, Tryz.results49, go_sem]) rfl ⟨by obtain ⟨rfl, rfl⟩ := Prod.mk.inj hr.out; rfl, B4.out⟩
      · have hr : (r1, r2) = ((0 : Int), (4 : Int)) := HR.out.symm.trans (by unfold prsE; dsimp only; rw [if_neg (fun q => d q.2)])
        replace hr := Lib.hid hr
        have e1 : ((⟨(txt v).toArray⟩ : ByteArray).toList == s.toList) = false := by
          rw [beq_eq_false_iff_ne, ByteArray.toList_eq, ByteArray.toList_eq]
          exact d
        generalize (⟨(txt v).toArray⟩ : ByteArray) = tx at *
        clear d ho
        go_wp2_with fail
        refine T.out.mono ?_
        rintro e w4 ⟨rfl, hb⟩
        have B4 := Lib.hid (bstep B3.out hb)
        clear hb B3
        go_wp2_with fail
        exact bodyPost_ret (v := .tuple #[.int .i64 0, .int .i64 4]) (by simp [results, Tryz.results49, go_sem]) rfl ⟨by obtain ⟨rfl, rfl⟩ := Prod.mk.inj hr.out; rfl, B4.out⟩
  · have hr : (r1, r2) = ((0 : Int), (4 : Int)) := HR.out.symm.trans (by
      cases X with
      | ok v => exact absurd ⟨v, rfl⟩ c
      | _ => rfl)
    replace hr := Lib.hid hr
    go_wp2_with fail
    refine (K4.out w2 B2.out (fun v q => c ⟨v, q⟩)).mono ?_
    rintro e w3 ⟨⟨n, N, rfl⟩, hb⟩
    have B3 := Lib.hid (bstep B2.out hb)
    clear hb B2 K3 K4
    go_wp2_with fail
    exact bodyPost_ret (v := .tuple #[.int .i64 0, .int .i64 4]) (by simp [results, Tryz.results49, go_sem]) rfl ⟨by obtain ⟨rfl, rfl⟩ := Prod.mk.inj hr.out; rfl, B3.out⟩
end Go.Proofs.YtkjolaoajbdomaaGreatDoor.Hi
