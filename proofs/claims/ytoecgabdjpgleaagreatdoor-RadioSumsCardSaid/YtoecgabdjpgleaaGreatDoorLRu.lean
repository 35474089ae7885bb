/-
  RadioSums: A line with one character turned is refused, or its sum is wrong, wherever it stands. The law returns true for every input, and the input reads as it did.
  Conditions: unicode/utf8's two tables that the row lists read as the program's text lays them (the card ties them).
-/
import Derived.Test.YtoecgabdjpgleaaGreatDoorRows
import Derived.Test.YtoecgabdjpgleaaGreatDoorCards
import Derived.Test.YtoecgabdjpgleaaGreatDoorTie
import Derived.Test.YtoecgabdjpgleaaGreatDoorRdT
import Derived.Test.YtoecgabdjpgleaaGreatDoorRdO
import Derived.SevenTiedAt
import Derived.SizedLaws
import Derived.ChangeMaps5
import Derived.Carry
import Derived.Lib.SmallJoins
namespace Go.Proofs.YtoecgabdjpgleaaGreatDoor.radioSums
open Go.ChangeShapes Go.WideShapes Go.ChangeAt Go.RowKit Go.Joins Cv Rd
set_option linter.unusedVariables false
set_option linter.unusedSimpArgs false

theorem pick_n (d : Int) (n : Nat) (h : 0 < n) : ∃ (t : Int) (r : Nat), d.tmod n = t ∧ -(n : Int) < t ∧ t < n ∧ r < n ∧ (t + n).tmod n = (r : Int) ∧ (t + n) % n = (r : Int) := by
  have h1 := Int.lt_tmod_of_pos d (show (0 : Int) < (n : Int) by omega)
  have h2 := Int.tmod_lt_of_pos d (show (0 : Int) < (n : Int) by omega)
  have h3 := Int.emod_nonneg (d.tmod n + n) (show (n : Int) ≠ 0 by omega)
  have h4 := Int.emod_lt_of_pos (d.tmod n + n) (show (0 : Int) < (n : Int) by omega)
  refine ⟨_, ((d.tmod n + n) % n).toNat, rfl, h1, h2, by omega, ?_, by omega⟩
  rw [Int.tmod_eq_emod_of_nonneg (by omega)]
  omega
/-- what NMEA answers of a line with one character turned. -/
theorem turned (s : ByteArray) (r q : Nat) (h : r < s.size) (hq : q < 31) : ∃ t e : Int, nmE (tuS (mkL s) (1 + r) (Wd.gn (mkL s) (1 + r) ^^^ (q + 1))) = .returned (.tuple #[.int .i64 t, .int .i64 e]) ∧ (e = 31 ∨ e = 4) := by
  obtain ⟨t, e, hE, _, k2, k3⟩ := nm_kind (tuS (mkL s) (1 + r) (Wd.gn (mkL s) (1 + r) ^^^ (q + 1)))
  refine ⟨t, e, hE, ?_⟩
  have z := mk_size s
  have tz : (tuS (mkL s) (1 + r) (Wd.gn (mkL s) (1 + r) ^^^ (q + 1))).size = s.size + 4 := by rw [tuS, bs8_size, z]
  have tg : ∀ j, j < (tuS (mkL s) (1 + r) (Wd.gn (mkL s) (1 + r) ^^^ (q + 1))).size → Wd.gn (tuS (mkL s) (1 + r) (Wd.gn (mkL s) (1 + r) ^^^ (q + 1))) j = if j = r + 1 then Wd.gn (mkL s) j ^^^ (q + 1) else Wd.gn (mkL s) j := fun j hj => by
    have xl : Wd.gn (mkL s) (1 + r) ^^^ (q + 1) < 256 := Nat.xor_lt_two_pow (n := 8) (Wd.gn_lt _ _) (by omega)
    rw [tuS, bs8_gn _ _ _ (by omega) (by split; exact xl; exact Wd.gn_lt _ _)]
    by_cases c : j = 1 + r
    · rw [if_pos c, if_pos (by omega), c]
    · rw [if_neg c, if_neg (by omega)]
  by_cases k : okL (tuS (mkL s) (1 + r) (Wd.gn (mkL s) (1 + r) ^^^ (q + 1)))
  · exact .inl (k2 k (mk_turned h tz tg k))
  · exact .inr (k3 k)

set_option maxRecDepth 100000 in
set_option maxHeartbeats 8000000 in
theorem walk (s : ByteArray) (at_ tu : Int) (w : World) (T : Lib.Utf8Tabs 3 4 w) (hs : s.size ≤ 140737488351232) (wa : (Lit.int .i64 at_).wf = true) (wt : (Lit.int .u8 tu).wf = true) :
    Calls Tryz.prog 4 #[.string s, .int .i64 at_, .int .u8 tu] w fun e w' => e = .returned (.bool true) ∧ Below w.heap.size w w' := by
  clear T
  have SU := Lib.hid (fun w => rSum_c s w (by omega))
  have mz := mk_size s
  have N1 := Lib.hid (fun w => NMEA_c (mkL s) w (by omega))
  obtain ⟨t1, e1, hE1, k1, _, k3⟩ := nm_kind (mkL s)
  rw [hE1] at N1
  have KE : Hid (e1 = 0 ∨ e1 = 5 ∨ e1 = 4) := Lib.hid (by
    by_cases q : okL (mkL s)
    · rcases k1 q (mk_right s) with h | h
      · exact .inl h
      · exact .inr (.inl h)
    · exact .inr (.inr (k3 q)))
  have E4 : Hid (mkL s = ((⟨#[36]⟩ ++ s) ++ ⟨#[42]⟩) ++ sumT s) := Lib.hid rfl
  have zz1 : Hid ((⟨#[36]⟩ ++ s : ByteArray).size = 1 + s.size) := Lib.hid (by rw [ByteArray.size_append]; rfl)
  have zz2 : Hid (((⟨#[36]⟩ ++ s) ++ ⟨#[42]⟩ : ByteArray).size = s.size + 2) := Lib.hid (by rw [ByteArray.size_append, zz1.out]; show 1 + s.size + 1 = _; omega)
  have zz3 : Hid ((sumT s).size = 2) := Lib.hid rfl
  clear hE1 k1 k3
  have b1 := zz1.out
  have b2 := zz2.out
  have b3 := zz3.out
  have p1 : ¬ (9223372036854775807 < (⟨#[36]⟩ : ByteArray).size + s.size) := by show ¬ (9223372036854775807 < 1 + s.size); omega
  have p2 : ¬ (9223372036854775807 < (⟨#[36]⟩ ++ s : ByteArray).size + (⟨#[42]⟩ : ByteArray).size) := by rw [b1]; show ¬ (9223372036854775807 < 1 + s.size + 1); omega
  have p3 : ¬ (9223372036854775807 < ((⟨#[36]⟩ ++ s) ++ ⟨#[42]⟩ : ByteArray).size + (sumT s).size) := by rw [b2, b3]; omega
  go_enter Tryz.func4, Tryz.ntmps4
  go_wp2_with fail
  refine (awake13_c _).mono ?_
  rintro x w1 ⟨rfl, hb⟩
  have B1 := Lib.hid hb
  clear hb
  go_wp2_with fail
  refine (SU.out _).mono ?_
  rintro x w2 ⟨rfl, hb⟩
  have B2 := Lib.hid (bstep B1.out hb)
  clear hb SU
  go_wp2_with fail
  rw [← E4.out]
  refine (N1.out _).mono ?_
  rintro x w3 ⟨rfl, hb⟩
  have B3 := Lib.hid (bstep B2.out hb)
  clear hb N1 E4 zz1 zz2 zz3 b1 b2 b3 p1 p2 p3
  by_cases q4 : e1 = 4
  · subst q4
    go_wp2_with fail
    go_ret
    exact ⟨rfl, B3.out⟩
  · have n1 : (e1 == 31) = false := by simp; rcases KE.out with h | h | h <;> omega
    have n2 : (e1 == 4) = false := by simp; exact q4
    by_cases n0 : s.size = 0
    · have n3 : ((s.size : Int) == 0) = true := by simp [n0]
      go_wp2_with fail
      go_ret
      exact ⟨rfl, B3.out⟩
    · have n3 : ((s.size : Int) == 0) = false := beq_eq_false_iff_ne.2 (by omega)
      obtain ⟨t, r, eN1, eN2, eN3, eN4, eN5, eN6⟩ := pick_n at_ s.size (by omega)
      have kz : ¬ s = ByteArray.empty := fun h => n0 (by rw [h]; rfl)
      have kz2 : ¬ (s.size : Int) = 0 := by omega
      have tb := bounds_u8 wt
      obtain ⟨m, rfl⟩ : ∃ m : Nat, tu = (m : Int) := ⟨tu.toNat, by omega⟩
      obtain ⟨q, hq⟩ : ∃ q : Nat, m % 31 = q := ⟨_, rfl⟩
      have ql : q < 31 := by omega
      obtain ⟨t2, e2, hE2, K2⟩ := turned s r q eN4 ql
      have TZ : (tuS (mkL s) (1 + r) (Wd.gn (mkL s) (1 + r) ^^^ (q + 1))).size = s.size + 4 := by rw [tuS, bs8_size, mz]
      have N2 := Lib.hid (fun w => NMEA_c (tuS (mkL s) (1 + r) (Wd.gn (mkL s) (1 + r) ^^^ (q + 1))) w (by omega))
      rw [hE2] at N2
      have CV := conv_str w3 (mkL s)
      have BW := conv_bw w3 (mkL s)
      have CB := conv_below w3 (mkL s)
      have xl := Wd.gn_lt (mkL s) (1 + r)
      have X1 := xor8 (Wd.gn (mkL s) (1 + r)) (q + 1) xl (by omega)
      have M1 : (m : Int).tmod 31 = (q : Int) := by rw [Int.tmod_eq_emod_of_nonneg (by omega)]; omega
      have M2 : IntKind.u8.wrap ((q : Int) + 1) = (q : Int) + 1 := by rw [show (q : Int) + 1 = ((q + 1 : Nat) : Int) by omega]; exact wrap8 _ (by omega)
      rw [show ((q + 1 : Nat) : Int) = (q : Int) + 1 by omega] at X1
      have gc := (BW.2 (1 + r) (by omega)).1
      have gf := (BW.2 (1 + r) (by omega)).2
      have BS := Lib.hid ((BW.set (i := 1 + r) (by omega) (Wd.gn (mkL s) (1 + r) ^^^ (q + 1))).conv (fun j => by
        show (if j = 1 + r then Wd.gn (mkL s) (1 + r) ^^^ (q + 1) else Wd.gn (mkL s) j) < 256
        split
        · exact Nat.xor_lt_two_pow (n := 8) xl (by omega)
        · exact Wd.gn_lt _ _) (grownCap w3 (mkL s).size 0 5))
      have cg0 := grownCap_ge w3 (mkL s).size 0 5
      have BB := Lib.hid ((bstep B3.out CB).setCell (p := ⟨w3.heap.size, 1 + r, none⟩) (show w.heap.size ≤ w3.heap.size from B3.out.size) (.int .u8 ((Wd.gn (mkL s) (1 + r) ^^^ (q + 1) : Nat) : Int)))
      rw [mz] at CV BW BS cg0
      generalize Lib.bytesWorld w3 5 (mkL s) = w4 at *
      generalize grownCap w3 (s.size + 4) 0 5 = cp at *
      have TS : tuS (mkL s) (1 + r) (Wd.gn (mkL s) (1 + r) ^^^ (q + 1)) = By.bs8 (By.bl (fun j => if j = 1 + r then Wd.gn (mkL s) (1 + r) ^^^ (q + 1) else Wd.gn (mkL s) j) (s.size + 4)) := by rw [tuS, mz]
      rw [TS] at N2
      generalize By.bs8 (By.bl (fun j => if j = 1 + r then Wd.gn (mkL s) (1 + r) ^^^ (q + 1) else Wd.gn (mkL s) j) (s.size + 4)) = L2 at *
      clear hE2 TZ TS BW CB
      generalize Wd.gn (mkL s) (1 + r) = x at *
      generalize mkL s = LL at *
      generalize x ^^^ (q + 1) = y at *
      have bs := BS.out
      clear BS
      go_wp2_with fail
      (with_reducible refine (N2.out _).mono ?_)
      rintro x w5 ⟨rfl, hb⟩
      have B5 := Lib.hid (bstep BB.out hb)
      clear hb N2 BB
      rcases K2 with h | h
      · subst h
        go_wp2_with fail
        go_ret
        exact ⟨rfl, B5.out⟩
      · subst h
        go_wp2_with fail
        go_ret
        exact ⟨rfl, B5.out⟩

set_option maxRecDepth 100000 in
set_option maxHeartbeats 2000000 in
theorem lifted (os : Os) (started : os.Started) (H : Type) (enc : TypeId × Value → H) :
    ReturnsInHanded {} Tryz.checked os 4 .any (fun w args => (Rows.radioSumsSpec.pre enc Tryz.prog Tryz.f4 [] false w args ∧ laidMetH Tryz.prog Rows.radioSumsRow.laid w) ∧ sizedMet enc Tryz.prog Tryz.f4 (OpenSpec.ofChange Rows.radioSumsSpec) false w args)
      (Rows.radioSumsSpec.post enc Tryz.prog Tryz.f4 false true false false) := by
  refine returnsInHanded_of_change_and (C := Tryz.checked) (X := fun w _ => laidMetH Tryz.prog Rows.radioSumsRow.laid w) (fun _ _ _ hh h => h.of_heap hh) own started (by kernel_rfl) Tryz.func4
    (ChangeSpec.witness_shaped (enc := enc) (C := Tryz.checked) (os := os) (X := fun w _ => laidMetH Tryz.prog Rows.radioSumsRow.laid w) false (World.laidAll Tryz.prog os Rows.radioSumsRow.laid) #[.string ⟨#[]⟩, .int .i64 0, .int .u8 0] 8 (World.laidAll_os _ _ _) (World.shaped_of_ZipB (by kernel_rfl) (by kernel_rfl)) (by kernel_rfl) (by kernel_rfl) (by kernel_rfl) (met os _)) ?_
  intro W base args ds gs before hval0 hW _ hsz0 hL _
  have hsz : (DataW.weightsEach Tryz.prog (Tryz.f4.params.toList ++ Rows.radioSumsSpec.plain.varTypes Tryz.prog) (ds ++ gs)).all (· ≤ reachBytes) = true := hsz0
  have hval : ∀ (j : Nat) t v, Tryz.f4.params[j]? = some t → args[j]? = some v → Value.okWide Tryz.prog W .any base t v := hval0
  have hW' := hW
  obtain ⟨p, q, hA0, hV, rfl, hfz, hnd⟩ := hW
  have hA : DataW.TrodAll enc Tryz.prog W 0 (fun _ => true) true Tryz.f4.params.toList args.toList ds p := hA0
  rw [Tryz.params4] at hA hval hsz
  obtain ⟨v0, vs0, d0, ds0, p0, q0, hargs, rfl, rfl, h0, r0⟩ := trodAll_cons hA
  obtain ⟨v1, vs1, d1, ds1, p1, q1, rfl, rfl, rfl, h1, r1⟩ := trodAll_cons r0
  obtain ⟨v2, vs2, d2, ds2, p2, q2, rfl, rfl, rfl, h2, r2⟩ := trodAll_cons r1
  obtain ⟨rfl, rfl, rfl⟩ := trodAll_nil r2
  obtain rfl : args = #[v0, v1, v2] := by cases args; simp_all
  obtain ⟨rfl, rfl⟩ := trodVars_none hV
  have h0k := h0
  have hlt0 : ∀ x ∈ p0, x.block < W.heap.size := fun x hx => by have := hW'.lt x (by simp [hx]); simpa using this
  obtain ⟨s0, rfl, rfl, rfl, ws0⟩ := Go.ChangeMaps.open_string Tryz.underlying9 (hval 0 9 v0 rfl rfl) h0
  have z0 : s0.size ≤ 140737488351232 := by
    have k := sized_string hsz (j := 0) (t := 9) (bytes := s0.data.toList) rfl rfl
    unfold reachBytes at k
    rw [Array.length_toList] at k
    exact k
  obtain ⟨a1, rfl, rfl, rfl, w1⟩ := open_int Tryz.underlying3 (hval 1 3 v1 rfl rfl) h1
  obtain ⟨a2, rfl, rfl, rfl, w2⟩ := open_int Tryz.underlying5 (hval 2 5 v2 rfl rfl) h2
  clear hA0 hval0
  simp only [List.append_nil] at hW'
  refine (walk s0 a1 a2 W (tabs_of_laid hL) z0 w1 w2).mono fun e W' ⟨he, hg⟩ => ?_
  subst he
  exact ⟨_, rfl, _, _, _, [], _, [], hW', trodAll_cons_mk (shut_bool Tryz.underlying4 _) trodAll_mk0,
    (trodAll_cons_mk (Below.trod laidOut (by kernel_rfl) (of_decide_eq_true (by kernel_rfl)) h0k hg hlt0) (trodAll_cons_mk (shut_int Tryz.underlying3 w1) (trodAll_cons_mk (shut_int Tryz.underlying5 w2) trodAll_mk0))), rfl, hg.frame _, fun h => nomatch h⟩

theorem over : Rows.RadioSumsSaid :=
  OpenClaim.holds_of_wide 4 Tryz.f4 rfl rfl rfl rfl rfl rfl rfl ⟨rfl, rfl, rfl, rfl, rfl⟩ rfl rfl rfl rfl rfl (by kernel_rfl) Tryz.func4 (by kernel_rfl)
    (of_decide_eq_true (by kernel_rfl)) (by unfold Func.isWrapper; first | (rw [if_pos (by decide +kernel)]; kernel_rfl) | (rw [if_neg (by decide +kernel)]; exact ⟨rfl, rfl⟩))
    (fun os started H enc _ => lifted os started H enc)

theorem proved : Rows.RadioSumsCardSaid :=
  Claim7.holds_tied_plain_at .later [] [.data, .pinned] true Rows.radioSumsCard.stood.harness false
    over (fun _ h => by cases h) (by kernel_rfl) (fun _ h => by cases h) radioSums_row_tie rfl ⟨rfl, rfl⟩ (by kernel_rfl) rfl
    (fun f fn hf hfn => by
      obtain rfl : f = 4 := Option.some.inj ((show Tryz.prog.funcNamed Rows.radioSumsRow.func = some 4 by kernel_rfl).symm.trans hf) |>.symm
      obtain rfl : fn = Tryz.f4 := (Option.some.inj (Tryz.func4.symm.trans hfn)).symm
      exact ⟨by kernel_rfl, fun j t ht => by
        rw [Tryz.params4] at ht
        have hm : t ∈ [9, 3, 5] := by simpa using Array.mem_of_getElem? ht
        have hall : ([9, 3, 5].all fun u => !Tryz.prog.wantsStandIn u) = true := by kernel_rfl
        exact (show Tryz.prog.wantsStandIn t = false by simpa using List.all_eq_true.1 hall t hm)⟩)
    (by kernel_rfl)
end Go.Proofs.YtoecgabdjpgleaaGreatDoor.radioSums
