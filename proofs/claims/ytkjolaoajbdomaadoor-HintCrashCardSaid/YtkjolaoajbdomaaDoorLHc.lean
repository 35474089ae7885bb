/-
  HintCrash: Whatever the power does, a restart finds the hint of the last save that came through or of the one that was cut short, or none if there was none yet. The law returns true for every input, and the input reads as it did.
  Conditions: the tables and the errors that the row lists read as the program's text lays them (the card ties them).
-/
import Derived.Test.YtkjolaoajbdomaaDoorRows
import Derived.Test.YtkjolaoajbdomaaDoorCards
import Derived.Test.YtkjolaoajbdomaaDoorTie
import Derived.Test.YtkjolaoajbdomaaDoorHiI
import Derived.SevenTiedAt
import Derived.StillTailTactics
namespace Go.Proofs.YtkjolaoajbdomaaDoor.hintCrash
open Go.ChangeShapes Go.WideShapes Go.ChangeAt Go.RowKit Go.Joins By Ct Dk Hi
set_option linter.unusedVariables false
set_option linter.unusedSimpArgs false

/-- between two rounds. -/
def Rel (w wr : World) (d : Nat) (i : Nat) (has : Bool) (last : Int) (s : Dk) (F O : Option Int) : Prop :=
  Dm w wr d s ∧ Below w.heap.size w wr ∧ s.out = false ∧ Has s F O ∧ has = (valO F O).isSome ∧ (∀ m, valO F O = some m → last = clampI m) ∧ s.fs.length ≤ 3 * i
/-- with the cut set, or without. -/
def Rel2 (w wr : World) (d : Nat) (i : Nat) (s : Dk) (F O : Option Int) : Prop :=
  Dm w wr d s ∧ Below w.heap.size w wr ∧ s.out = false ∧ Has s F O ∧ s.fs.length ≤ 3 * i
set_option maxRecDepth 100000 in
set_option maxHeartbeats 32000000 in
theorem walk (v0 : Value) (L0 : List Int) (v1 : Value) (L1 : List Int) (v2 : Value) (L2 : List Int) (w : World) (G : Gt w) (A0 : Nl w v0 L0) (A1 : Nl w v1 L1) (A2 : Nl w v2 L2) :
    Calls Tryd.prog 4 #[v0, v1, v2] w fun e w' => e = .returned (.bool true) ∧ Below w.heap.size w w' := by
  have AW := Lib.hid (awake12_c w G)
  have HG := Lib.hid G
  have H0 := Lib.hid A0
  have H1 := Lib.hid A1
  have H2 := Lib.hid A2
  obtain ⟨a0, k0, rfl, m0, n0⟩ := A0.form
  obtain ⟨a1, k1, rfl, m1, n1⟩ := A1.form
  obtain ⟨a2, k2, rfl, m2, n2⟩ := A2.form
  clear A0 A1 A2 G
  go_enter Tryd.func4, Tryd.ntmps4
  go_wp2_with fail
  refine AW.out.mono ?_
  rintro e w1 ⟨rfl, hb⟩
  have NW := Lib.hid (New_d w w1 hb)
  clear hb AW
  go_wp2_with fail
  refine NW.out.mono ?_
  rintro e w2 ⟨d, rfl, hd2, hb2⟩
  have R0 : Hid (Rel w w2 d 0 false 0 new none none) := Lib.hid ⟨hd2, hb2, rfl, has_new, rfl, fun m q => (by cases q), (by decide)⟩
  clear hd2 hb2 NW
  go_wp2_with fail
  go_loopw [8, 9, 10] (fun hv lv iv wr => ∃ (i : Nat) (has : Bool) (last : Int) (s : Dk) (F O : Option Int), i ≤ L0.length ∧ i ≤ 500 ∧ hv = .bool has ∧ lv = .int .i64 last ∧ iv = .int .i64 i ∧ Rel w wr d i has last s F O) (fun _ _ iv _ => L0.length - (intOf iv).toNat)
  case atStart => exact ⟨0, false, 0, new, none, none, Nat.zero_le _, by omega, rfl, rfl, rfl, R0.out⟩
  case round =>
    obtain ⟨i, has, last, s, F, O, hi, h5, rfl, rfl, rfl, hr⟩ := hrel
    rename World => wr
    have RR := Lib.hid hr
    have BW := Lib.hid hr.2.1
    clear hr R0
    by_cases c : i < L0.length ∧ i < 500
    · obtain ⟨c0, c5⟩ := c
      have f1 : decide ((i : Int) < (L0.length : Int)) = true := decide_eq_true (by omega)
      have f2 : decide ((i : Int) < 500) = true := decide_eq_true (by omega)
      obtain ⟨x, hx⟩ : ∃ x, L0[i]? = some x := ⟨_, List.getElem?_eq_getElem c0⟩
      obtain ⟨⟨b0, o0, rfl, hb0, hc0⟩, x1, x2⟩ := nl_at H0.out hx
      have hc := (BW.out.cell (p := ⟨b0, _, none⟩) hb0).trans hc0
      obtain ⟨r, hr, IN⟩ := into_f x 2000001 x1 x2 (by decide) (by decide)
      have p1 : (0 : Int) ≤ (i : Int) := by omega
      have p2 : (i : Int) < (L0.length : Int) := by omega
      have p3 : IntKind.i64.wrap ((r : Int) - 1000000) = (r : Int) - 1000000 := wrap_in (by omega) (by omega)
      have HI := Lib.hid IN
      obtain ⟨n, hn⟩ : ∃ n : Int, (r : Int) - 1000000 = n := ⟨_, rfl⟩
      have p4 : IntKind.i64.wrap n = n := wrap_in (by omega) (by omega)
      have ho : okT n = true := okT_iff.2 ⟨by omega, by omega⟩
      have HO := Lib.hid ho
      have HN := Lib.hid hn
      clear IN ho hc0 x1 x2 hx hr
      go_upto_region 9 with fail
      have I9 := HI.out wr
      go_wp2_with fail
      refine I9.mono ?_
      rintro e wz ⟨rfl, hw⟩
      subst hw
      clear I9
      go_upto_region 10 with fail
      clear hc p3 p4 hn f1 f2
      go_cut [51] from 34 to 51 (fun cv wx => wx = wz ∧ ∃ B : Bool, cv = .bool B ∧ (B = true → ∃ y z, L1[i]? = some y ∧ L2[i]? = some z))
      case first =>
        by_cases d1 : i < L1.length
        · have g1 : decide ((i : Int) < (L1.length : Int)) = true := decide_eq_true (by omega)
          have g1' : decide (i < L1.length) = true := decide_eq_true d1
          by_cases d2 : i < L2.length
          · have g2 : decide ((i : Int) < (L2.length : Int)) = true := decide_eq_true (by omega)
            have g2' : decide (i < L2.length) = true := decide_eq_true d2
            obtain ⟨y, hy⟩ : ∃ y, L1[i]? = some y := ⟨_, List.getElem?_eq_getElem d1⟩
            obtain ⟨⟨b1, o1, rfl, hb1, hc1⟩, y1, y2⟩ := nl_at H1.out hy
            obtain ⟨z, hz⟩ : ∃ z, L2[i]? = some z := ⟨_, List.getElem?_eq_getElem d2⟩
            have cy := (BW.out.cell (p := ⟨b1, _, none⟩) hb1).trans hc1
            have e2 : (i : Int) < (L1.length : Int) := by omega
            obtain ⟨p, hp⟩ : ∃ p, y.tmod 2 = p := ⟨_, rfl⟩
            have wp : IntKind.i64.wrap p = p := by
              have := Int.tmod_lt_of_pos y (show (0 : Int) < 2 by decide)
              have := Int.lt_tmod_of_pos y (show (0 : Int) < 2 by decide)
              exact wrap_in (by omega) (by omega)
            have YZ := Lib.hid (⟨y, z, hy, hz⟩ : ∃ y z, L1[i]? = some y ∧ L2[i]? = some z)
            clear hy hz hb1 hc1 y1 y2
            go_wp2_with fail
            go_meet
            exact ⟨rfl, _, rfl, fun _ => YZ.out⟩
          · have g2 : decide ((i : Int) < (L2.length : Int)) = false := decide_eq_false (by omega)
            have g2' : decide (i < L2.length) = false := decide_eq_false d2
            go_wp2_with fail
            go_meet
            exact ⟨rfl, _, rfl, fun q => by cases q⟩
        · have g1 : decide ((i : Int) < (L1.length : Int)) = false := decide_eq_false (by omega)
          have g1' : decide (i < L1.length) = false := decide_eq_false d1
          go_wp2_with fail
          go_meet
          exact ⟨rfl, _, rfl, fun q => by cases q⟩
      obtain ⟨hwx, B, rfl, hyz⟩ := hcut
      subst hwx
      have HY := Lib.hid hyz
      clear hyz
      rename World => wx
      go_upto_if 51 with fail
      go_cut [7] from 52 to 63 (fun dv wy => dv = .pointer (some ⟨d, 0, none⟩) ∧ ∃ s', Rel2 w wy d i s' F O)
      case first =>
        have N0 : Hid (Rel2 w wx d i s F O) := Lib.hid (by obtain ⟨q1, q2, q3, q4, q5, q6, q7⟩ := RR.out; exact ⟨q1, q2, q3, q4, q7⟩)
        cases B with
        | false =>
          go_wp2_with fail
          go_meet
          exact ⟨rfl, s, N0.out⟩
        | true =>
          obtain ⟨y, z, hy, hz⟩ := HY.out rfl
          have d1 := (List.getElem?_eq_some_iff.1 hy).1
          have d2 := (List.getElem?_eq_some_iff.1 hz).1
          obtain ⟨⟨b1, o1, rfl, hb1, hc1⟩, y1, y2⟩ := nl_at H1.out hy
          obtain ⟨⟨b2, o2, rfl, hb2, hc2⟩, z1, z2⟩ := nl_at H2.out hz
          have cy := (BW.out.cell (p := ⟨b1, _, none⟩) hb1).trans hc1
          have cz := (BW.out.cell (p := ⟨b2, _, none⟩) hb2).trans hc2
          have e2 : (i : Int) < (L1.length : Int) := by omega
          have e3 : (i : Int) < (L2.length : Int) := by omega
          obtain ⟨q, hq⟩ : ∃ q, y.tdiv 2 = q := ⟨_, rfl⟩
          have qb : -9223372036854775808 ≤ q ∧ q ≤ 9223372036854775807 := by
            rw [← hq]
            rcases Int.le_total 0 y with h | h
            · rw [Int.tdiv_eq_ediv_of_nonneg h]; omega
            · have e : y.tdiv 2 = -((-y) / 2) := by
                rw [← Int.tdiv_eq_ediv_of_nonneg (by omega), Int.neg_tdiv, Int.neg_neg]
              rw [e]; omega
          have wq : IntKind.i64.wrap q = q := wrap_in qb.1 qb.2
          obtain ⟨N, hN, IN⟩ := into_f q 5 qb.1 qb.2 (by decide) (by decide)
          have I5 := Lib.hid IN
          clear IN
          go_upto_region 11 with fail
          refine wp_region_still_tail 11 (by kernel_rfl) (by kernel_rfl) ?_
          change wpStill _ _ wx.drew (fun a' => wpList _ _ _ _ a' wx.drew) _ _
          have cy' : wx.drew.cell? ⟨b1, o1 + i, none⟩ = some (.int .i64 y) := cy
          have cz' : wx.drew.cell? ⟨b2, o2 + i, none⟩ = some (.int .i64 z) := cz
          have N1 : Hid (Rel2 w wx.drew d i s F O) := Lib.hid (by
            obtain ⟨q1, q2, q3, q4, q5⟩ := N0.out
            exact ⟨q1.below (bdrew (brefl wx) 1), bstep q2 (bdrew (brefl wx) 1), q3, q4, q5⟩)
          clear cy cz
          generalize wx.drew = w5 at *
          have CT := Lib.hid (Cut_d N1.out.1 N1.out.2.1 (N : Int) z (by omega) z1 z2)
          simp only [List.take_succ_cons, List.take_zero, List.drop_succ_cons, List.drop_zero]
          repeat still_step
          still_call (I5.out w5)
          repeat still_step
          try refine wpStill_nil ?_
          go_wp2_with fail
          refine CT.out.mono ?_
          rintro e w6 ⟨rfl, hd, hb⟩
          have N2 : Hid (Rel2 w w6 d i (cutS s N z) F O) := Lib.hid (by
            obtain ⟨q1, q2, q3, q4, q5⟩ := N1.out
            exact ⟨hd, hb, out_cut q3 _ _, has_cut q4 _ _, by rw [len_cut]; exact q5⟩)
          clear hd hb CT
          go_wp2_with fail
          go_meet
          exact ⟨rfl, _, N2.out⟩
      case rest =>
        obtain ⟨rfl, s', hr2⟩ := hcut
        rename World => wy
        obtain ⟨hd, hb, so, sh, sf⟩ := hr2
        obtain ⟨F', O', nh, nc⟩ := save_has HO.out so sh
        have SL := save_len s' n
        have K1 := Lib.hid (Save_d (n := n) HG.out hd hb (by omega))
        have LD : Hi.load (restart (saveS s' n)) = ansO (valO F' O') := load_has (has_restart nh) rfl
        have CL := fun w' => Lib.hid (clamped_c n w')
        obtain ⟨E, hE⟩ : ∃ E, saveE s' n = E := ⟨_, rfl⟩
        obtain ⟨T, hT⟩ : ∃ T, saveS s' n = T := ⟨_, rfl⟩
        rw [hE] at nc
        rw [hE, hT] at K1
        rw [hT] at LD SL nh
        clear hd hb so sh hE hT
        go_wp2_with fail
        refine K1.out.mono ?_
        rintro e wa ⟨rfl, hda, hba⟩
        have K2 := Lib.hid (Restart_d hda hba)
        clear hda hba K1
        go_wp2_with fail
        refine K2.out.mono ?_
        rintro e wb ⟨rfl, hdb, hbb⟩
        have K3 := Lib.hid (Load_d HG.out hdb hbb)
        rw [LD] at K3
        clear hdb hbb K2 LD
        go_wp2_with fail
        refine K3.out.mono ?_
        rintro e wc ⟨rfl, hdc, hbc⟩
        have NR : Hid (∀ (h' : Bool) (l' : Int), h' = (valO F' O').isSome → (∀ m, valO F' O' = some m → l' = clampI m) → Rel w wc d (i + 1) h' l' (restart T) F' O') := Lib.hid (fun h' l' q1 q2 => ⟨hdc, hbc, rfl, has_restart nh, q1, q2, by show T.fs.length ≤ 3 * (i + 1); omega⟩)
        have OH := Lib.hid RR.out.2.2.2.2.1
        have OL := Lib.hid RR.out.2.2.2.2.2.1
        clear hdc hbc K3 nh SL sf
        rcases nc with ⟨rfl, rfl⟩ | ⟨rfl, hv⟩
        · have N2 := Lib.hid (NR.out true (clampI n) rfl (fun m q => by have : some n = some m := q; cases this; rfl))
          have CC := CL wc
          rw [show ansO (valO (some n) O') = (clampI n, 0) from rfl]
          dsimp only
          generalize clampI n = cn at *
          clear NR CL
          go_wp2_with fail
          refine CC.out.mono ?_
          rintro e wd ⟨rfl, hw⟩
          subst hw
          go_wp2_with fail
          go_roundw
          case rel => exact ⟨i + 1, true, cn, restart T, some n, O', by omega, by omega, rfl, rfl, by go_num, N2.out⟩
          case measure => simp [intOf]; omega
        · cases hk : valO F' O' with
          | none =>
            have h0 : valO F O = none := by
              rcases hv with q | q
              · rw [← q]; exact hk
              · rw [q] at hk; cases hk
            have hf : has = false := by rw [OH.out, h0]; rfl
            subst hf
            have N2 := Lib.hid (NR.out false last (by rw [hk]; rfl) (fun m q => by rw [hk] at q; cases q))
            rw [show ansO none = (0, 5) from rfl]
            dsimp only
            clear NR CL
            go_wp2_with fail
            go_roundw
            case rel => exact ⟨i + 1, false, last, restart T, F', O', by omega, by omega, rfl, rfl, by go_num, N2.out⟩
            case measure => simp [intOf]; omega
          | some m =>
            have N2 := Lib.hid (NR.out true (clampI m) (by rw [hk]; rfl) (fun k q => by rw [hk] at q; cases q; rfl))
            have CC := CL wc
            rw [show ansO (some m) = (clampI m, 0) from rfl]
            dsimp only
            clear NR CL
            by_cases q : clampI m = clampI n
            · rw [q] at N2 ⊢
              generalize clampI n = cn at *
              go_wp2_with fail
              refine CC.out.mono ?_
              rintro e wd ⟨rfl, hw⟩
              subst hw
              go_wp2_with fail
              go_roundw
              case rel => exact ⟨i + 1, true, cn, restart T, F', O', by omega, by omega, rfl, rfl, by go_num, N2.out⟩
              case measure => simp [intOf]; omega
            · have h0 : valO F O = some m := by
                rcases hv with z | z
                · rw [← z]; exact hk
                · rw [z] at hk
                  have : some n = some m := hk
                  cases this
                  exact absurd rfl q
              have hf : has = true := by rw [OH.out, h0]; rfl
              subst hf
              have hl := OL.out m h0
              subst hl
              have qn : (clampI m != clampI n) = true := by simpa using q
              generalize clampI n = cn at *
              generalize clampI m = cm at *
              go_wp2_with fail
              refine CC.out.mono ?_
              rintro e wd ⟨rfl, hw⟩
              subst hw
              go_wp2_with fail
              go_roundw
              case rel => exact ⟨i + 1, true, cm, restart T, F', O', by omega, by omega, rfl, rfl, by go_num, N2.out⟩
              case measure => simp [intOf]; omega
    · by_cases q : i < L0.length
      · have f1 : decide ((i : Int) < (L0.length : Int)) = true := decide_eq_true (by omega)
        have f2 : decide ((i : Int) < 500) = false := decide_eq_false (by omega)
        go_wp2_with fail
        go_ret
        exact ⟨rfl, BW.out⟩
      · have f1 : decide ((i : Int) < (L0.length : Int)) = false := decide_eq_false (by omega)
        go_wp2_with fail
        go_ret
        exact ⟨rfl, BW.out⟩
set_option maxRecDepth 100000 in
theorem lifted (os : Os) (started : os.Started) (H : Type) (enc : TypeId × Value → H) :
    ReturnsInHanded {} Tryd.checked os 4 .any (fun w args => (Rows.hintCrashSpec.pre enc Tryd.prog Tryd.f4 [] false w args ∧ laidMetH Tryd.prog Rows.hintCrashRow.laid w) ∧ sizedMet enc Tryd.prog Tryd.f4 (OpenSpec.ofChange Rows.hintCrashSpec) false w args)
      (Rows.hintCrashSpec.post enc Tryd.prog Tryd.f4 false true false false) := by
  refine returnsInHanded_of_change_and (C := Tryd.checked) (X := fun w _ => laidMetH Tryd.prog Rows.hintCrashRow.laid w) (fun _ _ _ hh h => h.of_heap hh) Hs.own started (by kernel_rfl) Tryd.func4
    (ChangeSpec.witness_shaped (enc := enc) (C := Tryd.checked) (os := os) (X := fun w _ => laidMetH Tryd.prog Rows.hintCrashRow.laid w) false (World.doorLaid Tryd.prog 76 os) #[.slice none 0 0, .slice none 0 0, .slice none 0 0] 8 rfl (World.shaped_of_RefB (by kernel_rfl) (by kernel_rfl)) (by kernel_rfl) (by kernel_rfl) (by kernel_rfl) (Hs.door_met os _)) ?_
  intro W base args ds gs before hval0 hW _ hsz0 hL _
  have hsz : (DataW.weightsEach Tryd.prog (Tryd.f4.params.toList ++ Rows.hintCrashSpec.plain.varTypes Tryd.prog) (ds ++ gs)).all (· ≤ reachBytes) = true := hsz0
  have hval : ∀ (j : Nat) t v, Tryd.f4.params[j]? = some t → args[j]? = some v → Value.okWide Tryd.prog W .any base t v := hval0
  have hW' := hW
  obtain ⟨p, q, hA0, hV, rfl, hfz, hnd⟩ := hW
  have hA : DataW.TrodAll enc Tryd.prog W 0 (fun _ => true) true Tryd.f4.params.toList args.toList ds p := hA0
  rw [Tryd.params4] at hA hval hsz
  obtain ⟨v0, vs0, d0, ds0, p0, q0, hargs, rfl, rfl, h0, r0⟩ := trodAll_cons hA
  obtain ⟨v1, vs1, d1, ds1, p1, q1, rfl, rfl, rfl, h1, r1⟩ := trodAll_cons r0
  obtain ⟨v2, vs2, d2, ds2, p2, q2, rfl, rfl, rfl, h2, r2⟩ := trodAll_cons r1
  obtain ⟨rfl, rfl, rfl⟩ := trodAll_nil r2
  obtain rfl : args = #[v0, v1, v2] := by cases args; simp_all
  obtain ⟨rfl, rfl⟩ := trodVars_none hV
  have h0k := h0
  have hlt0 : ∀ x ∈ p0, x.block < W.heap.size := fun x hx => by have := hW'.lt x (by simp [hx]); simpa using this
  have h1k := h1
  have hlt1 : ∀ x ∈ p1, x.block < W.heap.size := fun x hx => by have := hW'.lt x (by simp [hx]); simpa using this
  have h2k := h2
  have hlt2 : ∀ x ∈ p2, x.block < W.heap.size := fun x hx => by have := hW'.lt x (by simp [hx]); simpa using this
  obtain ⟨L0, g0⟩ := open_nl (hval 0 34 v0 rfl rfl) h0
  obtain ⟨L1, g1⟩ := open_nl (hval 1 34 v1 rfl rfl) h1
  obtain ⟨L2, g2⟩ := open_nl (hval 2 34 v2 rfl rfl) h2
  clear hA0 hval0
  simp only [List.append_nil] at hW'
  refine (walk v0 L0 v1 L1 v2 L2 W (gt_of_laid hL) g0 g1 g2).mono fun e W' ⟨he, hg⟩ => ?_
  subst he
  exact ⟨_, rfl, _, _, _, [], _, [], hW', trodAll_cons_mk (shut_bool Tryd.underlying4 _) trodAll_mk0,
    (trodAll_cons_mk (Below.trod Hs.laidOut (by kernel_rfl) (of_decide_eq_true (by kernel_rfl)) h0k hg hlt0) (trodAll_cons_mk (Below.trod Hs.laidOut (by kernel_rfl) (of_decide_eq_true (by kernel_rfl)) h1k hg hlt1) (trodAll_cons_mk (Below.trod Hs.laidOut (by kernel_rfl) (of_decide_eq_true (by kernel_rfl)) h2k hg hlt2) trodAll_mk0))), rfl, hg.frame _, fun h => nomatch h⟩

theorem over : Rows.HintCrashSaid :=
  OpenClaim.holds_of_wide 4 Tryd.f4 rfl rfl rfl rfl rfl rfl rfl ⟨rfl, rfl, rfl, rfl, rfl⟩ rfl rfl rfl rfl rfl (by kernel_rfl) Tryd.func4 (by kernel_rfl)
    (of_decide_eq_true (by kernel_rfl)) (by unfold Func.isWrapper; first | (rw [if_pos (by decide +kernel)]; kernel_rfl) | (rw [if_neg (by decide +kernel)]; exact ⟨rfl, rfl⟩))
    (fun os started H enc _ => lifted os started H enc)

theorem proved : Rows.HintCrashCardSaid :=
  Claim7.holds_tied_plain_at .later [] [.data, .data, .data, .data, .data, .sentinel, .sentinel] true Rows.hintCrashCard.stood.harness true
    over (fun _ h => by cases h) (by kernel_rfl) (fun _ h => by cases h) hintCrash_row_tie rfl ⟨rfl, rfl⟩ (by kernel_rfl) rfl
    (fun f fn hf hfn => by
      obtain rfl : f = 4 := Option.some.inj ((show Tryd.prog.funcNamed Rows.hintCrashRow.func = some 4 by kernel_rfl).symm.trans hf) |>.symm
      obtain rfl : fn = Tryd.f4 := (Option.some.inj (Tryd.func4.symm.trans hfn)).symm
      exact ⟨by kernel_rfl, fun j t ht => by
        rw [Tryd.params4] at ht
        have hm : t ∈ [34, 34, 34] := by simpa using Array.mem_of_getElem? ht
        have hall : ([34, 34, 34].all fun u => !Tryd.prog.wantsStandIn u) = true := by kernel_rfl
        exact (show Tryd.prog.wantsStandIn t = false by simpa using List.all_eq_true.1 hall t hm)⟩)
    (by kernel_rfl)
end Go.Proofs.YtkjolaoajbdomaaDoor.hintCrash
