/-
  The document's Combine.
  Conditions: none but that the candidates and the numbers lie in memory.
-/
import Derived.Test.YtkmbeogmgehnfaaVoQ
import Derived.BigQuiet
namespace Go.Proofs.Ytkmbeogmgehnfaa.Vo
open Go.RowKit Go.ChangeShapes Go.WideShapes Go.ChangeAt Go.Joins Fl Hu
set_option linter.unusedVariables false
set_option linter.unusedSimpArgs false

theorem coE_bad {L : List Cd} {S : List Int} (h : chE L S ≠ 0) : coE L S = .returned (.tuple #[.int .i64 0, .int .i64 0, .int .i64 (chE L S)]) := by unfold coE coA; rw [if_neg h]
theorem coE_none {L : List Cd} (h : chE L [] = 0) : coE L [] = .returned (.tuple #[.int .i64 0, .int .i64 0, .int .i64 5]) := by unfold coE coA; rw [if_pos h, if_pos rfl]
theorem coE_ok {L : List Cd} {N : List Nat} (h : chE L (ints N) = 0) (hn : N ≠ []) : coE L (ints N) = .returned (.tuple #[.int .i64 (coT L N), .int .i64 (coJ L N), .int .i64 0]) := by
  unfold coE coA
  rw [if_pos h, if_neg (fun q => hn (by cases N with | nil => rfl | cons x r => cases q)), nats_ints]
set_option maxRecDepth 100000 in
set_option maxHeartbeats 8000000 in
theorem rCombine_c {w : World} {v sv : Value} {L : List Cd} {S : List Int} (h : Cs w v L) (hs : Is w sv S) (hn : L.length ≤ 8796093022208) (hn2 : S.length ≤ 35184372088832) :
    Calls Try.prog 13 #[v, sv] w fun e w' => e = coE L S ∧ Below w.heap.size w w' := by
  have CK := Lib.hid (rCheck_c h hs hn hn2)
  by_cases z : chE L S = 0
  · obtain ⟨ok, N, rfl, hN, nd⟩ := chE_ok z
    rw [z] at CK
    by_cases e0 : N = []
    · subst e0
      have CE := Lib.hid (coE_none z)
      obtain ⟨a, cap, rfl, c1, c2, _⟩ := h
      obtain ⟨sa, sc, rfl, p1, p2, _⟩ := hs
      generalize L.length = m at *
      rw [show (ints []).length = 0 from rfl] at CK p1 ⊢
      go_enter Try.func13, Try.ntmps13
      go_wp2_with fail
      refine CK.out.mono ?_
      rintro e w1 ⟨rfl, hb⟩
      have B1 := Lib.hid hb
      clear hb CK
      go_wp2_with fail
      go_ret3
      exact ⟨CE.out.symm, B1.out⟩
    · have CE := Lib.hid (coE_ok z e0)
      have HS := Lib.hid h
      have HZ := Lib.hid hs
      have OK := Lib.hid ok
      have LT := Lib.hid hN
      have n32 : N.length ≤ 32 := Nat.le_trans (nodup_le hN nd) ok.2
      have l32 := ok.2
      have np : 0 < N.length := List.length_pos_iff.2 e0
      obtain ⟨q0, hq0⟩ : ∃ q, N[0]? = some q := ⟨_, List.getElem?_eq_getElem np⟩
      have X0 : Hid (N.getD 0 0 = q0) := Lib.hid (by rw [List.getD_eq_getElem?_getD, hq0]; rfl)
      have q0l := hN q0 (List.mem_of_getElem? hq0)
      have A0 := Lib.hid (cd_at q0l)
      have Q0 := Lib.hid hq0
      have xo0 := (cd_ok ok q0l).1
      have BD := Lib.hid (fun k => co_bd ok xo0 (N := N.take k) (fun n hn => hN n (List.mem_of_mem_take hn)))
      have BO := Lib.hid (fun n (hn : n < L.length) => co_one ok xo0 hn)
      unfold coT coJ at CE
      rw [X0.out] at CE
      generalize hx0 : (cd L q0).off = x0 at *
      have HX0 := Lib.hid hx0
      obtain ⟨a, cap, rfl, c1, c2, _⟩ := h
      obtain ⟨sa, sc, rfl, p1, p2, _⟩ := hs
      obtain ⟨m, hm⟩ : ∃ m, L.length = m := ⟨_, rfl⟩
      obtain ⟨n, hsn⟩ : ∃ n, N.length = n := ⟨_, rfl⟩
      have HM := Lib.hid hm
      have HN := Lib.hid hsn
      rw [ints_len, hsn] at HZ CK p1 ⊢
      rw [hm] at HS CK BO c1 l32 q0l ⊢
      rw [hsn] at n32 np
      have m0 : (0 : Int) ≤ (m : Int) := by omega
      have m1 : (m : Int) ≤ 32 := by omega
      have m2 : (m : Int) ≤ (cap : Int) := by omega
      have m3 : (cap : Int) ≤ 9223372036854775807 := by omega
      have n0 : (0 : Int) < (n : Int) := by omega
      have n1 : (n : Int) ≤ 32 := by omega
      have n2 : (n : Int) ≤ (sc : Int) := by omega
      have n3 : (sc : Int) ≤ 9223372036854775807 := by omega
      have nz : ((n : Int) == 0) = false := by rw [beq_eq_false_iff_ne]; omega
      have q0i : (q0 : Int) < (m : Int) := by omega
      have q00 : (0 : Int) ≤ (q0 : Int) := by omega
      clear ok hN nd e0 hm hsn hq0 hx0 z hn hn2
      go_enter Try.func13, Try.ntmps13
      go_wp2_with fail
      refine CK.out.mono ?_
      rintro e w1 ⟨rfl, hb⟩
      have B1 := Lib.hid hb
      clear hb CK
      go_wp2_with fail
      go_loopw [8, 9, 10, 11] (fun av sv dv iv wr => ∃ k : Nat, k ≤ n ∧ iv = .int .i64 (k : Nat) ∧ av = .int .i64 (cAll L (N.take k)) ∧ sv = .int .i64 (cSum L (N.take k)) ∧ dv = .int .i64 (cDev L x0 (N.take k)) ∧ Below w.heap.size w wr) (fun _ _ _ iv _ => n - (intOf iv).toNat)
      case atStart => exact ⟨0, by omega, rfl, rfl, rfl, rfl, B1.out⟩
      case round =>
        obtain ⟨k, hk, rfl, rfl, rfl, rfl, hb⟩ := hrel
        rename World => wr
        have HB := Lib.hid hb
        clear hb B1
        by_cases c : k < n
        · have e1 : decide ((k : Int) < (n : Int)) = true := decide_eq_true (by omega)
          have e2 : decide (k < n) = true := decide_eq_true c
          have k1 : (k : Int) < (n : Int) := by omega
          have k0 : (0 : Int) ≤ (k : Int) := by omega
          have wk : IntKind.i64.wrap ((k : Int) + 1) = (k : Int) + 1 := wrap_in (by omega) (by omega)
          obtain ⟨i, hi⟩ : ∃ i, N[k]? = some i := ⟨_, List.getElem?_eq_getElem (by rw [HN.out]; exact c)⟩
          have il := LT.out i (List.mem_of_getElem? hi)
          have hx := cd_at il
          have okx := cd_ok OK.out il
          have S1 : Hid (cAll L (N.take (k + 1)) = cAll L (N.take k) + wt (cd L i)) := Lib.hid (sm_snoc _ hi)
          have S2 : Hid (cSum L (N.take (k + 1)) = cSum L (N.take k) + wt (cd L i) * (cd L i).off) := Lib.hid (sm_snoc _ hi)
          have S3 : Hid (cDev L x0 (N.take (k + 1)) = cDev L x0 (N.take k) + wt (cd L i) * far (cd L i).off x0) := Lib.hid (sm_snoc _ hi)
          have bk := BD.out k
          rw [List.length_take, Nat.min_eq_left (by rw [HN.out]; omega)] at bk
          have b1 := BO.out i (by rw [← HM.out]; exact il)
          have WC := Lib.hid (fun w => rWeight_c (cd L i) w okx)
          have FC := Lib.hid (fun w => rFar_c (cd L i).off x0 w (by have := okx.1; omega) (by omega))
          have yi := (HZ.out.below HB.out).at (ints_at hi)
          obtain ⟨sb, so, ea, y0⟩ := yi
          subst ea
          obtain ⟨b, off, ea, y1, y2, y3, y4⟩ := (HS.out.below HB.out).at hx
          subst ea
          have i0 : (0 : Int) ≤ (i : Int) := by omega
          have i1 : (i : Int) < (m : Int) := by rw [← HM.out]; omega
          have CC : Hid (∀ W, Below w.heap.size w W → W.cell? ⟨sb, so, none⟩ = some (.int .i64 (q0 : Nat)) ∧ W.cell? ⟨b, off + q0 * 4, none⟩ = some (.int .i64 x0)) := Lib.hid fun W q => by
            obtain ⟨_, _, ea, z0⟩ := (HZ.out.below q).at (ints_at Q0.out)
            cases ea
            obtain ⟨_, _, ea, z1, _⟩ := (HS.out.below q).at A0.out
            cases ea
            rw [HX0.out] at z1
            exact ⟨by simpa using z0, z1⟩
          generalize wt (cd L i) = wv at *
          generalize hfv : far (cd L i).off x0 = fv at *
          generalize cd L i = ci at *
          obtain ⟨xo, xd, xj, xs⟩ := ci
          simp only at y1 y2 y3 y4 S2 b1 WC FC
          generalize cAll L (N.take k) = av at *
          generalize cSum L (N.take k) = sv at *
          generalize cDev L x0 (N.take k) = dv at *
          have a1 : IntKind.i64.wrap (av + wv) = av + wv := wrap_in (by omega) (by omega)
          have a2 : IntKind.i64.wrap (wv * xo) = wv * xo := wrap_in (by omega) (by omega)
          have a3 : IntKind.i64.wrap (sv + wv * xo) = sv + wv * xo := wrap_in (by omega) (by omega)
          have a4 : IntKind.i64.wrap (wv * fv) = wv * fv := wrap_in (by omega) (by omega)
          have a5 : IntKind.i64.wrap (dv + wv * fv) = dv + wv * fv := wrap_in (by omega) (by omega)
          replace WC : Hid (∀ w, Calls Try.prog 33 #[.agg #[.int .i64 xo, .int .i64 xd, .int .i64 xj, .int .i64 xs]] w fun e w' => e = .returned (.int .i64 wv) ∧ Below w.heap.size w w') := WC
          have BA := Lib.hid (balloc HB.out (.cells #[.int .i64 xo, .int .i64 xd, .int .i64 xj, .int .i64 xs] 44))
          have NA := Lib.hid (new4 wr xo xd xj xs 44)
          clear hi hx okx hfv bk b1
          go_upto_region 13 with fail
          generalize wr.alloc (.cells #[.int .i64 xo, .int .i64 xd, .int .i64 xj, .int .i64 xs] 44) = wa at *
          obtain ⟨z0, z1, z2, z3⟩ := blk4 NA.out (brefl wa)
          clear y0 y1 y2 y3 y4
          go_wp2_with fail
          refine (WC.out _).mono ?_
          rintro e w3 ⟨rfl, hb⟩
          have B3 := Lib.hid (bstep BA.out hb)
          have N3 := Lib.hid (NA.out.below hb)
          clear hb z0 z1 z2 z3 BA NA WC HB
          obtain ⟨z0, z1, z2, z3⟩ := blk4 N3.out (brefl w3)
          obtain ⟨t0, t1⟩ := CC.out _ B3.out
          go_upto_region 16 with fail
          go_quiet ((go_at_call 29; with_reducible exact Calls.quiet_of_same (FC.out _)))
          go_wp2_with fail
          exact ⟨⟨k + 1, by omega, by go_num, by rw [S1.out], by rw [S2.out], by rw [S3.out], bdrew B3.out _⟩, by simp [intOf]; omega⟩
        · have e1 : decide ((k : Int) < (n : Int)) = false := decide_eq_false (by omega)
          have e2 : decide (k < n) = false := decide_eq_false c
          obtain rfl : k = n := by omega
          have tk : N.take k = N := List.take_of_length_le (by rw [HN.out]; exact Nat.le_refl _)
          have bk := BD.out k
          rw [tk] at bk
          rw [HN.out] at bk
          rw [tk]
          generalize cAll L N = av at *
          generalize cSum L N = sv at *
          generalize cDev L x0 N = dv at *
          have ap : 0 < av := by omega
          obtain ⟨f1, f2⟩ := fl_adj (s := sv) ap
          have em := Int.mul_tdiv_add_tmod sv av
          have em1 := Int.tmod_lt_of_pos sv ap
          have em2 := Int.lt_tmod_of_pos sv ap
          rw [Int.mul_comm] at em
          have tl1 : sv.tdiv av ≤ 2305843009213693952 := by
            rcases Int.le_total 0 sv with q | q
            · rw [Int.tdiv_eq_ediv_of_nonneg q]; exact Int.le_trans (Int.ediv_le_self _ q) (by omega)
            · have : sv.tdiv av ≤ 0 := by
                rw [← Int.neg_neg sv, Int.neg_tdiv]
                have := Int.tdiv_nonneg (a := -sv) (b := av) (by omega) (by omega)
                omega
              omega
          have tl2 : -2305843009213693952 ≤ sv.tdiv av := by
            rcases Int.le_total 0 sv with q | q
            · have := Int.tdiv_nonneg (a := sv) (b := av) q (by omega)
              omega
            · rw [← Int.neg_neg sv, Int.neg_tdiv]
              have : (-sv).tdiv av ≤ -sv := by rw [Int.tdiv_eq_ediv_of_nonneg (by omega)]; exact Int.ediv_le_self _ (by omega)
              omega
          have jd : (dv + av - 1).tdiv av = (dv + av - 1) / av := Int.tdiv_eq_ediv_of_nonneg (by omega)
          have j0 : 0 ≤ (dv + av - 1) / av := Int.ediv_nonneg (by omega) (by omega)
          have j1 : (dv + av - 1) / av ≤ dv + av - 1 := Int.ediv_le_self _ (by omega)
          obtain ⟨tq, htq⟩ : ∃ t, sv.tdiv av = t := ⟨_, rfl⟩
          obtain ⟨jq, hjq⟩ : ∃ t, (dv + av - 1) / av = t := ⟨_, rfl⟩
          rw [hjq] at jd j0 j1 CE
          rw [htq] at f1 f2 em tl1 tl2
          have a1 : IntKind.i64.wrap tq = tq := wrap_in (by omega) (by omega)
          have a2 : IntKind.i64.wrap (tq * av) = tq * av := wrap_in (by omega) (by omega)
          have a3 : IntKind.i64.wrap (tq - 1) = tq - 1 := wrap_in (by omega) (by omega)
          have a4 : IntKind.i64.wrap (dv + av) = dv + av := wrap_in (by omega) (by omega)
          have a5 : IntKind.i64.wrap (dv + av - 1) = dv + av - 1 := wrap_in (by omega) (by omega)
          have a6 : IntKind.i64.wrap jq = jq := wrap_in (by omega) (by omega)
          have a7 : (av == 0) = false := by rw [beq_eq_false_iff_ne]; omega
          have a8 : ¬ av = 0 := by omega
          have F1 := Lib.hid f1
          have F2 := Lib.hid f2
          clear tk bk em em1 em2 hjq f1 f2
          by_cases q : sv < tq * av
          · have d1 := decide_eq_true q
            rw [F1.out q] at CE
            go_upto_region 20 with fail
            go_quiet (fail)
            go_wp2_with fail
            go_ret3
            exact ⟨CE.out.symm, bdrew HB.out _⟩
          · have d1 := decide_eq_false q
            rw [F2.out q] at CE
            go_upto_region 20 with fail
            go_quiet (fail)
            go_wp2_with fail
            go_ret3
            exact ⟨CE.out.symm, bdrew HB.out _⟩
  · have CE := Lib.hid (coE_bad z)
    obtain ⟨a, cap, rfl, c1, c2, _⟩ := h
    obtain ⟨sa, sc, rfl, p1, p2, _⟩ := hs
    generalize chE L S = ce at *
    have cz : (ce != 0) = true := by simpa using z
    generalize L.length = m at *
    generalize S.length = n at *
    go_enter Try.func13, Try.ntmps13
    go_wp2_with fail
    refine CK.out.mono ?_
    rintro e w1 ⟨rfl, hb⟩
    have B1 := Lib.hid hb
    clear hb CK
    go_wp2_with fail
    go_ret3
    exact ⟨CE.out.symm, B1.out⟩
end Go.Proofs.Ytkmbeogmgehnfaa.Vo
