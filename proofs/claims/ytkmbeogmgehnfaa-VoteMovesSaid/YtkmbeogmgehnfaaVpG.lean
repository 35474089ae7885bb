/-
  The program's Combine.
  Conditions: none but that the candidates and the numbers lie in memory.
-/
import Derived.Test.YtkmbeogmgehnfaaVpF
import Derived.Test.YtkmbeogmgehnfaaVoF
import Derived.Deep.RegionHeld3
namespace Go.Proofs.Ytkmbeogmgehnfaa.Vo
open Go.RowKit Go.ChangeShapes Go.WideShapes Go.ChangeAt Go.Joins Fl Hu
set_option linter.unusedVariables false
set_option linter.unusedSimpArgs false

/-- rounded up is rounding down of the other sign, turned. -/
theorem ceil_neg {g a : Int} (ha : 0 < a) : (g + a - 1) / a = -((-g) / a) := by
  have e1 := Int.mul_ediv_add_emod (g + a - 1) a
  have l1 := Int.emod_lt_of_pos (g + a - 1) ha
  have n1 := Int.emod_nonneg (g + a - 1) (show a ≠ 0 by omega)
  have q := (Int.ediv_emod_unique (a := -g) (b := a) (r := a * ((g + a - 1) / a) - g) (q := -((g + a - 1) / a)) ha).2 ⟨by rw [Int.mul_neg]; omega, by omega, by omega⟩
  rw [q.1]
  omega
theorem clE_bad {L : List Cd} {S : List Int} (h : clE L S ≠ 0) : coE L S = .returned (.tuple #[.int .i64 0, .int .i64 0, .int .i64 (clE L S)]) := by
  unfold clE at h ⊢
  split
  · rename_i z
    rw [if_pos z] at h
    split
    · rename_i e
      subst e
      exact coE_none z
    · rename_i e
      rw [if_neg e] at h
      exact absurd rfl h
  · rename_i z
    exact coE_bad z
set_option maxRecDepth 100000 in
set_option maxHeartbeats 8000000 in
theorem Combine_c {w : World} {v sv : Value} {L : List Cd} {S : List Int} (h : Cs w v L) (hs : Is w sv S) (hn : L.length ≤ 8796093022208) (hn2 : S.length ≤ 35184372088832) :
    Calls Try.prog 12 #[v, sv] w fun e w' => e = coE L S ∧ Below w.heap.size w w' := by
  have CK := Lib.hid (check_c h hs hn hn2)
  by_cases z : clE L S = 0
  · obtain ⟨z1, z2⟩ := clE_zero z
    obtain ⟨ok, N, rfl, hN, nd⟩ := chE_ok z1
    rw [z] at CK
    have e0 : N ≠ [] := fun q => z2 (by rw [q]; rfl)
    have CE := Lib.hid (coE_ok z1 e0)
    have HS := Lib.hid h
    have HZ := Lib.hid hs
    have OK := Lib.hid ok
    have LT := Lib.hid hN
    have n32 : N.length ≤ 32 := Nat.le_trans (nodup_le hN nd) ok.2
    have l32 := ok.2
    have np : 0 < N.length := List.length_pos_iff.2 e0
    obtain ⟨q0, hq0⟩ : ∃ q, N[0]? = some q := ⟨_, List.getElem?_eq_getElem np⟩
    have X0 : Hid (N.getD 0 0 = q0) := Lib.hid (by rw [List.getD_eq_getElem?_getD, hq0]; rfl)
    have q0l := hN q0 (List.mem_of_getElem? hq0)
    have A0 := Lib.hid (cd_at q0l)
    have Q0 := Lib.hid (ints_at hq0)
    have ok0 := cd_ok ok q0l
    have BD := Lib.hid (fun k => co_bd ok ok0.1 (N := N.take k) (fun n hn => hN n (List.mem_of_mem_take hn)))
    have BO := Lib.hid (fun n (hn : n < L.length) => co_one ok ok0.1 hn)
    have GP := Lib.hid (fun c (hc : okC c) w => gap_c c (cd L q0) w hc ok0)
    unfold coT coJ at CE
    rw [X0.out] at CE
    generalize cd L q0 = cq at *
    obtain ⟨x0, d0, t0, s0⟩ := cq
    simp only at CE BD BO GP
    obtain ⟨a, cap, rfl, c1, c2, _⟩ := h
    obtain ⟨sa, sc, rfl, p1, p2, _⟩ := hs
    obtain ⟨m, hm⟩ : ∃ m, L.length = m := ⟨_, rfl⟩
    obtain ⟨n, hsn⟩ : ∃ n, N.length = n := ⟨_, rfl⟩
    have HM := Lib.hid hm
    have HN := Lib.hid hsn
    rw [ints_len, hsn] at HZ CK p1 ⊢
    rw [hm] at HS CK BO c1 l32 q0l ⊢
    rw [hsn] at n32 np
    have m0 : (0 : Int) ≤ (m : Int) := by omega
    have m1 : (m : Int) ≤ 32 := by omega
    have m2 : (m : Int) ≤ (cap : Int) := by omega
    have m3 : (cap : Int) ≤ 9223372036854775807 := by omega
    have n0 : (0 : Int) < (n : Int) := by omega
    have n1 : (n : Int) ≤ 32 := by omega
    have n2 : (n : Int) ≤ (sc : Int) := by omega
    have n3 : (sc : Int) ≤ 9223372036854775807 := by omega
    have q0i : (q0 : Int) < (m : Int) := by omega
    have q00 : (0 : Int) ≤ (q0 : Int) := by omega
    clear ok hN nd e0 hm hsn hq0 z z1 z2 hn hn2 ok0
    go_enter Try.func12, Try.ntmps12
    go_wp2_with fail
    refine CK.out.mono ?_
    rintro e w1 ⟨rfl, hb⟩
    have B1 := Lib.hid hb
    clear hb CK
    obtain ⟨sb, so, rfl, y0⟩ := (HZ.out.below B1.out).at Q0.out
    rw [Nat.add_zero] at y0
    obtain ⟨b, off, rfl, y1, y2, y3, y4⟩ := (HS.out.below B1.out).at A0.out
    have N2 := Lib.hid (new4 w1 x0 d0 t0 s0 44)
    have B2 := Lib.hid (balloc B1.out (.cells #[.int .i64 x0, .int .i64 d0, .int .i64 t0, .int .i64 s0] 44))
    obtain ⟨bf, hbf⟩ : ∃ b, w1.heap.size = b := ⟨_, rfl⟩
    rw [hbf] at N2
    have BF : Hid (w.heap.size ≤ bf) := Lib.hid (hbf ▸ B1.out.size)
    have s00 : ((ints N)[0]?) = some (q0 : Int) := Q0.out
    clear s00
    go_upto_region 5 with fail
    try rw [hbf]
    clear hbf y0 y1 y2 y3 y4
    generalize w1.alloc (.cells #[.int .i64 x0, .int .i64 d0, .int .i64 t0, .int .i64 s0] 44) = w2 at *
    go_wp2_with fail
    go_loopw [9, 10, 11, 13, 14, 29] (fun sv dv av _ _ iv wr => ∃ k : Nat, k ≤ n ∧ iv = .int .i64 (k : Nat) ∧ sv = .int .i64 (cSum L (N.take k)) ∧ dv = .int .i64 (cDev L x0 (N.take k)) ∧ av = .int .i64 (cAll L (N.take k)) ∧ Blk wr bf [.int .i64 x0, .int .i64 d0, .int .i64 t0, .int .i64 s0] ∧ Below w.heap.size w wr) (fun _ _ _ _ _ iv _ => n - (intOf iv).toNat)
    case atStart => exact ⟨0, by omega, rfl, rfl, rfl, rfl, N2.out, B2.out⟩
    case round =>
      obtain ⟨k, hk, rfl, rfl, rfl, rfl, hnf, hb⟩ := hrel
      rename World => wr
      have HB := Lib.hid hb
      have NF := Lib.hid hnf
      clear hb hnf B1 N2 B2
      by_cases c : k < n
      · have e1 : decide ((k : Int) < (n : Int)) = true := decide_eq_true (by omega)
        have e2 : decide (k < n) = true := decide_eq_true c
        have k1 : (k : Int) < (n : Int) := by omega
        have k0 : (0 : Int) ≤ (k : Int) := by omega
        have wk : IntKind.i64.wrap ((k : Int) + 1) = (k : Int) + 1 := wrap_in (by omega) (by omega)
        obtain ⟨i, hi⟩ : ∃ i, N[k]? = some i := ⟨_, List.getElem?_eq_getElem (by rw [HN.out]; exact c)⟩
        have il := LT.out i (List.mem_of_getElem? hi)
        have hx := Lib.hid (cd_at il)
        have okx := cd_ok OK.out il
        have S1 : Hid (cAll L (N.take (k + 1)) = cAll L (N.take k) + wt (cd L i)) := Lib.hid (sm_snoc _ hi)
        have S2 : Hid (cSum L (N.take (k + 1)) = cSum L (N.take k) + wt (cd L i) * (cd L i).off) := Lib.hid (sm_snoc _ hi)
        have S3 : Hid (cDev L x0 (N.take (k + 1)) = cDev L x0 (N.take k) + wt (cd L i) * far (cd L i).off x0) := Lib.hid (sm_snoc _ hi)
        have bk := BD.out k
        rw [List.length_take, Nat.min_eq_left (by rw [HN.out]; omega)] at bk
        have b1 := BO.out i (by rw [← HM.out]; exact il)
        have WC := Lib.hid (fun w => weight_c (cd L i) w okx)
        have FC := Lib.hid (GP.out (cd L i) okx)
        obtain ⟨_, _, ea, y0⟩ := (HZ.out.below HB.out).at (ints_at hi)
        cases ea
        have i0 : (0 : Int) ≤ (i : Int) := by omega
        have i1 : (i : Int) < (m : Int) := by rw [← HM.out]; omega
        have CC : Hid (∀ W, Below w.heap.size w W → W.cell? ⟨b, off + i * 4, none⟩ = some (.int .i64 (cd L i).off) ∧ W.cell? ⟨b, off + i * 4 + 1, none⟩ = some (.int .i64 (cd L i).dist) ∧ W.cell? ⟨b, off + i * 4 + 2, none⟩ = some (.int .i64 (cd L i).jit) ∧ W.cell? ⟨b, off + i * 4 + 3, none⟩ = some (.int .i64 (cd L i).str)) := Lib.hid fun W q => by
          obtain ⟨_, _, ea, z1, z2, z3, z4⟩ := (HS.out.below q).at hx.out
          cases ea
          exact ⟨z1, z2, z3, z4⟩
        generalize wt (cd L i) = wv at *
        generalize hfv : far (cd L i).off x0 = fv at *
        generalize cd L i = ci at *
        obtain ⟨xo, xd, xj, xs⟩ := ci
        simp only at CC S2 b1 WC FC
        generalize cAll L (N.take k) = av at *
        generalize cSum L (N.take k) = sv at *
        generalize cDev L x0 (N.take k) = dv at *
        rw [Int.mul_comm wv xo] at S2 b1
        rw [Int.mul_comm wv fv] at S3 b1
        have a1 : IntKind.i64.wrap (av + wv) = av + wv := wrap_in (by omega) (by omega)
        have a2 : IntKind.i64.wrap (xo * wv) = xo * wv := wrap_in (by omega) (by omega)
        have a3 : IntKind.i64.wrap (sv + xo * wv) = sv + xo * wv := wrap_in (by omega) (by omega)
        have a4 : IntKind.i64.wrap (fv * wv) = fv * wv := wrap_in (by omega) (by omega)
        have a5 : IntKind.i64.wrap (dv + fv * wv) = dv + fv * wv := wrap_in (by omega) (by omega)
        replace WC : Hid (∀ w, Calls Try.prog 30 #[.agg #[.int .i64 xo, .int .i64 xd, .int .i64 xj, .int .i64 xs]] w fun e w' => e = .returned (.int .i64 wv) ∧ Below w.heap.size w w') := WC
        replace FC : Hid (∀ w, Calls Try.prog 31 #[.agg #[.int .i64 xo, .int .i64 xd, .int .i64 xj, .int .i64 xs], .agg #[.int .i64 x0, .int .i64 d0, .int .i64 t0, .int .i64 s0]] w fun e w' => e = .returned (.int .i64 fv) ∧ Below w.heap.size w w') := FC
        clear hi okx hfv bk b1
        obtain ⟨z1, z2, z3, z4⟩ := CC.out _ HB.out
        go_wp2_with fail
        refine (WC.out _).mono ?_
        rintro e w3 ⟨rfl, hb⟩
        have B3 := Lib.hid (bstep HB.out hb)
        have N3 := Lib.hid (NF.out.below hb)
        clear hb y0 z1 z2 z3 z4 WC HB NF
        have KP : Hid (∀ W, Below w3.heap.size w3 W → W.cell? ⟨b, off + i * 4, none⟩ = some (.int .i64 xo) ∧ W.cell? ⟨b, off + i * 4 + 1, none⟩ = some (.int .i64 xd) ∧ W.cell? ⟨b, off + i * 4 + 2, none⟩ = some (.int .i64 xj) ∧ W.cell? ⟨b, off + i * 4 + 3, none⟩ = some (.int .i64 xs) ∧ W.cell? ⟨bf, 0, none⟩ = some (.int .i64 x0) ∧ W.cell? ⟨bf, 1, none⟩ = some (.int .i64 d0) ∧ W.cell? ⟨bf, 2, none⟩ = some (.int .i64 t0) ∧ W.cell? ⟨bf, 3, none⟩ = some (.int .i64 s0)) := Lib.hid fun W q => by
          obtain ⟨z1, z2, z3, z4⟩ := CC.out W (bstep B3.out q)
          obtain ⟨u1, u2, u3, u4⟩ := blk4 N3.out q
          exact ⟨z1, z2, z3, z4, u1, u2, u3, u4⟩
        obtain ⟨z1, z2, z3, z4⟩ := CC.out _ B3.out
        have hb0 : Below w3.heap.size w3 w3.drew := (brefl w3).drew
        go_upto_region 11 with fail
        clear z1 z2 z3 z4
        go_region_held3 (fun W => W.cell? ⟨b, off + i * 4, none⟩ = some (.int .i64 xo) ∧ W.cell? ⟨b, off + i * 4 + 1, none⟩ = some (.int .i64 xd) ∧ W.cell? ⟨b, off + i * 4 + 2, none⟩ = some (.int .i64 xj) ∧ W.cell? ⟨b, off + i * 4 + 3, none⟩ = some (.int .i64 xs) ∧ W.cell? ⟨bf, 0, none⟩ = some (.int .i64 x0) ∧ W.cell? ⟨bf, 1, none⟩ = some (.int .i64 d0) ∧ W.cell? ⟨bf, 2, none⟩ = some (.int .i64 t0) ∧ W.cell? ⟨bf, 3, none⟩ = some (.int .i64 s0))
          (first | exact KP.out _ (by assumption))
          (first | (go_at_call 31; (with_reducible refine (FC.out _).mono ?_); rintro e w4 ⟨rfl, hb⟩; replace hb := bstep (by assumption : Below w3.heap.size w3 _) hb))
        rename World => w4
        rename Below w3.heap.size w3 w4 => hbx
        have B4 := Lib.hid (bstep B3.out hbx)
        have N4 := Lib.hid (N3.out.below hbx)
        clear hb0 KP FC CC hbx
        go_wp2_with fail
        exact ⟨⟨k + 1, by omega, by go_num, by rw [S2.out], by rw [S3.out], by rw [S1.out], N4.out, B4.out⟩, by simp [intOf]; omega⟩
      · have e1 : decide ((k : Int) < (n : Int)) = false := decide_eq_false (by omega)
        have e2 : decide (k < n) = false := decide_eq_false c
        obtain rfl : k = n := by omega
        have tk : N.take k = N := List.take_of_length_le (by rw [HN.out]; exact Nat.le_refl _)
        have bk := BD.out k
        rw [tk] at bk
        rw [HN.out] at bk
        rw [tk]
        generalize cAll L N = av at *
        generalize cSum L N = sv at *
        generalize cDev L x0 N = dv at *
        have ap : 0 < av := by omega
        rw [ceil_neg ap] at CE
        have R1 := Lib.hid (fun w => roundedDown_c sv av w ap (by omega) ⟨by omega, by omega⟩)
        have R2 := Lib.hid (fun w => roundedDown_c (-dv) av w ap (by omega) ⟨by omega, by omega⟩)
        have wn : IntKind.i64.wrap (-dv) = -dv := wrap_in (by omega) (by omega)
        have dq0 : (-dv) / av ≤ 0 := by
          have := Int.ediv_le_ediv ap (show -dv ≤ 0 by omega)
          rwa [Int.zero_ediv] at this
        have dq1 : -dv ≤ (-dv) / av := by
          have h1 := Int.mul_ediv_add_emod (-dv) av
          have h2 := Int.emod_nonneg (-dv) (show av ≠ 0 by omega)
          have h3 := Int.emod_lt_of_pos (-dv) ap
          rw [Int.le_ediv_iff_mul_le ap]
          have h4 : dv * 1 ≤ dv * av := Int.mul_le_mul_of_nonneg_left (by omega) (by omega)
          rw [Int.mul_one] at h4
          rw [Int.neg_mul]
          omega
        generalize (-dv) / av = jq at *
        have wj : IntKind.i64.wrap (-jq) = -jq := wrap_in (by omega) (by omega)
        clear tk bk
        go_wp2_with fail
        refine (R1.out _).mono ?_
        rintro e w4 ⟨rfl, rfl⟩
        go_wp2_with fail
        refine (R2.out _).mono ?_
        rintro e w4 ⟨rfl, rfl⟩
        go_wp2_with fail
        go_ret3
        exact ⟨CE.out.symm, HB.out⟩
  · have CE := Lib.hid (clE_bad z)
    obtain ⟨a, cap, rfl, c1, c2, _⟩ := h
    obtain ⟨sa, sc, rfl, p1, p2, _⟩ := hs
    generalize clE L S = ce at *
    have cz : (ce != 0) = true := by simpa using z
    generalize L.length = m at *
    generalize S.length = n at *
    go_enter Try.func12, Try.ntmps12
    go_wp2_with fail
    refine CK.out.mono ?_
    rintro e w1 ⟨rfl, hb⟩
    have B1 := Lib.hid hb
    clear hb CK
    go_wp2_with fail
    go_ret3
    exact ⟨CE.out.symm, B1.out⟩
end Go.Proofs.Ytkmbeogmgehnfaa.Vo
