/-
  The contract of words.Seconds.
  Conditions: none.
-/
import Derived.Test.YtoecgabdjpgleaaGreatDoorWf
import Derived.Test.YtoecgabdjpgleaaGreatDoorWdB
namespace Go.Proofs.YtoecgabdjpgleaaGreatDoor.Wd
open Go.ChangeShapes Go.WideShapes Go.ChangeAt Go.RowKit Go.Joins By
set_option linter.unusedVariables false
set_option linter.unusedSimpArgs false

theorem di_dp (t : ByteArray) : di t 46 = dp t t.size := by
  rcases di_spec t 46 with ⟨_, h2, h3⟩ | ⟨_, h2, h3, h4⟩
  · rw [h2, dp_miss t.size h3]
  · rw [dp_hit h3 h4 t.size h2]
theorem cut_wp (t : ByteArray) : cutA t 46 = wp t := by rw [cutA, di_dp]; rfl
theorem cut_fp (t : ByteArray) : cutB t 46 = fp t := by rw [cutB, di_dp]; rfl
theorem cut_has (t : ByteArray) : cutF t 46 = decide (dp t t.size < t.size) := by rw [cutF, di_dp]
theorem pre_neg (s : ByteArray) : Lib.hasPrefix s.data.toList [45] = neg s := by
  have hl : s.data.toList.length = s.size := by rw [Array.length_toList]; rfl
  rw [neg, gn, ← hl]
  cases h : s.data.toList with
  | nil => rfl
  | cons x l =>
    simp [Lib.hasPrefix, List.isPrefixOf]
    by_cases e : x = 45
    · subst e; simp
    · have : ¬ x.toNat = 45 := fun h => e (UInt8.toNat_inj.1 h)
      rw [decide_eq_false this, beq_eq_false_iff_ne]
      exact fun h => e h.symm
theorem pre_bod (s : ByteArray) : (⟨(Lib.trimPrefix s.data.toList [45]).toArray⟩ : ByteArray) = bod s := by
  unfold Lib.trimPrefix bod
  rw [pre_neg]
  split
  · apply ByteArray.ext
    apply Array.toList_inj.1
    rw [Lib.extract_data]
    simp only [List.length_singleton]
    rw [List.take_of_length_le]
    rw [List.length_drop, Array.length_toList]
    exact Nat.le_refl _
  · rfl
theorem fr_va {t : ByteArray} (n : Nat) (h6 : n ≤ 6) (h : ∀ i, i < n → dig (gn t i) = true) : fr t n = va t n * 10 ^ (6 - n) := by
  match n, h6 with
  | 0, _ => simp [fr, va]
  | 1, _ => simp [fr, va, un]; omega
  | 2, _ => simp [fr, va, un]; omega
  | 3, _ => simp [fr, va, un]; omega
  | 4, _ => simp [fr, va, un]; omega
  | 5, _ => simp [fr, va, un]; omega
  | 6, _ => simp [fr, va, un]; omega
theorem okd_dig {s : ByteArray} {m : Nat} (h : okd s m = true) : (∀ i, i < s.size → dig (gn s i) = true) ∧ s.size ≤ m ∧ 0 < s.size := by
  simp [okd, dgs] at h
  exact ⟨h.1.1, h.2, h.1.2⟩

set_option maxRecDepth 100000 in
set_option maxHeartbeats 4000000 in
theorem Seconds_c (s : ByteArray) (w : World) (hs : s.size ≤ 9223372036854775807) :
    Calls Tryz.prog 47 #[.string s] w fun e w' => e = .returned (.tuple #[.int .i64 (if okS s = true then tk s else 0), .int .i64 (if okS s = true then 0 else 4)]) ∧ Below w.heap.size w w' := by
  obtain ⟨r, HR⟩ : ∃ r, Hid (r = (if okS s = true then tk s else 0)) := ⟨_, Lib.hid rfl⟩
  obtain ⟨z, HZ⟩ : ∃ z, Hid (z = (if okS s = true then (0 : Int) else 4)) := ⟨_, Lib.hid rfl⟩
  rw [← HR.out, ← HZ.out]
  have CP := Tryz.strings_CutPrefix s ⟨#[45]⟩ w
  rw [show (⟨#[45]⟩ : ByteArray).data.toList = [45] from rfl, pre_bod, pre_neg] at CP
  have RB : Hid (r = (if okU (bod s) = true then tkU (bod s) (neg s) else 0) ∧ z = (if okU (bod s) = true then 0 else 4)) := Lib.hid (by rw [HR.out, HZ.out, okS, tk, tkU]; exact ⟨rfl, rfl⟩)
  clear HR HZ
  have TS : (bod s).size ≤ 9223372036854775807 := by
    have : (bod s).size ≤ s.size := by
      rw [bod]
      split
      · rw [ByteArray.size_extract]; omega
      · omega
    omega
  generalize bod s = t at *
  generalize neg s = b at *
  have CC := Cut_c t 46 w TS
  rw [cut_wp, cut_fp, cut_has] at CC
  have WS : (wp t).size ≤ 9223372036854775807 := by
    unfold wp
    rw [ByteArray.size_extract]
    have := dp_le t t.size
    omega
  have FS : (fp t).size ≤ 9223372036854775807 := by
    unfold fp
    rw [ByteArray.size_extract]
    omega
  have OU : Hid (okU t = (wn (wp t) && (!decide (dp t t.size < t.size) || okd (fp t) 6))) := Lib.hid rfl
  have MI : Hid (mi t = va (wp t) (wp t).size * 1000000 + (if dp t t.size < t.size then fr (fp t) (fp t).size else 0)) := Lib.hid rfl
  have TK : Hid (tkU t b = (if b = true then -(mi t : Int) else (mi t : Int)) * 1048576 / 1000000) := Lib.hid rfl
  have NC := fun w => Lib.hid (Number_c (wp t) w WS)
  have PC := fun w => Lib.hid (pdigits_c (fp t) 6 (by omega) w FS)
  cases hw : wn (wp t) with
  | false =>
    obtain ⟨r0, z4⟩ : r = 0 ∧ z = 4 := by
      have := RB.out
      rw [OU.out, hw] at this
      exact this
    rw [hw] at NC
    simp only [Bool.false_eq_true, if_false] at NC
    clear RB OU MI TK PC hw
    generalize decide (dp t t.size < t.size) = hp at *
    go_enter Tryz.func47, Tryz.ntmps47
    go_wp2_with fail
    refine CP.mono ?_
    rintro e w1 ⟨rfl, rfl⟩
    go_wp2_with fail
    refine CC.mono ?_
    rintro e w2 ⟨rfl, hb2⟩
    have B2 := Lib.hid hb2
    clear hb2
    go_wp2_with fail
    refine (NC w2).out.mono ?_
    rintro e w3 ⟨rfl, hb3⟩
    have B3 := Lib.hid (bstep B2.out hb3)
    clear hb3
    go_wp2_with fail
    go_ret2
    exact ⟨by rw [r0, z4]; rfl, B3.out⟩
  | true =>
    rw [hw] at NC
    simp only [if_true] at NC
    have v1 := va_lt10 hw (Nat.le_refl _)
    by_cases hp : dp t t.size < t.size
    · rw [decide_eq_true hp] at CC
      cases hok : okd (fp t) 6 with
      | false =>
        obtain ⟨r0, z4⟩ : r = 0 ∧ z = 4 := by
          have := RB.out
          rw [OU.out, hw, hok, decide_eq_true hp] at this
          exact this
        rw [hok] at PC
        simp only [Bool.false_eq_true, if_false] at PC
        clear RB OU MI TK hw hp hok
        generalize va (wp t) (wp t).size = W at *
        go_enter Tryz.func47, Tryz.ntmps47
        go_wp2_with fail
        refine CP.mono ?_
        rintro e w1 ⟨rfl, rfl⟩
        go_wp2_with fail
        refine CC.mono ?_
        rintro e w2 ⟨rfl, hb2⟩
        have B2 := Lib.hid hb2
        clear hb2
        go_wp2_with fail
        refine (NC w2).out.mono ?_
        rintro e w3 ⟨rfl, hb3⟩
        have B3 := Lib.hid (bstep B2.out hb3)
        clear hb3
        go_wp2_with fail
        refine (PC w3).out.mono ?_
        rintro e w4 ⟨rfl, hb4⟩
        have B4 := Lib.hid (bstep B3.out hb4)
        clear hb4
        go_wp2_with fail
        go_ret2
        exact ⟨by rw [r0, z4]; rfl, B4.out⟩
      | true =>
        obtain ⟨hdg, h6, hpos⟩ := okd_dig hok
        have FV := fr_va (fp t).size h6 hdg
        have FL := fr_lt (fp t).size h6 hdg
        have VL := va_lt (fp t).size hdg
        have RR : Hid (r = (if b = true then -(((va (wp t) (wp t).size * 1000000 + va (fp t) (fp t).size * 10 ^ (6 - (fp t).size) : Nat)) : Int) else ((va (wp t) (wp t).size * 1000000 + va (fp t) (fp t).size * 10 ^ (6 - (fp t).size) : Nat) : Int)) * 1048576 / 1000000 ∧ z = 0) := Lib.hid (by
          have := RB.out
          rw [OU.out, hw, hok, decide_eq_true hp, TK.out, MI.out, if_pos hp, FV] at this
          exact ⟨this.1.trans (if_pos rfl), this.2.trans (if_pos rfl)⟩)
        rw [FV] at FL
        rw [hok] at PC
        simp only [if_true] at PC
        have PB : Hid (∀ k, k < 6 - (fp t).size → va (fp t) (fp t).size * 10 ^ k < 1000000) := Lib.hid (fun k hk => by
          have h1 : va (fp t) (fp t).size * 10 ^ k ≤ 10 ^ (fp t).size * 10 ^ k := Nat.mul_le_mul_right _ (Nat.le_of_lt VL)
          rw [← Nat.pow_add] at h1
          have h2 : 10 ^ ((fp t).size + k) ≤ 10 ^ 5 := Nat.pow_le_pow_right (by omega) (by omega)
          have h3 : (10 : Nat) ^ 5 = 100000 := by decide
          omega)
        clear RB OU MI TK hw hp hok hdg FV VL
        generalize va (wp t) (wp t).size = W at *
        generalize va (fp t) (fp t).size = u at *
        have SZ : Hid ((fp t).size ≤ 6) := Lib.hid h6
        obtain ⟨n, hn⟩ : ∃ n, (fp t).size = n := ⟨_, rfl⟩
        rw [hn] at FL h6 hpos
        have u7 : u < 10000000 := by
          have h1 : 1 ≤ 10 ^ (6 - n) := Nat.one_le_pow _ _ (by omega)
          have h2 : u * 1 ≤ u * 10 ^ (6 - n) := Nat.mul_le_mul_left _ h1
          omega
        have HN := Lib.hid hn
        rw [← hn] at FL h6 hpos
        clear hn
        go_enter Tryz.func47, Tryz.ntmps47
        go_wp2_with fail
        refine CP.mono ?_
        rintro e w1 ⟨rfl, rfl⟩
        go_wp2_with fail
        refine CC.mono ?_
        rintro e w2 ⟨rfl, hb2⟩
        have B2 := Lib.hid hb2
        clear hb2
        go_wp2_with fail
        refine (NC w2).out.mono ?_
        rintro e w3 ⟨rfl, hb3⟩
        have B3 := Lib.hid (bstep B2.out hb3)
        clear hb3
        go_wp2_with fail
        refine (PC w3).out.mono ?_
        rintro e w4 ⟨rfl, hb4⟩
        have B4 := Lib.hid (bstep B3.out hb4)
        clear hb4
        go_wp2_with fail
        have FLH := Lib.hid FL
        clear FL
        go_loopw [11, 45] (fun pv iv wr => ∃ k : Nat, k ≤ 6 - (fp t).size ∧ iv = .int .i64 k ∧ pv = .int .i64 ((u * 10 ^ k : Nat) : Int) ∧ wr = w4) (fun _ iv _ => 6 - (fp t).size - (intOf iv).toNat)
        case atStart => exact ⟨0, Nat.zero_le _, rfl, by simp, rfl⟩
        case round =>
          obtain ⟨k, hk, rfl, rfl, rfl⟩ := hrel
          by_cases c : k < 6 - (fp t).size
          · have f1 : decide ((k : Int) < 6 - ((fp t).size : Int)) = true := by rw [decide_eq_true_iff]; omega
            have PBk := PB.out k c
            have NX : Hid (u * 10 ^ (k + 1) = u * 10 ^ k * 10) := Lib.hid (by rw [Nat.pow_succ, Nat.mul_assoc])
            generalize u * 10 ^ k = m at *
            go_wp2_with fail
            go_roundw
            case rel => exact ⟨k + 1, by omega, by go_num, by rw [NX.out]; go_num, trivial⟩
            case measure => simp [intOf]; omega
          · have f1 : decide ((k : Int) < 6 - ((fp t).size : Int)) = false := by rw [decide_eq_false_iff_not]; omega
            obtain rfl : k = 6 - (fp t).size := by omega
            have PL := FLH.out
            have RR2 := RR.out
            clear NC PC SZ HN PB FLH RR f1 c hk h6 hpos
            generalize u * 10 ^ (6 - (fp t).size) = P at *
            have q1 : ((P : Int) * 1048576 + 1000000 - 1).tdiv 1000000 = ((P : Int) * 1048576 + 1000000 - 1) / 1000000 := Int.tdiv_eq_ediv_of_nonneg (by omega)
            have q2 : ((P : Int) * 1048576).tdiv 1000000 = (P : Int) * 1048576 / 1000000 := Int.tdiv_eq_ediv_of_nonneg (by omega)
            obtain ⟨RR2, rfl⟩ := RR2
            cases b with
            | true =>
              have RE : Hid (r = -((W : Int) * 1048576) - ((P : Int) * 1048576 + 1000000 - 1) / 1000000) := Lib.hid (by rw [RR2, if_pos rfl]; omega)
              have b1 : 0 ≤ ((P : Int) * 1048576 + 1000000 - 1) / 1000000 := by omega
              have b2 : ((P : Int) * 1048576 + 1000000 - 1) / 1000000 ≤ 1048576 := by omega
              have p0 : 0 ≤ (P : Int) * 1048576 := by omega
              have p1 : (P : Int) * 1048576 < 1048576000000 := by omega
              have w0 : 0 ≤ (W : Int) * 1048576 := by omega
              have w1' : (W : Int) * 1048576 < 10485760000000000 := by omega
              have HZ := Lib.hid (And.intro q1 (And.intro b1 (And.intro b2 (And.intro p0 (And.intro p1 (And.intro w0 w1'))))))
              clear RR2 q2 q1 b1 b2 p0 p1 w0 w1'
              go_upto_region 17 with fail
              obtain ⟨q1, b1, b2, p0, p1, w0, w1'⟩ := HZ.out
              clear HZ
              generalize (P : Int) * 1048576 = P1 at *
              generalize (W : Int) * 1048576 = W1 at *
              generalize hQ : (P1 + 1000000 - 1) / 1000000 = Q at *
              clear hQ
              go_wp2_with fail
              go_ret2
              exact ⟨by rw [RE.out]; rfl, B4.out⟩
            | false =>
              have RE : Hid (r = (W : Int) * 1048576 + (P : Int) * 1048576 / 1000000) := Lib.hid (by rw [RR2, if_neg (by decide)]; omega)
              have b1 : 0 ≤ (P : Int) * 1048576 / 1000000 := by omega
              have b2 : (P : Int) * 1048576 / 1000000 ≤ 1048576 := by omega
              clear RR2 q1
              generalize (P : Int) * 1048576 / 1000000 = Q at *
              go_wp2_with fail
              go_ret2
              exact ⟨by rw [RE.out]; rfl, B4.out⟩
    · rw [decide_eq_false hp] at CC
      have RR : Hid (r = (if b = true then -((va (wp t) (wp t).size * 1000000 : Nat) : Int) else ((va (wp t) (wp t).size * 1000000 : Nat) : Int)) * 1048576 / 1000000 ∧ z = 0) := Lib.hid (by
          have := RB.out
          rw [OU.out, hw, decide_eq_false hp, TK.out, MI.out, if_neg hp, Nat.add_zero] at this
          exact ⟨this.1.trans (if_pos rfl), this.2.trans (if_pos rfl)⟩)
      obtain ⟨RR2, rfl⟩ := RR.out
      clear RB OU MI TK hw hp PC RR
      generalize va (wp t) (wp t).size = W at *
      cases b with
      | true =>
        have RE : Hid (r = -((W : Int) * 1048576)) := Lib.hid (by rw [RR2, if_pos rfl]; omega)
        clear RR2
        go_enter Tryz.func47, Tryz.ntmps47
        go_wp2_with fail
        refine CP.mono ?_
        rintro e w1 ⟨rfl, rfl⟩
        go_wp2_with fail
        refine CC.mono ?_
        rintro e w2 ⟨rfl, hb2⟩
        have B2 := Lib.hid hb2
        clear hb2
        go_wp2_with fail
        refine (NC w2).out.mono ?_
        rintro e w3 ⟨rfl, hb3⟩
        have B3 := Lib.hid (bstep B2.out hb3)
        clear hb3
        go_wp2_with fail
        go_ret2
        exact ⟨by rw [RE.out]; rfl, B3.out⟩
      | false =>
        have RE : Hid (r = (W : Int) * 1048576) := Lib.hid (by rw [RR2, if_neg (by decide)]; omega)
        clear RR2
        go_enter Tryz.func47, Tryz.ntmps47
        go_wp2_with fail
        refine CP.mono ?_
        rintro e w1 ⟨rfl, rfl⟩
        go_wp2_with fail
        refine CC.mono ?_
        rintro e w2 ⟨rfl, hb2⟩
        have B2 := Lib.hid hb2
        clear hb2
        go_wp2_with fail
        refine (NC w2).out.mono ?_
        rintro e w3 ⟨rfl, hb3⟩
        have B3 := Lib.hid (bstep B2.out hb3)
        clear hb3
        go_wp2_with fail
        go_ret2
        exact ⟨by rw [RE.out]; rfl, B3.out⟩
end Go.Proofs.YtoecgabdjpgleaaGreatDoor.Wd
