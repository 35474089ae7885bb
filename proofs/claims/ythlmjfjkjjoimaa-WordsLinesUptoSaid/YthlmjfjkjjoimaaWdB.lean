/-
  Seconds: the contract of sundialref07.Seconds.
  Conditions: none.
-/
import Derived.Test.YthlmjfjkjjoimaaWdA
import Derived.Deep.Upon
import Derived.Deep.CutRange
namespace Go.Proofs.Ythlmjfjkjjoimaa.Wd
open Go.RowKit
set_option linter.unusedVariables false
set_option linter.unusedSimpArgs false

/-- where the first point of n bytes stands, or n. -/
def dp (t : ByteArray) : Nat → Nat
  | 0 => 0
  | n + 1 => if dp t n < n then dp t n else if gn t n = 46 then n else n + 1
theorem dp_le (t : ByteArray) : ∀ n, dp t n ≤ n
  | 0 => Nat.le_refl _
  | n + 1 => by
    have := dp_le t n
    rw [dp]
    split
    · omega
    · split <;> omega
theorem dp_miss {t : ByteArray} : ∀ n, (∀ j, j < n → gn t j ≠ 46) → dp t n = n
  | 0, _ => rfl
  | n + 1, h => by rw [dp, dp_miss n (fun j hj => h j (by omega)), if_neg (Nat.lt_irrefl _), if_neg (h n (by omega))]
theorem dp_hit {t : ByteArray} {k : Nat} (h : gn t k = 46) (hk : ∀ j, j < k → gn t j ≠ 46) : ∀ n, k < n → dp t n = k
  | 0, h => absurd h (by omega)
  | n + 1, hn => by
    by_cases c : k < n
    · rw [dp, dp_hit h hk n c, if_pos c]
    · obtain rfl : k = n := by omega
      rw [dp, dp_miss k hk, if_neg (Nat.lt_irrefl _), if_pos h]
def neg (s : ByteArray) : Bool := decide (0 < s.size) && decide (gn s 0 = 45)
def bod (s : ByteArray) : ByteArray := if neg s = true then s.extract 1 s.size else s
def un : Nat → Nat
  | 0 => 100000
  | k + 1 => un k / 10
/-- the millionths that k digits say. -/
def fr (t : ByteArray) : Nat → Nat
  | 0 => 0
  | k + 1 => fr t k + un k * (gn t k - 48)
theorem fr_lt {t : ByteArray} (k : Nat) (h6 : k ≤ 6) (h : ∀ i, i < k → dig (gn t i) = true) : fr t k < 1000000 := by
  have g : ∀ i, i < k → gn t i - 48 ≤ 9 := fun i hi => by have b := h i hi; simp [dig] at b; omega
  match k, h6 with
  | 0, _ => simp [fr]
  | 1, _ => have g0 := g 0 (by omega); simp [fr, un]; omega
  | 2, _ => have g0 := g 0 (by omega); have g1 := g 1 (by omega); simp [fr, un]; omega
  | 3, _ => have g0 := g 0 (by omega); have g1 := g 1 (by omega); have g2 := g 2 (by omega); simp [fr, un]; omega
  | 4, _ => have g0 := g 0 (by omega); have g1 := g 1 (by omega); have g2 := g 2 (by omega); have g3 := g 3 (by omega); simp [fr, un]; omega
  | 5, _ => have g0 := g 0 (by omega); have g1 := g 1 (by omega); have g2 := g 2 (by omega); have g3 := g 3 (by omega); have g4 := g 4 (by omega); simp [fr, un]; omega
  | 6, _ => have g0 := g 0 (by omega); have g1 := g 1 (by omega); have g2 := g 2 (by omega); have g3 := g 3 (by omega); have g4 := g 4 (by omega); have g5 := g 5 (by omega); simp [fr, un]; omega
theorem un_le : ∀ k, un k ≤ 100000
  | 0 => Nat.le_refl _
  | k + 1 => by have := un_le k; rw [un]; omega
/-- whole part and fraction of what has no sign; the millionths; are they seconds? -/
def wp (t : ByteArray) : ByteArray := t.extract 0 (dp t t.size)
def fp (t : ByteArray) : ByteArray := t.extract (dp t t.size + 1) t.size
def mi (t : ByteArray) : Nat := va (wp t) (wp t).size * 1000000 + (if dp t t.size < t.size then fr (fp t) (fp t).size else 0)
def okU (t : ByteArray) : Bool := wn (wp t) && (!decide (dp t t.size < t.size) || (dgs (fp t) && decide ((fp t).size ≤ 6)))
def okS (s : ByteArray) : Bool := okU (bod s)
/-- the ticks. -/
def tk (s : ByteArray) : Int := (if neg s = true then -(mi (bod s) : Int) else (mi (bod s) : Int)) * 1048576 / 1000000
def tkU (t : ByteArray) (b : Bool) : Int := (if b = true then -(mi t : Int) else (mi t : Int)) * 1048576 / 1000000
theorem tk_eq (n a b : Int) (h : n = 1000000 * a + b) (h0 : 0 ≤ b) (h1 : b < 1000000) : n * 1048576 / 1000000 = a * 1048576 + b * 1048576 / 1000000 := by omega

set_option maxRecDepth 100000 in
set_option maxHeartbeats 4000000 in
theorem rSeconds_c (s : ByteArray) (w : World) (hs : s.size ≤ 9223372036854775807) :
    Calls Try.prog 14 #[.string s] w fun e w' => e = .returned (.tuple #[.int .i64 (if okS s = true then tk s else 0), .int .i64 (if okS s = true then 0 else 4)]) ∧ w' = w := by
  obtain ⟨r, HR⟩ : ∃ r, Hid (r = (if okS s = true then tk s else 0)) := ⟨_, Lib.hid rfl⟩
  obtain ⟨z, HZ⟩ : ∃ z, Hid (z = (if okS s = true then (0 : Int) else 4)) := ⟨_, Lib.hid rfl⟩
  rw [← HR.out, ← HZ.out]
  have N1 : (¬ 0 < s.size ∧ neg s = false) ∨ (0 < s.size ∧ decide (0 < (s.size : Int)) = true ∧ ((gn s 0 : Int) == 45) = neg s) := by
    by_cases h : 0 < s.size
    · refine .inr ⟨h, by rw [decide_eq_true_iff]; omega, ?_⟩
      rw [neg, decide_eq_true h, Bool.true_and]
      by_cases e : gn s 0 = 45
      · rw [e]; rfl
      · rw [decide_eq_false e]; simp; omega
    · exact .inl ⟨h, by rw [neg, decide_eq_false h]; rfl⟩
  go_enter Try.func14, Try.ntmps14
  obtain ⟨t, HT⟩ : ∃ t, Hid (t = bod s) := ⟨_, Lib.hid rfl⟩
  have HRB : Hid (∀ b, neg s = b → r = (if okU t = true then tkU t b else 0) ∧ z = (if okU t = true then 0 else 4)) := Lib.hid (fun b h => by
    rw [HR.out, HZ.out, HT.out, okS, tk, tkU, h]
    exact ⟨rfl, rfl⟩)
  have H0 : Hid (0 < s.size ∧ neg s = true → bod s = s.extract 1 s.size) := Lib.hid (fun h => by rw [bod, if_pos h.2])
  have H1 : Hid (neg s = false → bod s = s) := Lib.hid (fun h => by rw [bod, h]; rfl)
  have KEY : (¬ 0 < s.size ∧ neg s = false ∧ t = s) ∨ (0 < s.size ∧ ((gn s 0 : Int) == 45) = false ∧ neg s = false ∧ t = s) ∨ (0 < s.size ∧ (1 : Int) ≤ (s.size : Int) ∧ gn s 0 = 45 ∧ neg s = true ∧ s.extract 1 s.size = t) := by
    rcases N1 with ⟨e1, e2⟩ | ⟨h0, e1, e2⟩
    · exact .inl ⟨e1, e2, by rw [HT.out, H1.out e2]⟩
    · cases hn : neg s with
      | false => exact .inr (.inl ⟨h0, by rw [e2, hn], rfl, by rw [HT.out, H1.out hn]⟩)
      | true => exact .inr (.inr ⟨h0, by omega, by rw [hn] at e2; have := beq_iff_eq.1 e2; omega, rfl, by rw [HT.out, H0.out ⟨h0, hn⟩]⟩)
  have TS : t.size ≤ 9223372036854775807 := by
    have : t.size ≤ s.size := by
      rw [HT.out, bod]
      split
      · rw [ByteArray.size_extract]; omega
      · omega
    omega
  clear N1 H0 H1 HR HZ
  rcases KEY with ⟨e1, e2, e3⟩ | ⟨e1, e4, e2, e3⟩ | ⟨e1, h1, e4, e2, e3⟩
  · have RB := Lib.hid (HRB.out _ e2)
    clear e2 HT HRB
    subst e3
    go_upto_region 4 with fail
    go_wp2_with fail
    clear e1
    go_loopw [5] (fun i wr => ∃ k : Nat, k ≤ t.size ∧ i = .int .i64 k ∧ (∀ j, j < k → gn t j ≠ 46) ∧ wr = w) (fun i _ => t.size - (intOf i).toNat)
    case atStart => exact ⟨0, Nat.zero_le _, rfl, fun j hj => absurd hj (Nat.not_lt_zero _), rfl⟩
    case round =>
      obtain ⟨k, hk, rfl, hno, rfl⟩ := hrel
      have NO := Lib.hid hno
      clear hno
      have k0 : (0 : Int) ≤ (k : Int) := by omega
      have kS : (k : Int) ≤ (t.size : Int) := by omega
      by_cases c : k < t.size
      · have f1 : decide ((k : Int) < (t.size : Int)) = true := by rw [decide_eq_true_iff]; omega
        have ga := gn_at t k c
        by_cases c2 : gn t k = 46
        · rw [c2] at ga
          have HC2 := Lib.hid c2
          clear c2
          have DP : Hid (dp t t.size = k) := Lib.hid (dp_hit HC2.out NO.out t.size c)
          have WP : Hid (wp t = t.extract 0 k) := Lib.hid (by rw [wp, DP.out])
          have NC : Hid (Calls Try.prog 12 #[.string (t.extract 0 k)] wr fun e w' => e = .returned (.tuple #[.int .i64 (if wn (wp t) = true then (va (wp t) (wp t).size : Int) else 0), .int .i64 (if wn (wp t) = true then 0 else 4)]) ∧ w' = wr) := Lib.hid (by rw [WP.out]; exact rNumber_c (t.extract 0 k) wr (by rw [ByteArray.size_extract]; omega))
          cases hw : wn (wp t) with
          | false =>
            rw [hw] at NC
            have NO' : okU t = false := by rw [okU, hw]; rfl
            have RV : Hid (r = 0 ∧ z = 4) := Lib.hid (by have := RB.out; rw [NO'] at this; exact this)
            clear hw NO'
            go_wp2_with fail
            refine NC.out.mono ?_
            rintro e w' ⟨rfl, rfl⟩
            go_wp2_with fail
            go_ret2
            exact ⟨by rw [RV.out.1, RV.out.2]; rfl, rfl⟩
          | true =>
            have ub := va_lt10 hw (Nat.le_refl _)
            have HW := Lib.hid hw
            rw [hw] at NC
            clear hw
            obtain ⟨u, hu⟩ : ∃ u, u = va (wp t) (wp t).size := ⟨_, rfl⟩
            rw [← hu] at NC ub
            have HU := Lib.hid hu
            clear hu
            have FP : Hid (fp t = t.extract (k + 1) t.size) := Lib.hid (by rw [fp, DP.out])
            have fs : (t.extract (k + 1) t.size).size = t.size - (k + 1) := by rw [ByteArray.size_extract]; omega
            obtain ⟨f, hf⟩ : ∃ f, f = t.extract (k + 1) t.size := ⟨_, rfl⟩
            have hf' := hf.symm
            have DG : Hid (Calls Try.prog 23 #[.string f] wr fun e w' => e = .returned (.bool (dgs f)) ∧ w' = wr) := Lib.hid (digits_c f wr (by rw [hf, fs]; omega))
            have HF : Hid (fp t = f) := Lib.hid (by rw [FP.out, hf])
            have OKF : Hid (okU t = (dgs f && decide (f.size ≤ 6))) := Lib.hid (by rw [okU, HW.out, DP.out, decide_eq_true c, HF.out]; rfl)
            have kS1 : (k : Int) + 1 ≤ (t.size : Int) := by omega
            have fz : f.size ≤ 9223372036854775807 := by rw [hf, fs]; omega
            have FS : Hid (f.size = t.size - (k + 1)) := Lib.hid (by rw [hf, fs])
            clear hf fs
            obtain ⟨n0, hn0⟩ : ∃ n : Nat, (u : Int) * 1000000 = (n : Int) := ⟨u * 1000000, by omega⟩
            have nb0 : (n0 : Int) ≤ 9999999999000000 := by omega
            have nb1 : n0 ≤ 9999999999000000 := by omega
            have nz0 : (0 : Int) ≤ (n0 : Int) := by omega
            have uz0 : (0 : Int) ≤ (u : Int) := by omega
            have uz1 : (u : Int) < 10000000000 := by omega
            have HN0 : Hid (u * 1000000 = n0) := Lib.hid (by omega)
            cases hd : dgs f with
            | false =>
              rw [hd] at DG
              have RV : Hid (r = 0 ∧ z = 4) := Lib.hid (by have := RB.out; rw [OKF.out, hd] at this; exact this)
              clear hd
              go_wp2_with fail
              refine NC.out.mono ?_
              rintro e w' ⟨rfl, rfl⟩
              go_wp2_with fail
              refine DG.out.mono ?_
              rintro e w' ⟨rfl, rfl⟩
              go_wp2_with fail
              go_ret2
              exact ⟨by rw [RV.out.1, RV.out.2]; rfl, rfl⟩
            | true =>
              rw [hd] at DG
              have DA : Hid (∀ i, i < f.size → dig (gn f i) = true) := Lib.hid (by
                simp only [dgs, Bool.and_eq_true, List.all_eq_true, List.mem_range] at hd
                exact hd.1)
              by_cases c6 : 6 < f.size
              · have g6 : decide (6 < (f.size : Int)) = true := by rw [decide_eq_true_iff]; omega
                have RV : Hid (r = 0 ∧ z = 4) := Lib.hid (by have := RB.out; rw [OKF.out, hd, decide_eq_false (show ¬ f.size ≤ 6 by omega)] at this; exact this)
                clear hd
                go_wp2_with fail
                refine NC.out.mono ?_
                rintro e w' ⟨rfl, rfl⟩
                go_wp2_with fail
                refine DG.out.mono ?_
                rintro e w' ⟨rfl, rfl⟩
                go_wp2_with fail
                go_ret2
                exact ⟨by rw [RV.out.1, RV.out.2]; rfl, rfl⟩
              · have g6 : decide (6 < (f.size : Int)) = false := by rw [decide_eq_false_iff_not]; omega
                have OK : Hid (okU t = true) := Lib.hid (by rw [OKF.out, hd, decide_eq_true (show f.size ≤ 6 by omega)]; rfl)
                clear hd
                go_wp2_with fail
                refine NC.out.mono ?_
                rintro e w' ⟨rfl, rfl⟩
                go_wp2_with fail
                refine DG.out.mono ?_
                rintro e w' ⟨rfl, rfl⟩
                go_wp2_with fail
                go_loopw [8, 10, 11] (fun v p i wq => ∃ j : Nat, j ≤ f.size ∧ i = .int .i64 j ∧ v = .int .i64 ((n0 + fr f j : Nat) : Int) ∧ p = .int .i64 ((un j : Nat) : Int) ∧ wq = w') (fun _ _ i _ => f.size - (intOf i).toNat)
                case atStart => exact ⟨0, Nat.zero_le _, rfl, rfl, rfl, rfl⟩
                case round =>
                  obtain ⟨j, hj, rfl, rfl, rfl, rfl⟩ := hrel
                  have j0 : (0 : Int) ≤ (j : Int) := by omega
                  by_cases c7 : j < f.size
                  · have f7 : decide ((j : Int) < (f.size : Int)) = true := by rw [decide_eq_true_iff]; omega
                    have ga := gn_at f j c7
                    have gx : 48 ≤ gn f j ∧ gn f j ≤ 57 := by have := DA.out j c7; simpa [dig] using this
                    have fl := fr_lt (j + 1) (by omega) (fun i hi => DA.out i (by omega))
                    have FE : Hid (fr f (j + 1) = fr f j + un j * (gn f j - 48)) := Lib.hid rfl
                    rw [FE.out] at fl
                    have UE : Hid (un (j + 1) = un j / 10) := Lib.hid rfl
                    have ul := un_le j
                    obtain ⟨p, hp⟩ : ∃ p, un j * (gn f j - 48) = p := ⟨_, rfl⟩
                    have HP : ((un j : Nat) : Int) * (((gn f j : Nat) : Int) - 48) = (p : Int) := by rw [← hp, Int.natCast_mul]; congr 1; omega
                    have HT10 : ((un j : Nat) : Int).tdiv 10 = ((un (j + 1) : Nat) : Int) := by rw [Int.tdiv_eq_ediv_of_nonneg (by omega), UE.out]; omega
                    have FE2 : Hid (fr f (j + 1) = fr f j + p) := Lib.hid (by rw [FE.out, hp])
                    rw [hp] at fl
                    clear hp FE
                    generalize gn f j = x at *
                    generalize un j = y at *
                    have u2 := un_le (j + 1)
                    have u3 : (0 : Int) ≤ ((un (j + 1) : Nat) : Int) := by omega
                    have u4 : ((un (j + 1) : Nat) : Int) ≤ 100000 := by omega
                    generalize fr f j = v1 at *
                    obtain ⟨s1, hs1⟩ : ∃ s1, n0 + v1 = s1 := ⟨_, rfl⟩
                    rw [hs1]
                    have p1 : (p : Int) < 1000000 := by omega
                    have p2 : (s1 : Int) < 9999999999000000 + 1000000 := by omega
                    have p3 : (0 : Int) ≤ (p : Int) := by omega
                    have p4 : (0 : Int) ≤ (s1 : Int) := by omega
                    have p5 : (48 : Int) ≤ (x : Int) := by omega
                    have p6 : (x : Int) ≤ 57 := by omega
                    have HS := Lib.hid hs1
                    clear hs1 UE
                    go_wp2_with fail
                    go_roundw
                    case rel => exact ⟨j + 1, by omega, by go_num, by rw [FE2.out, ← Nat.add_assoc, HS.out]; congr 1, rfl, trivial⟩
                    case measure => simp [intOf]; omega
                  · have f7 : decide ((j : Int) < (f.size : Int)) = false := by rw [decide_eq_false_iff_not]; omega
                    have ej : j = f.size := by omega
                    have fl := fr_lt j (by omega) (fun i hi => DA.out i (by omega))
                    obtain ⟨n, hn⟩ : ∃ n, n0 + fr f j = n := ⟨_, rfl⟩
                    have HN : Hid (mi t = n) := Lib.hid (by rw [mi, DP.out, if_pos c, HF.out, ← HU.out, HN0.out, ← ej, hn])
                    rw [hn]
                    have nb : n < 10000000000000000 := by omega
                    have nb' : (n : Int) < 10000000000000000 := by omega
                    clear ej hn fl
                    obtain ⟨q, m, hq, hm0, hm⟩ : ∃ q m : Nat, n = 1000000 * q + m ∧ m < 1000000 ∧ q < 10000000001 := ⟨n / 1000000, n % 1000000, by omega, by omega, by omega⟩
                    have a1 : ((n : Nat) : Int).tdiv 1000000 = (q : Int) := by rw [Int.tdiv_eq_ediv_of_nonneg (by omega)]; omega
                    have a2 : ((n : Nat) : Int).tmod 1000000 = (m : Int) := by rw [Int.tmod_eq_emod_of_nonneg (by omega)]; omega
                    have a3 : ((m : Int) * 1048576).tdiv 1000000 = (m : Int) * 1048576 / 1000000 := Int.tdiv_eq_ediv_of_nonneg (by omega)
                    have a4 : ¬ (m : Int) < 0 := by omega
                    obtain ⟨d, hd⟩ : ∃ d, (m : Int) * 1048576 / 1000000 = d := ⟨_, rfl⟩
                    have hd1 : 0 ≤ d ∧ d < 1048576 := by omega
                    rw [hd] at a3
                    have RV : Hid (r = (q : Int) * 1048576 + d ∧ z = 0) := Lib.hid ⟨by rw [RB.out.1, OK.out, if_pos rfl, tkU, if_neg Bool.false_ne_true, HN.out, tk_eq (n : Int) q m (by omega) (by omega) (by omega), hd], by rw [RB.out.2, OK.out, if_pos rfl]⟩
                    have b1 : (0 : Int) ≤ (q : Int) := by omega
                    have b2 : (q : Int) ≤ 10000000000 := by omega
                    have b3 : (0 : Int) ≤ (m : Int) := by omega
                    have b4 : (m : Int) < 1000000 := by omega
                    have b5 : (0 : Int) ≤ (n : Int) := by omega
                    have b6 : decide ((m : Int) < 0) = false := by rw [decide_eq_false_iff_not]; omega
                    have b7 : (0 : Int) ≤ (u : Int) := by omega
                    have b8 : (u : Int) < 10000000000 := by omega
                    clear hq hd a4 hm0 hm
                    go_wp2_with fail
                    go_ret2
                    exact ⟨by rw [RV.out.1, RV.out.2]; rfl, rfl⟩
        · have f2 : ((gn t k : Int) == 46) = false := by simp; omega
          have NX : Hid (∀ j, j < k + 1 → gn t j ≠ 46) := Lib.hid (fun j hj => by
            by_cases e : j = k
            · subst e; exact c2
            · exact NO.out j (by omega))
          generalize gn t k = y1 at *
          go_wp2_with fail
          go_roundw
          case rel => exact ⟨k + 1, by omega, by go_num, NX.out, trivial⟩
          case measure => simp [intOf]; omega
      · have f1 : decide ((k : Int) < (t.size : Int)) = false := by rw [decide_eq_false_iff_not]; omega
        have ek : t.size = k := by omega
        have DP : Hid (dp t t.size = k) := Lib.hid (by rw [ek]; exact dp_miss k NO.out)
        clear ek
        have WP : Hid (wp t = t.extract 0 k) := Lib.hid (by rw [wp, DP.out])
        have NC : Hid (Calls Try.prog 12 #[.string (t.extract 0 k)] wr fun e w' => e = .returned (.tuple #[.int .i64 (if wn (wp t) = true then (va (wp t) (wp t).size : Int) else 0), .int .i64 (if wn (wp t) = true then 0 else 4)]) ∧ w' = wr) := Lib.hid (by rw [WP.out]; exact rNumber_c (t.extract 0 k) wr (by rw [ByteArray.size_extract]; omega))
        cases hw : wn (wp t) with
        | false =>
          rw [hw] at NC
          have NO' : okU t = false := by rw [okU, hw]; rfl
          have RV : Hid (r = 0 ∧ z = 4) := Lib.hid (by have := RB.out; rw [NO'] at this; exact this)
          clear hw NO'
          go_wp2_with fail
          refine NC.out.mono ?_
          rintro e w' ⟨rfl, rfl⟩
          go_wp2_with fail
          go_ret2
          exact ⟨by rw [RV.out.1, RV.out.2]; rfl, rfl⟩
        | true =>
          have ub := va_lt10 hw (Nat.le_refl _)
          have HW := Lib.hid hw
          rw [hw] at NC
          clear hw
          obtain ⟨u, hu⟩ : ∃ u, u = va (wp t) (wp t).size := ⟨_, rfl⟩
          rw [← hu] at NC ub
          have HU := Lib.hid hu
          clear hu
          obtain ⟨n, hn⟩ : ∃ n : Nat, (u : Int) * 1000000 = (n : Int) := ⟨u * 1000000, by omega⟩
          have nb : n < 10000000000000000 := by omega
          have nb' : (n : Int) < 10000000000000000 := by omega
          have OK : Hid (okU t = true) := Lib.hid (by rw [okU, HW.out, DP.out, decide_eq_false c]; rfl)
          have HN : Hid (mi t = n) := Lib.hid (by rw [mi, DP.out, if_neg c, ← HU.out]; omega)
          go_wp2_with fail
          refine NC.out.mono ?_
          rintro e w' ⟨rfl, rfl⟩
          obtain ⟨q, m, hq, hm0, hm⟩ : ∃ q m : Nat, n = 1000000 * q + m ∧ m < 1000000 ∧ q < 10000000001 := ⟨n / 1000000, n % 1000000, by omega, by omega, by omega⟩
          have a1 : ((n : Nat) : Int).tdiv 1000000 = (q : Int) := by rw [Int.tdiv_eq_ediv_of_nonneg (by omega)]; omega
          have a2 : ((n : Nat) : Int).tmod 1000000 = (m : Int) := by rw [Int.tmod_eq_emod_of_nonneg (by omega)]; omega
          have a3 : ((m : Int) * 1048576).tdiv 1000000 = (m : Int) * 1048576 / 1000000 := Int.tdiv_eq_ediv_of_nonneg (by omega)
          have a4 : ¬ (m : Int) < 0 := by omega
          obtain ⟨d, hd⟩ : ∃ d, (m : Int) * 1048576 / 1000000 = d := ⟨_, rfl⟩
          have hd1 : 0 ≤ d ∧ d < 1048576 := by omega
          rw [hd] at a3
          have RV : Hid (r = (q : Int) * 1048576 + d ∧ z = 0) := Lib.hid ⟨by rw [RB.out.1, OK.out, if_pos rfl, tkU, if_neg Bool.false_ne_true, HN.out, tk_eq (n : Int) q m (by omega) (by omega) (by omega), hd], by rw [RB.out.2, OK.out, if_pos rfl]⟩
          have b1 : (0 : Int) ≤ (q : Int) := by omega
          have b2 : (q : Int) ≤ 10000000000 := by omega
          have b3 : (0 : Int) ≤ (m : Int) := by omega
          have b4 : (m : Int) < 1000000 := by omega
          have b5 : (0 : Int) ≤ (n : Int) := by omega
          have b6 : decide ((m : Int) < 0) = false := by rw [decide_eq_false_iff_not]; omega
          have b7 : (0 : Int) ≤ (u : Int) := by omega
          have b8 : (u : Int) < 10000000000 := by omega
          clear hq hd a4 hm0 hm
          go_wp2_with fail
          go_ret2
          exact ⟨by rw [RV.out.1, RV.out.2]; rfl, rfl⟩
  · have ga := gn_at s 0 e1
    have RB := Lib.hid (HRB.out _ e2)
    clear e2 HT HRB
    subst e3
    generalize gn t 0 = y0 at *
    go_upto_region 4 with fail
    go_wp2_with fail
    clear e1 e4 ga
    go_loopw [5] (fun i wr => ∃ k : Nat, k ≤ t.size ∧ i = .int .i64 k ∧ (∀ j, j < k → gn t j ≠ 46) ∧ wr = w) (fun i _ => t.size - (intOf i).toNat)
    case atStart => exact ⟨0, Nat.zero_le _, rfl, fun j hj => absurd hj (Nat.not_lt_zero _), rfl⟩
    case round =>
      obtain ⟨k, hk, rfl, hno, rfl⟩ := hrel
      have NO := Lib.hid hno
      clear hno
      have k0 : (0 : Int) ≤ (k : Int) := by omega
      have kS : (k : Int) ≤ (t.size : Int) := by omega
      by_cases c : k < t.size
      · have f1 : decide ((k : Int) < (t.size : Int)) = true := by rw [decide_eq_true_iff]; omega
        have ga := gn_at t k c
        by_cases c2 : gn t k = 46
        · rw [c2] at ga
          have HC2 := Lib.hid c2
          clear c2
          have DP : Hid (dp t t.size = k) := Lib.hid (dp_hit HC2.out NO.out t.size c)
          have WP : Hid (wp t = t.extract 0 k) := Lib.hid (by rw [wp, DP.out])
          have NC : Hid (Calls Try.prog 12 #[.string (t.extract 0 k)] wr fun e w' => e = .returned (.tuple #[.int .i64 (if wn (wp t) = true then (va (wp t) (wp t).size : Int) else 0), .int .i64 (if wn (wp t) = true then 0 else 4)]) ∧ w' = wr) := Lib.hid (by rw [WP.out]; exact rNumber_c (t.extract 0 k) wr (by rw [ByteArray.size_extract]; omega))
          cases hw : wn (wp t) with
          | false =>
            rw [hw] at NC
            have NO' : okU t = false := by rw [okU, hw]; rfl
            have RV : Hid (r = 0 ∧ z = 4) := Lib.hid (by have := RB.out; rw [NO'] at this; exact this)
            clear hw NO'
            go_wp2_with fail
            refine NC.out.mono ?_
            rintro e w' ⟨rfl, rfl⟩
            go_wp2_with fail
            go_ret2
            exact ⟨by rw [RV.out.1, RV.out.2]; rfl, rfl⟩
          | true =>
            have ub := va_lt10 hw (Nat.le_refl _)
            have HW := Lib.hid hw
            rw [hw] at NC
            clear hw
            obtain ⟨u, hu⟩ : ∃ u, u = va (wp t) (wp t).size := ⟨_, rfl⟩
            rw [← hu] at NC ub
            have HU := Lib.hid hu
            clear hu
            have FP : Hid (fp t = t.extract (k + 1) t.size) := Lib.hid (by rw [fp, DP.out])
            have fs : (t.extract (k + 1) t.size).size = t.size - (k + 1) := by rw [ByteArray.size_extract]; omega
            obtain ⟨f, hf⟩ : ∃ f, f = t.extract (k + 1) t.size := ⟨_, rfl⟩
            have hf' := hf.symm
            have DG : Hid (Calls Try.prog 23 #[.string f] wr fun e w' => e = .returned (.bool (dgs f)) ∧ w' = wr) := Lib.hid (digits_c f wr (by rw [hf, fs]; omega))
            have HF : Hid (fp t = f) := Lib.hid (by rw [FP.out, hf])
            have OKF : Hid (okU t = (dgs f && decide (f.size ≤ 6))) := Lib.hid (by rw [okU, HW.out, DP.out, decide_eq_true c, HF.out]; rfl)
            have kS1 : (k : Int) + 1 ≤ (t.size : Int) := by omega
            have fz : f.size ≤ 9223372036854775807 := by rw [hf, fs]; omega
            have FS : Hid (f.size = t.size - (k + 1)) := Lib.hid (by rw [hf, fs])
            clear hf fs
            obtain ⟨n0, hn0⟩ : ∃ n : Nat, (u : Int) * 1000000 = (n : Int) := ⟨u * 1000000, by omega⟩
            have nb0 : (n0 : Int) ≤ 9999999999000000 := by omega
            have nb1 : n0 ≤ 9999999999000000 := by omega
            have nz0 : (0 : Int) ≤ (n0 : Int) := by omega
            have uz0 : (0 : Int) ≤ (u : Int) := by omega
            have uz1 : (u : Int) < 10000000000 := by omega
            have HN0 : Hid (u * 1000000 = n0) := Lib.hid (by omega)
            cases hd : dgs f with
            | false =>
              rw [hd] at DG
              have RV : Hid (r = 0 ∧ z = 4) := Lib.hid (by have := RB.out; rw [OKF.out, hd] at this; exact this)
              clear hd
              go_wp2_with fail
              refine NC.out.mono ?_
              rintro e w' ⟨rfl, rfl⟩
              go_wp2_with fail
              refine DG.out.mono ?_
              rintro e w' ⟨rfl, rfl⟩
              go_wp2_with fail
              go_ret2
              exact ⟨by rw [RV.out.1, RV.out.2]; rfl, rfl⟩
            | true =>
              rw [hd] at DG
              have DA : Hid (∀ i, i < f.size → dig (gn f i) = true) := Lib.hid (by
                simp only [dgs, Bool.and_eq_true, List.all_eq_true, List.mem_range] at hd
                exact hd.1)
              by_cases c6 : 6 < f.size
              · have g6 : decide (6 < (f.size : Int)) = true := by rw [decide_eq_true_iff]; omega
                have RV : Hid (r = 0 ∧ z = 4) := Lib.hid (by have := RB.out; rw [OKF.out, hd, decide_eq_false (show ¬ f.size ≤ 6 by omega)] at this; exact this)
                clear hd
                go_wp2_with fail
                refine NC.out.mono ?_
                rintro e w' ⟨rfl, rfl⟩
                go_wp2_with fail
                refine DG.out.mono ?_
                rintro e w' ⟨rfl, rfl⟩
                go_wp2_with fail
                go_ret2
                exact ⟨by rw [RV.out.1, RV.out.2]; rfl, rfl⟩
              · have g6 : decide (6 < (f.size : Int)) = false := by rw [decide_eq_false_iff_not]; omega
                have OK : Hid (okU t = true) := Lib.hid (by rw [OKF.out, hd, decide_eq_true (show f.size ≤ 6 by omega)]; rfl)
                clear hd
                go_wp2_with fail
                refine NC.out.mono ?_
                rintro e w' ⟨rfl, rfl⟩
                go_wp2_with fail
                refine DG.out.mono ?_
                rintro e w' ⟨rfl, rfl⟩
                go_wp2_with fail
                go_loopw [8, 10, 11] (fun v p i wq => ∃ j : Nat, j ≤ f.size ∧ i = .int .i64 j ∧ v = .int .i64 ((n0 + fr f j : Nat) : Int) ∧ p = .int .i64 ((un j : Nat) : Int) ∧ wq = w') (fun _ _ i _ => f.size - (intOf i).toNat)
                case atStart => exact ⟨0, Nat.zero_le _, rfl, rfl, rfl, rfl⟩
                case round =>
                  obtain ⟨j, hj, rfl, rfl, rfl, rfl⟩ := hrel
                  have j0 : (0 : Int) ≤ (j : Int) := by omega
                  by_cases c7 : j < f.size
                  · have f7 : decide ((j : Int) < (f.size : Int)) = true := by rw [decide_eq_true_iff]; omega
                    have ga := gn_at f j c7
                    have gx : 48 ≤ gn f j ∧ gn f j ≤ 57 := by have := DA.out j c7; simpa [dig] using this
                    have fl := fr_lt (j + 1) (by omega) (fun i hi => DA.out i (by omega))
                    have FE : Hid (fr f (j + 1) = fr f j + un j * (gn f j - 48)) := Lib.hid rfl
                    rw [FE.out] at fl
                    have UE : Hid (un (j + 1) = un j / 10) := Lib.hid rfl
                    have ul := un_le j
                    obtain ⟨p, hp⟩ : ∃ p, un j * (gn f j - 48) = p := ⟨_, rfl⟩
                    have HP : ((un j : Nat) : Int) * (((gn f j : Nat) : Int) - 48) = (p : Int) := by rw [← hp, Int.natCast_mul]; congr 1; omega
                    have HT10 : ((un j : Nat) : Int).tdiv 10 = ((un (j + 1) : Nat) : Int) := by rw [Int.tdiv_eq_ediv_of_nonneg (by omega), UE.out]; omega
                    have FE2 : Hid (fr f (j + 1) = fr f j + p) := Lib.hid (by rw [FE.out, hp])
                    rw [hp] at fl
                    clear hp FE
                    generalize gn f j = x at *
                    generalize un j = y at *
                    have u2 := un_le (j + 1)
                    have u3 : (0 : Int) ≤ ((un (j + 1) : Nat) : Int) := by omega
                    have u4 : ((un (j + 1) : Nat) : Int) ≤ 100000 := by omega
                    generalize fr f j = v1 at *
                    obtain ⟨s1, hs1⟩ : ∃ s1, n0 + v1 = s1 := ⟨_, rfl⟩
                    rw [hs1]
                    have p1 : (p : Int) < 1000000 := by omega
                    have p2 : (s1 : Int) < 9999999999000000 + 1000000 := by omega
                    have p3 : (0 : Int) ≤ (p : Int) := by omega
                    have p4 : (0 : Int) ≤ (s1 : Int) := by omega
                    have p5 : (48 : Int) ≤ (x : Int) := by omega
                    have p6 : (x : Int) ≤ 57 := by omega
                    have HS := Lib.hid hs1
                    clear hs1 UE
                    go_wp2_with fail
                    go_roundw
                    case rel => exact ⟨j + 1, by omega, by go_num, by rw [FE2.out, ← Nat.add_assoc, HS.out]; congr 1, rfl, trivial⟩
                    case measure => simp [intOf]; omega
                  · have f7 : decide ((j : Int) < (f.size : Int)) = false := by rw [decide_eq_false_iff_not]; omega
                    have ej : j = f.size := by omega
                    have fl := fr_lt j (by omega) (fun i hi => DA.out i (by omega))
                    obtain ⟨n, hn⟩ : ∃ n, n0 + fr f j = n := ⟨_, rfl⟩
                    have HN : Hid (mi t = n) := Lib.hid (by rw [mi, DP.out, if_pos c, HF.out, ← HU.out, HN0.out, ← ej, hn])
                    rw [hn]
                    have nb : n < 10000000000000000 := by omega
                    have nb' : (n : Int) < 10000000000000000 := by omega
                    clear ej hn fl
                    obtain ⟨q, m, hq, hm0, hm⟩ : ∃ q m : Nat, n = 1000000 * q + m ∧ m < 1000000 ∧ q < 10000000001 := ⟨n / 1000000, n % 1000000, by omega, by omega, by omega⟩
                    have a1 : ((n : Nat) : Int).tdiv 1000000 = (q : Int) := by rw [Int.tdiv_eq_ediv_of_nonneg (by omega)]; omega
                    have a2 : ((n : Nat) : Int).tmod 1000000 = (m : Int) := by rw [Int.tmod_eq_emod_of_nonneg (by omega)]; omega
                    have a3 : ((m : Int) * 1048576).tdiv 1000000 = (m : Int) * 1048576 / 1000000 := Int.tdiv_eq_ediv_of_nonneg (by omega)
                    have a4 : ¬ (m : Int) < 0 := by omega
                    obtain ⟨d, hd⟩ : ∃ d, (m : Int) * 1048576 / 1000000 = d := ⟨_, rfl⟩
                    have hd1 : 0 ≤ d ∧ d < 1048576 := by omega
                    rw [hd] at a3
                    have RV : Hid (r = (q : Int) * 1048576 + d ∧ z = 0) := Lib.hid ⟨by rw [RB.out.1, OK.out, if_pos rfl, tkU, if_neg Bool.false_ne_true, HN.out, tk_eq (n : Int) q m (by omega) (by omega) (by omega), hd], by rw [RB.out.2, OK.out, if_pos rfl]⟩
                    have b1 : (0 : Int) ≤ (q : Int) := by omega
                    have b2 : (q : Int) ≤ 10000000000 := by omega
                    have b3 : (0 : Int) ≤ (m : Int) := by omega
                    have b4 : (m : Int) < 1000000 := by omega
                    have b5 : (0 : Int) ≤ (n : Int) := by omega
                    have b6 : decide ((m : Int) < 0) = false := by rw [decide_eq_false_iff_not]; omega
                    have b7 : (0 : Int) ≤ (u : Int) := by omega
                    have b8 : (u : Int) < 10000000000 := by omega
                    clear hq hd a4 hm0 hm
                    go_wp2_with fail
                    go_ret2
                    exact ⟨by rw [RV.out.1, RV.out.2]; rfl, rfl⟩
        · have f2 : ((gn t k : Int) == 46) = false := by simp; omega
          have NX : Hid (∀ j, j < k + 1 → gn t j ≠ 46) := Lib.hid (fun j hj => by
            by_cases e : j = k
            · subst e; exact c2
            · exact NO.out j (by omega))
          generalize gn t k = y1 at *
          go_wp2_with fail
          go_roundw
          case rel => exact ⟨k + 1, by omega, by go_num, NX.out, trivial⟩
          case measure => simp [intOf]; omega
      · have f1 : decide ((k : Int) < (t.size : Int)) = false := by rw [decide_eq_false_iff_not]; omega
        have ek : t.size = k := by omega
        have DP : Hid (dp t t.size = k) := Lib.hid (by rw [ek]; exact dp_miss k NO.out)
        clear ek
        have WP : Hid (wp t = t.extract 0 k) := Lib.hid (by rw [wp, DP.out])
        have NC : Hid (Calls Try.prog 12 #[.string (t.extract 0 k)] wr fun e w' => e = .returned (.tuple #[.int .i64 (if wn (wp t) = true then (va (wp t) (wp t).size : Int) else 0), .int .i64 (if wn (wp t) = true then 0 else 4)]) ∧ w' = wr) := Lib.hid (by rw [WP.out]; exact rNumber_c (t.extract 0 k) wr (by rw [ByteArray.size_extract]; omega))
        cases hw : wn (wp t) with
        | false =>
          rw [hw] at NC
          have NO' : okU t = false := by rw [okU, hw]; rfl
          have RV : Hid (r = 0 ∧ z = 4) := Lib.hid (by have := RB.out; rw [NO'] at this; exact this)
          clear hw NO'
          go_wp2_with fail
          refine NC.out.mono ?_
          rintro e w' ⟨rfl, rfl⟩
          go_wp2_with fail
          go_ret2
          exact ⟨by rw [RV.out.1, RV.out.2]; rfl, rfl⟩
        | true =>
          have ub := va_lt10 hw (Nat.le_refl _)
          have HW := Lib.hid hw
          rw [hw] at NC
          clear hw
          obtain ⟨u, hu⟩ : ∃ u, u = va (wp t) (wp t).size := ⟨_, rfl⟩
          rw [← hu] at NC ub
          have HU := Lib.hid hu
          clear hu
          obtain ⟨n, hn⟩ : ∃ n : Nat, (u : Int) * 1000000 = (n : Int) := ⟨u * 1000000, by omega⟩
          have nb : n < 10000000000000000 := by omega
          have nb' : (n : Int) < 10000000000000000 := by omega
          have OK : Hid (okU t = true) := Lib.hid (by rw [okU, HW.out, DP.out, decide_eq_false c]; rfl)
          have HN : Hid (mi t = n) := Lib.hid (by rw [mi, DP.out, if_neg c, ← HU.out]; omega)
          go_wp2_with fail
          refine NC.out.mono ?_
          rintro e w' ⟨rfl, rfl⟩
          obtain ⟨q, m, hq, hm0, hm⟩ : ∃ q m : Nat, n = 1000000 * q + m ∧ m < 1000000 ∧ q < 10000000001 := ⟨n / 1000000, n % 1000000, by omega, by omega, by omega⟩
          have a1 : ((n : Nat) : Int).tdiv 1000000 = (q : Int) := by rw [Int.tdiv_eq_ediv_of_nonneg (by omega)]; omega
          have a2 : ((n : Nat) : Int).tmod 1000000 = (m : Int) := by rw [Int.tmod_eq_emod_of_nonneg (by omega)]; omega
          have a3 : ((m : Int) * 1048576).tdiv 1000000 = (m : Int) * 1048576 / 1000000 := Int.tdiv_eq_ediv_of_nonneg (by omega)
          have a4 : ¬ (m : Int) < 0 := by omega
          obtain ⟨d, hd⟩ : ∃ d, (m : Int) * 1048576 / 1000000 = d := ⟨_, rfl⟩
          have hd1 : 0 ≤ d ∧ d < 1048576 := by omega
          rw [hd] at a3
          have RV : Hid (r = (q : Int) * 1048576 + d ∧ z = 0) := Lib.hid ⟨by rw [RB.out.1, OK.out, if_pos rfl, tkU, if_neg Bool.false_ne_true, HN.out, tk_eq (n : Int) q m (by omega) (by omega) (by omega), hd], by rw [RB.out.2, OK.out, if_pos rfl]⟩
          have b1 : (0 : Int) ≤ (q : Int) := by omega
          have b2 : (q : Int) ≤ 10000000000 := by omega
          have b3 : (0 : Int) ≤ (m : Int) := by omega
          have b4 : (m : Int) < 1000000 := by omega
          have b5 : (0 : Int) ≤ (n : Int) := by omega
          have b6 : decide ((m : Int) < 0) = false := by rw [decide_eq_false_iff_not]; omega
          have b7 : (0 : Int) ≤ (u : Int) := by omega
          have b8 : (u : Int) < 10000000000 := by omega
          clear hq hd a4 hm0 hm
          go_wp2_with fail
          go_ret2
          exact ⟨by rw [RV.out.1, RV.out.2]; rfl, rfl⟩
  · have ga := gn_at s 0 e1
    rw [e4] at ga
    have RB := Lib.hid (HRB.out _ e2)
    clear e2 e4 HRB HT
    go_upto_region 4 with fail
    go_wp2_with fail
    clear e1 ga
    go_loopw [5] (fun i wr => ∃ k : Nat, k ≤ t.size ∧ i = .int .i64 k ∧ (∀ j, j < k → gn t j ≠ 46) ∧ wr = w) (fun i _ => t.size - (intOf i).toNat)
    case atStart => exact ⟨0, Nat.zero_le _, rfl, fun j hj => absurd hj (Nat.not_lt_zero _), rfl⟩
    case round =>
      obtain ⟨k, hk, rfl, hno, rfl⟩ := hrel
      have NO := Lib.hid hno
      clear hno
      have k0 : (0 : Int) ≤ (k : Int) := by omega
      have kS : (k : Int) ≤ (t.size : Int) := by omega
      by_cases c : k < t.size
      · have f1 : decide ((k : Int) < (t.size : Int)) = true := by rw [decide_eq_true_iff]; omega
        have ga := gn_at t k c
        by_cases c2 : gn t k = 46
        · rw [c2] at ga
          have HC2 := Lib.hid c2
          clear c2
          have DP : Hid (dp t t.size = k) := Lib.hid (dp_hit HC2.out NO.out t.size c)
          have WP : Hid (wp t = t.extract 0 k) := Lib.hid (by rw [wp, DP.out])
          have NC : Hid (Calls Try.prog 12 #[.string (t.extract 0 k)] wr fun e w' => e = .returned (.tuple #[.int .i64 (if wn (wp t) = true then (va (wp t) (wp t).size : Int) else 0), .int .i64 (if wn (wp t) = true then 0 else 4)]) ∧ w' = wr) := Lib.hid (by rw [WP.out]; exact rNumber_c (t.extract 0 k) wr (by rw [ByteArray.size_extract]; omega))
          cases hw : wn (wp t) with
          | false =>
            rw [hw] at NC
            have NO' : okU t = false := by rw [okU, hw]; rfl
            have RV : Hid (r = 0 ∧ z = 4) := Lib.hid (by have := RB.out; rw [NO'] at this; exact this)
            clear hw NO'
            go_wp2_with fail
            refine NC.out.mono ?_
            rintro e w' ⟨rfl, rfl⟩
            go_wp2_with fail
            go_ret2
            exact ⟨by rw [RV.out.1, RV.out.2]; rfl, rfl⟩
          | true =>
            have ub := va_lt10 hw (Nat.le_refl _)
            have HW := Lib.hid hw
            rw [hw] at NC
            clear hw
            obtain ⟨u, hu⟩ : ∃ u, u = va (wp t) (wp t).size := ⟨_, rfl⟩
            rw [← hu] at NC ub
            have HU := Lib.hid hu
            clear hu
            have FP : Hid (fp t = t.extract (k + 1) t.size) := Lib.hid (by rw [fp, DP.out])
            have fs : (t.extract (k + 1) t.size).size = t.size - (k + 1) := by rw [ByteArray.size_extract]; omega
            obtain ⟨f, hf⟩ : ∃ f, f = t.extract (k + 1) t.size := ⟨_, rfl⟩
            have hf' := hf.symm
            have DG : Hid (Calls Try.prog 23 #[.string f] wr fun e w' => e = .returned (.bool (dgs f)) ∧ w' = wr) := Lib.hid (digits_c f wr (by rw [hf, fs]; omega))
            have HF : Hid (fp t = f) := Lib.hid (by rw [FP.out, hf])
            have OKF : Hid (okU t = (dgs f && decide (f.size ≤ 6))) := Lib.hid (by rw [okU, HW.out, DP.out, decide_eq_true c, HF.out]; rfl)
            have kS1 : (k : Int) + 1 ≤ (t.size : Int) := by omega
            have fz : f.size ≤ 9223372036854775807 := by rw [hf, fs]; omega
            have FS : Hid (f.size = t.size - (k + 1)) := Lib.hid (by rw [hf, fs])
            clear hf fs
            obtain ⟨n0, hn0⟩ : ∃ n : Nat, (u : Int) * 1000000 = (n : Int) := ⟨u * 1000000, by omega⟩
            have nb0 : (n0 : Int) ≤ 9999999999000000 := by omega
            have nb1 : n0 ≤ 9999999999000000 := by omega
            have nz0 : (0 : Int) ≤ (n0 : Int) := by omega
            have uz0 : (0 : Int) ≤ (u : Int) := by omega
            have uz1 : (u : Int) < 10000000000 := by omega
            have HN0 : Hid (u * 1000000 = n0) := Lib.hid (by omega)
            cases hd : dgs f with
            | false =>
              rw [hd] at DG
              have RV : Hid (r = 0 ∧ z = 4) := Lib.hid (by have := RB.out; rw [OKF.out, hd] at this; exact this)
              clear hd
              go_wp2_with fail
              refine NC.out.mono ?_
              rintro e w' ⟨rfl, rfl⟩
              go_wp2_with fail
              refine DG.out.mono ?_
              rintro e w' ⟨rfl, rfl⟩
              go_wp2_with fail
              go_ret2
              exact ⟨by rw [RV.out.1, RV.out.2]; rfl, rfl⟩
            | true =>
              rw [hd] at DG
              have DA : Hid (∀ i, i < f.size → dig (gn f i) = true) := Lib.hid (by
                simp only [dgs, Bool.and_eq_true, List.all_eq_true, List.mem_range] at hd
                exact hd.1)
              by_cases c6 : 6 < f.size
              · have g6 : decide (6 < (f.size : Int)) = true := by rw [decide_eq_true_iff]; omega
                have RV : Hid (r = 0 ∧ z = 4) := Lib.hid (by have := RB.out; rw [OKF.out, hd, decide_eq_false (show ¬ f.size ≤ 6 by omega)] at this; exact this)
                clear hd
                go_wp2_with fail
                refine NC.out.mono ?_
                rintro e w' ⟨rfl, rfl⟩
                go_wp2_with fail
                refine DG.out.mono ?_
                rintro e w' ⟨rfl, rfl⟩
                go_wp2_with fail
                go_ret2
                exact ⟨by rw [RV.out.1, RV.out.2]; rfl, rfl⟩
              · have g6 : decide (6 < (f.size : Int)) = false := by rw [decide_eq_false_iff_not]; omega
                have OK : Hid (okU t = true) := Lib.hid (by rw [OKF.out, hd, decide_eq_true (show f.size ≤ 6 by omega)]; rfl)
                clear hd
                go_wp2_with fail
                refine NC.out.mono ?_
                rintro e w' ⟨rfl, rfl⟩
                go_wp2_with fail
                refine DG.out.mono ?_
                rintro e w' ⟨rfl, rfl⟩
                go_wp2_with fail
                go_loopw [8, 10, 11] (fun v p i wq => ∃ j : Nat, j ≤ f.size ∧ i = .int .i64 j ∧ v = .int .i64 ((n0 + fr f j : Nat) : Int) ∧ p = .int .i64 ((un j : Nat) : Int) ∧ wq = w') (fun _ _ i _ => f.size - (intOf i).toNat)
                case atStart => exact ⟨0, Nat.zero_le _, rfl, rfl, rfl, rfl⟩
                case round =>
                  obtain ⟨j, hj, rfl, rfl, rfl, rfl⟩ := hrel
                  have j0 : (0 : Int) ≤ (j : Int) := by omega
                  by_cases c7 : j < f.size
                  · have f7 : decide ((j : Int) < (f.size : Int)) = true := by rw [decide_eq_true_iff]; omega
                    have ga := gn_at f j c7
                    have gx : 48 ≤ gn f j ∧ gn f j ≤ 57 := by have := DA.out j c7; simpa [dig] using this
                    have fl := fr_lt (j + 1) (by omega) (fun i hi => DA.out i (by omega))
                    have FE : Hid (fr f (j + 1) = fr f j + un j * (gn f j - 48)) := Lib.hid rfl
                    rw [FE.out] at fl
                    have UE : Hid (un (j + 1) = un j / 10) := Lib.hid rfl
                    have ul := un_le j
                    obtain ⟨p, hp⟩ : ∃ p, un j * (gn f j - 48) = p := ⟨_, rfl⟩
                    have HP : ((un j : Nat) : Int) * (((gn f j : Nat) : Int) - 48) = (p : Int) := by rw [← hp, Int.natCast_mul]; congr 1; omega
                    have HT10 : ((un j : Nat) : Int).tdiv 10 = ((un (j + 1) : Nat) : Int) := by rw [Int.tdiv_eq_ediv_of_nonneg (by omega), UE.out]; omega
                    have FE2 : Hid (fr f (j + 1) = fr f j + p) := Lib.hid (by rw [FE.out, hp])
                    rw [hp] at fl
                    clear hp FE
                    generalize gn f j = x at *
                    generalize un j = y at *
                    have u2 := un_le (j + 1)
                    have u3 : (0 : Int) ≤ ((un (j + 1) : Nat) : Int) := by omega
                    have u4 : ((un (j + 1) : Nat) : Int) ≤ 100000 := by omega
                    generalize fr f j = v1 at *
                    obtain ⟨s1, hs1⟩ : ∃ s1, n0 + v1 = s1 := ⟨_, rfl⟩
                    rw [hs1]
                    have p1 : (p : Int) < 1000000 := by omega
                    have p2 : (s1 : Int) < 9999999999000000 + 1000000 := by omega
                    have p3 : (0 : Int) ≤ (p : Int) := by omega
                    have p4 : (0 : Int) ≤ (s1 : Int) := by omega
                    have p5 : (48 : Int) ≤ (x : Int) := by omega
                    have p6 : (x : Int) ≤ 57 := by omega
                    have HS := Lib.hid hs1
                    clear hs1 UE
                    go_wp2_with fail
                    go_roundw
                    case rel => exact ⟨j + 1, by omega, by go_num, by rw [FE2.out, ← Nat.add_assoc, HS.out]; congr 1, rfl, trivial⟩
                    case measure => simp [intOf]; omega
                  · have f7 : decide ((j : Int) < (f.size : Int)) = false := by rw [decide_eq_false_iff_not]; omega
                    have ej : j = f.size := by omega
                    have fl := fr_lt j (by omega) (fun i hi => DA.out i (by omega))
                    obtain ⟨n, hn⟩ : ∃ n, n0 + fr f j = n := ⟨_, rfl⟩
                    have HN : Hid (mi t = n) := Lib.hid (by rw [mi, DP.out, if_pos c, HF.out, ← HU.out, HN0.out, ← ej, hn])
                    rw [hn]
                    have nb : n < 10000000000000000 := by omega
                    have nb' : (n : Int) < 10000000000000000 := by omega
                    clear ej hn fl
                    obtain ⟨q, m, hq, hm0, hm⟩ : ∃ q m : Nat, n = 1000000 * q + m ∧ m < 1000000 ∧ q < 10000000001 := ⟨n / 1000000, n % 1000000, by omega, by omega, by omega⟩
                    have a1 : ((n : Nat) : Int).tdiv 1000000 = (q : Int) := by rw [Int.tdiv_eq_ediv_of_nonneg (by omega)]; omega
                    have a2 : ((n : Nat) : Int).tmod 1000000 = (m : Int) := by rw [Int.tmod_eq_emod_of_nonneg (by omega)]; omega
                    have b1 : (0 : Int) ≤ (q : Int) := by omega
                    have b2 : (q : Int) ≤ 10000000000 := by omega
                    have b3 : (0 : Int) ≤ (m : Int) := by omega
                    have b4 : (m : Int) < 1000000 := by omega
                    have b5 : (0 : Int) ≤ (n : Int) := by omega
                    have b7 : (0 : Int) ≤ (u : Int) := by omega
                    have b8 : (u : Int) < 10000000000 := by omega
                    by_cases mz : m = 0
                    · subst mz
                      have RV : Hid (r = -(q : Int) * 1048576 ∧ z = 0) := Lib.hid ⟨by rw [RB.out.1, OK.out, if_pos rfl, tkU, if_pos rfl, HN.out, tk_eq (-(n : Int)) (-(q : Int)) 0 (by omega) (by omega) (by omega)]; omega, by rw [RB.out.2, OK.out, if_pos rfl]⟩
                      clear hq hm0 hm
                      go_wp2_with fail
                      go_ret2
                      exact ⟨by rw [RV.out.1, RV.out.2]; rfl, rfl⟩
                    · have b6 : 0 < m := by omega
                      have b6' : (0 : Int) < (m : Int) := by omega
                      have a3 : ((-(m : Int) + 1000000) * 1048576).tdiv 1000000 = (-(m : Int) + 1000000) * 1048576 / 1000000 := Int.tdiv_eq_ediv_of_nonneg (by omega)
                      obtain ⟨d, hd⟩ : ∃ d, (-(m : Int) + 1000000) * 1048576 / 1000000 = d := ⟨_, rfl⟩
                      have hd1 : 0 ≤ d ∧ d < 1048576 := by omega
                      rw [hd] at a3
                      have RV : Hid (r = (-(q : Int) - 1) * 1048576 + d ∧ z = 0) := Lib.hid ⟨by rw [RB.out.1, OK.out, if_pos rfl, tkU, if_pos rfl, HN.out, tk_eq (-(n : Int)) (-(q : Int) - 1) (-(m : Int) + 1000000) (by omega) (by omega) (by omega), hd], by rw [RB.out.2, OK.out, if_pos rfl]⟩
                      clear hq hd hm0 hm
                      go_wp2_with fail
                      go_ret2
                      exact ⟨by rw [RV.out.1, RV.out.2]; rfl, rfl⟩
        · have f2 : ((gn t k : Int) == 46) = false := by simp; omega
          have NX : Hid (∀ j, j < k + 1 → gn t j ≠ 46) := Lib.hid (fun j hj => by
            by_cases e : j = k
            · subst e; exact c2
            · exact NO.out j (by omega))
          generalize gn t k = y1 at *
          go_wp2_with fail
          go_roundw
          case rel => exact ⟨k + 1, by omega, by go_num, NX.out, trivial⟩
          case measure => simp [intOf]; omega
      · have f1 : decide ((k : Int) < (t.size : Int)) = false := by rw [decide_eq_false_iff_not]; omega
        have ek : t.size = k := by omega
        have DP : Hid (dp t t.size = k) := Lib.hid (by rw [ek]; exact dp_miss k NO.out)
        clear ek
        have WP : Hid (wp t = t.extract 0 k) := Lib.hid (by rw [wp, DP.out])
        have NC : Hid (Calls Try.prog 12 #[.string (t.extract 0 k)] wr fun e w' => e = .returned (.tuple #[.int .i64 (if wn (wp t) = true then (va (wp t) (wp t).size : Int) else 0), .int .i64 (if wn (wp t) = true then 0 else 4)]) ∧ w' = wr) := Lib.hid (by rw [WP.out]; exact rNumber_c (t.extract 0 k) wr (by rw [ByteArray.size_extract]; omega))
        cases hw : wn (wp t) with
        | false =>
          rw [hw] at NC
          have NO' : okU t = false := by rw [okU, hw]; rfl
          have RV : Hid (r = 0 ∧ z = 4) := Lib.hid (by have := RB.out; rw [NO'] at this; exact this)
          clear hw NO'
          go_wp2_with fail
          refine NC.out.mono ?_
          rintro e w' ⟨rfl, rfl⟩
          go_wp2_with fail
          go_ret2
          exact ⟨by rw [RV.out.1, RV.out.2]; rfl, rfl⟩
        | true =>
          have ub := va_lt10 hw (Nat.le_refl _)
          have HW := Lib.hid hw
          rw [hw] at NC
          clear hw
          obtain ⟨u, hu⟩ : ∃ u, u = va (wp t) (wp t).size := ⟨_, rfl⟩
          rw [← hu] at NC ub
          have HU := Lib.hid hu
          clear hu
          obtain ⟨n, hn⟩ : ∃ n : Nat, (u : Int) * 1000000 = (n : Int) := ⟨u * 1000000, by omega⟩
          have nb : n < 10000000000000000 := by omega
          have nb' : (n : Int) < 10000000000000000 := by omega
          have OK : Hid (okU t = true) := Lib.hid (by rw [okU, HW.out, DP.out, decide_eq_false c]; rfl)
          have HN : Hid (mi t = n) := Lib.hid (by rw [mi, DP.out, if_neg c, ← HU.out]; omega)
          go_wp2_with fail
          refine NC.out.mono ?_
          rintro e w' ⟨rfl, rfl⟩
          obtain ⟨q, m, hq, hm0, hm⟩ : ∃ q m : Nat, n = 1000000 * q + m ∧ m < 1000000 ∧ q < 10000000001 := ⟨n / 1000000, n % 1000000, by omega, by omega, by omega⟩
          have a1 : ((n : Nat) : Int).tdiv 1000000 = (q : Int) := by rw [Int.tdiv_eq_ediv_of_nonneg (by omega)]; omega
          have a2 : ((n : Nat) : Int).tmod 1000000 = (m : Int) := by rw [Int.tmod_eq_emod_of_nonneg (by omega)]; omega
          have b1 : (0 : Int) ≤ (q : Int) := by omega
          have b2 : (q : Int) ≤ 10000000000 := by omega
          have b3 : (0 : Int) ≤ (m : Int) := by omega
          have b4 : (m : Int) < 1000000 := by omega
          have b5 : (0 : Int) ≤ (n : Int) := by omega
          have b7 : (0 : Int) ≤ (u : Int) := by omega
          have b8 : (u : Int) < 10000000000 := by omega
          by_cases mz : m = 0
          · subst mz
            have RV : Hid (r = -(q : Int) * 1048576 ∧ z = 0) := Lib.hid ⟨by rw [RB.out.1, OK.out, if_pos rfl, tkU, if_pos rfl, HN.out, tk_eq (-(n : Int)) (-(q : Int)) 0 (by omega) (by omega) (by omega)]; omega, by rw [RB.out.2, OK.out, if_pos rfl]⟩
            clear hq hm0 hm
            go_wp2_with fail
            go_ret2
            exact ⟨by rw [RV.out.1, RV.out.2]; rfl, rfl⟩
          · have b6 : 0 < m := by omega
            have b6' : (0 : Int) < (m : Int) := by omega
            have a3 : ((-(m : Int) + 1000000) * 1048576).tdiv 1000000 = (-(m : Int) + 1000000) * 1048576 / 1000000 := Int.tdiv_eq_ediv_of_nonneg (by omega)
            obtain ⟨d, hd⟩ : ∃ d, (-(m : Int) + 1000000) * 1048576 / 1000000 = d := ⟨_, rfl⟩
            have hd1 : 0 ≤ d ∧ d < 1048576 := by omega
            rw [hd] at a3
            have RV : Hid (r = (-(q : Int) - 1) * 1048576 + d ∧ z = 0) := Lib.hid ⟨by rw [RB.out.1, OK.out, if_pos rfl, tkU, if_pos rfl, HN.out, tk_eq (-(n : Int)) (-(q : Int) - 1) (-(m : Int) + 1000000) (by omega) (by omega) (by omega), hd], by rw [RB.out.2, OK.out, if_pos rfl]⟩
            clear hq hd hm0 hm
            go_wp2_with fail
            go_ret2
            exact ⟨by rw [RV.out.1, RV.out.2]; rfl, rfl⟩
end Go.Proofs.Ythlmjfjkjjoimaa.Wd
