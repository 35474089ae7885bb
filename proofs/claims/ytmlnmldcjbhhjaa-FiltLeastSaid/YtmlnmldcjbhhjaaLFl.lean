/-
  FiltLeast: The best sample is one of the last eight, and none of them has a lesser distance. The law returns true for every input, and the input reads as it did.
  Conditions: none.
-/
import Derived.Test.YtmlnmldcjbhhjaaRows
import Derived.Test.YtmlnmldcjbhhjaaFlM
import Derived.SizedLaws
import Derived.Lib.SmallJoins
namespace Go.Proofs.Ytmlnmldcjbhhjaa.filtLeast
open Go.ChangeShapes Go.WideShapes Go.ChangeAt Go.RowKit Go.Joins Fl
set_option linter.unusedVariables false
set_option linter.unusedSimpArgs false

theorem own : ownKnob Try.prog.godebug = none := by kernel_rfl
theorem laidOut : laidOutB Try.prog = true := by kernel_rfl

/-- does a sample agree with the best one, aged? -/
def mtc (y : Sm) (d : Int) (x : Sm) : Bool := (x.off == y.off) && (x.del == y.del) && (x.at' == y.at') && decide (0 ≤ d - x.dis)
theorem any_snoc {M : List Sm} {i : Nat} {x : Sm} (h : M[i]? = some x) (f : Sm → Bool) : (M.take (i + 1)).any f = ((M.take i).any f || f x) := by
  obtain ⟨h1, h2⟩ := List.getElem?_eq_some_iff.1 h
  rw [List.take_succ_eq_append_getElem h1, h2, List.any_append]
  simp
set_option maxRecDepth 100000 in
set_option maxHeartbeats 8000000 in
theorem walk (v : Value) (L : List Sm) (more ppm : Int) (w : World) (g0 : Ss w v L ∧ (∀ s ∈ L, i64S s) ∧ L.length * 32 ≤ 140737488351232) (g1 : Lit.wf (.int .i64 more) = true) (g2 : Lit.wf (.int .i64 ppm) = true) :
    Calls Try.prog 3 #[v, .int .i64 more, .int .i64 ppm] w fun e w' => e = .returned (.bool true) ∧ Below w.heap.size w w' := by
  have AW := Lib.hid awake14_c
  have NW := Lib.hid New_c
  obtain ⟨hS, hI, hN⟩ := g0
  have HS := Lib.hid hS
  have HI := Lib.hid hI
  have hmo := bounds_i64 g1
  have hpp := bounds_i64 g2
  obtain ⟨a, cap, rfl, c1, c2, _⟩ := hS
  obtain ⟨m, hm⟩ : ∃ m, L.length = m := ⟨_, rfl⟩
  have HM := Lib.hid hm
  rw [hm] at HS c1 hN ⊢
  have m0 : (0 : Int) ≤ (m : Int) := by omega
  have m1 : (m : Int) ≤ 4398046510976 := by omega
  have m2 : (m : Int) ≤ (cap : Int) := by omega
  have m3 : (cap : Int) ≤ 9223372036854775807 := by omega
  clear hm hI g1 g2
  go_enter Try.func3, Try.ntmps3
  go_wp2_with fail
  refine (AW.out _).mono ?_
  rintro e w1 ⟨rfl, hb⟩
  have B1 := Lib.hid hb
  clear hb AW
  go_wp2_with fail
  refine (NW.out _).mono ?_
  rintro e w2 ⟨rfl, h1, hb⟩
  have B2 := Lib.hid (bstep B1.out hb)
  have F2 := Lib.hid h1
  obtain ⟨F, hF⟩ : ∃ F, w1.heap.size = F := ⟨_, rfl⟩
  have leF : Hid (w.heap.size ≤ F) := Lib.hid (hF ▸ B1.out.size)
  rw [hF] at F2 ⊢
  clear hb h1 NW hF B1
  go_wp2_with fail
  go_loopw [8, 9] (fun lv iv wr => ∃ (k : Nat) (T : List Sm), k ≤ m ∧ iv = .int .i64 (k : Nat) ∧ OwnM wr (F + 1) lv T ∧ Fm wr F (l8 T) ∧ okT T ∧ T.length ≤ k ∧ Below w.heap.size w wr) (fun _ iv _ => m - (intOf iv).toNat)
  case atStart => exact ⟨0, [], by omega, rfl, OwnM.nil _ _, F2.out, okT.nil, Nat.le_refl _, B2.out⟩
  case round =>
    obtain ⟨k, T, hk, rfl, ho, hf, hT, hl, hb⟩ := hrel
    rename World => wr
    have HO := Lib.hid ho
    have HF := Lib.hid hf
    have HT := Lib.hid hT
    have HB := Lib.hid hb
    have HL := Lib.hid hl
    clear ho hf hT hb hl F2 B2
    by_cases c : k < m
    · have e1 : decide ((k : Int) < (m : Int)) = true := decide_eq_true (by omega)
      have e2 : decide (k < m) = true := decide_eq_true c
      have k1 : (k : Int) < (m : Int) := by omega
      have wk : IntKind.i64.wrap ((k : Int) + 1) = (k : Int) + 1 := wrap_in (by omega) (by omega)
      obtain ⟨x, hx⟩ : ∃ x, L[k]? = some x := ⟨_, List.getElem?_eq_getElem (by rw [HM.out]; exact c)⟩
      obtain ⟨b, off, rfl, LS⟩ : ∃ b off, a = some ⟨b, off, none⟩ ∧ Ls w b off L := by
        obtain ⟨a', cap', ev, _, _, h3⟩ := HS.out
        rw [HM.out] at ev h3
        cases ev
        exact h3 (by omega)
      have LW := Lib.hid LS
      have CF : Hid (∀ w', Below w.heap.size w w' → w'.cell? ⟨b, off + k * 4, none⟩ = some (.int .i64 x.off) ∧ w'.cell? ⟨b, off + k * 4 + 1, none⟩ = some (.int .i64 x.del) ∧ w'.cell? ⟨b, off + k * 4 + 2, none⟩ = some (.int .i64 x.dis) ∧ w'.cell? ⟨b, off + k * 4 + 3, none⟩ = some (.int .i64 x.at')) := Lib.hid fun w' q => (LW.out.below q).four hx
      clear LS LW hx
      obtain ⟨y0, y1, y2, y3⟩ := CF.out _ HB.out
      by_cases ok : okSm x
      · by_cases od : ∀ t, (l8 T)[0]? = some t → t.at' < x.at'
        · have AC := Lib.hid (Add_ok HF.out x ok od)
          rw [l8_snoc] at AC
          have NT := Lib.hid (HT.out.snoc ok od)
          obtain ⟨la, lc, rfl⟩ := HO.out.form
          have AP := Lib.hid (fun (w : World) (h : OwnM w (F + 1) (.slice la T.length lc) T) (hb : F + 1 ≤ w.heap.size) => appM h x hb (by have := HL.out; omega) 22)
          obtain ⟨xa, xb, xc, xd⟩ := x
          replace AC : Hid (Calls Try.prog 7 #[.pointer (some ⟨F, 0, none⟩), .agg #[.int .i64 xa, .int .i64 xb, .int .i64 xc, .int .i64 xd]] wr fun e w' => e = .returned (.int .i64 0) ∧ Fm w' F (l8 (T ++ [⟨xa, xb, xc, xd⟩])) ∧ Tu (Td F) wr w') := AC
          simp only at CF y0 y1 y2 y3
          go_wp2_with fail
          refine AC.out.mono ?_
          rintro e w5 ⟨rfl, h1, hT⟩
          have F5 := Lib.hid h1
          have B5 := Lib.hid (HB.out.trans (hT.below (fun i q => Nat.le_trans leF.out (Nat.le_of_eq q.symm)) HB.out.size))
          have O5 := HO.out.tu hT (Nat.lt_succ_self F)
          obtain ⟨v', w6, hr, o6, b6⟩ := AP.out w5 O5 F5.out.lt
          replace hr : (Builtin.append_ #[22, 22] 22 #[.slice la T.length lc, .slice (some ⟨w5.heap.size, 0, none⟩) 1 1]).run Try.prog (w5.alloc (.cells #[.int .i64 xa, .int .i64 xb, .int .i64 xc, .int .i64 xd] 30)) = .ok v' w6 := hr
          have HR := Lib.hid hr
          have O6 := Lib.hid o6
          have F6 := Lib.hid (F5.out.belowB (Nat.lt_succ_self F) b6)
          have B6 := Lib.hid (B5.out.trans (b6.mono (Nat.le_trans leF.out (Nat.le_succ F))))
          obtain ⟨z0, z1, z2, z3⟩ := CF.out _ B5.out
          clear h1 hT O5 hr o6 b6 AC AP y0 y1 y2 y3
          go_wp2_with (first | (at_builtin; refine wpList_append_eqL rfl _ _ 22 rfl _ _ v' w6 rfl rfl HR.out ?_))
          exact ⟨⟨k + 1, _, by omega, by go_num, O6.out, F6.out, NT.out, by have := HL.out; rw [List.length_append]; simp; omega, B6.out⟩, by simp [intOf]; omega⟩
        · obtain ⟨t, R, et, ht⟩ : ∃ t R, l8 T = t :: R ∧ x.at' ≤ t.at' := by
            cases q : l8 T with
            | nil => exact absurd (fun t h => by rw [q] at h; simp at h) od
            | cons t R =>
              refine ⟨t, R, rfl, ?_⟩
              by_cases z : x.at' ≤ t.at'
              · exact z
              · exact absurd (fun t' h => by rw [q] at h; simp at h; subst h; omega) od
          have AC := Lib.hid (Add_order (et ▸ HF.out) x ok ht)
          obtain ⟨xa, xb, xc, xd⟩ := x
          replace AC : Hid (Calls Try.prog 7 #[.pointer (some ⟨F, 0, none⟩), .agg #[.int .i64 xa, .int .i64 xb, .int .i64 xc, .int .i64 xd]] wr fun e w' => e = .returned (.int .i64 42) ∧ Below wr.heap.size wr w') := AC
          simp only at CF y0 y1 y2 y3
          clear od et ht
          go_wp2_with fail
          refine AC.out.mono ?_
          rintro e w5 ⟨rfl, hb⟩
          have B5 := Lib.hid (bstep HB.out hb)
          have F5 := Lib.hid (HF.out.below hb)
          have O5 := Lib.hid (HO.out.below hb)
          clear hb y0 y1 y2 y3
          go_wp2_with fail
          exact ⟨⟨k + 1, T, by omega, by go_num, O5.out, F5.out, HT.out, by have := HL.out; omega, B5.out⟩, by simp [intOf]; omega⟩
      · have AC := Lib.hid (Add_shape x F wr ok)
        obtain ⟨xa, xb, xc, xd⟩ := x
        replace AC : Hid (Calls Try.prog 7 #[.pointer (some ⟨F, 0, none⟩), .agg #[.int .i64 xa, .int .i64 xb, .int .i64 xc, .int .i64 xd]] wr fun e w' => e = .returned (.int .i64 3) ∧ Below wr.heap.size wr w') := AC
        simp only at CF y0 y1 y2 y3
        go_wp2_with fail
        refine AC.out.mono ?_
        rintro e w5 ⟨rfl, hb⟩
        have B5 := Lib.hid (bstep HB.out hb)
        have F5 := Lib.hid (HF.out.below hb)
        have O5 := Lib.hid (HO.out.below hb)
        clear hb y0 y1 y2 y3
        go_wp2_with fail
        exact ⟨⟨k + 1, T, by omega, by go_num, O5.out, F5.out, HT.out, by have := HL.out; omega, B5.out⟩, by simp [intOf]; omega⟩
    · have e1 : decide ((k : Int) < (m : Int)) = false := decide_eq_false (by omega)
      have e2 : decide (k < m) = false := decide_eq_false c
      obtain rfl : k = m := by omega
      clear HI HS
      obtain ⟨la, lc, rfl⟩ := HO.out.form
      go_upto_if 47 with fail
      go_cut [8] from 45 to 52 (fun lv wx => wx = wr ∧ ∃ M : List Sm, Ss wr lv M ∧ M.reverse = l8 T ∧ M.length ≤ 8 ∧ okT M)
      case first =>
        by_cases d : 8 < T.length
        · obtain ⟨g, rfl, hc1, hc2, LD⟩ := HO.out.drop 0 lc la rfl (T.length - 8) (by omega)
          obtain ⟨q, hq⟩ : ∃ q, T.length = q + 8 := ⟨T.length - 8, by omega⟩
          have FIN : Hid (∀ cp : Nat, 8 ≤ cp → cp ≤ 9223372036854775807 → ∃ M : List Sm, Ss wr (.slice (some ⟨g, q * 4, none⟩) 8 cp) M ∧ M.reverse = l8 T ∧ M.length ≤ 8 ∧ okT M) := Lib.hid fun cp h1 h2 => by
            have hd : (T.drop (T.length - 8)).length = 8 := by rw [List.length_drop]; omega
            refine ⟨T.drop (T.length - 8), ⟨some ⟨g, q * 4, none⟩, cp, by rw [hd], by rw [hd]; exact h1, h2, fun _ => ⟨g, q * 4, rfl, ?_⟩⟩, l8_drop T, by omega, HT.out.drop _⟩
            rw [hq, Nat.add_sub_cancel] at LD
            rw [hq, Nat.add_sub_cancel]
            exact LD
          rw [hq] at d hc1 ⊢
          have d1 : decide (8 < ((q + 8 : Nat) : Int)) = true := decide_eq_true (by omega)
          have d2 : decide (8 < q + 8) = true := decide_eq_true d
          have q0 : (0 : Int) ≤ (q : Int) := by omega
          have q1 : (q : Int) ≤ 4398046510976 := by have := HL.out; omega
          have q2 : (q : Int) + 8 ≤ (lc : Int) := by omega
          have q3 : (lc : Int) ≤ 9223372036854775807 := by omega
          rw [d1]
          clear hq LD hc1 d
          go_wp2_with fail
          go_meet
          exact ⟨rfl, FIN.out _ (by omega) (by omega)⟩
        · have hd : T.length ≤ 8 := by omega
          have d1 : decide (8 < (T.length : Int)) = false := decide_eq_false (by omega)
          have d2 : decide (8 < T.length) = false := decide_eq_false d
          have FIN : Hid (∃ M : List Sm, Ss wr (.slice la T.length lc) M ∧ M.reverse = l8 T ∧ M.length ≤ 8 ∧ okT M) := Lib.hid ⟨T, HO.out.ss, l8_short hd, hd, HT.out⟩
          generalize T.length = tl at *
          go_wp2_with fail
          go_meet
          exact ⟨rfl, FIN.out⟩
      obtain ⟨hwx, M, hSs, hrev, hM8, hM⟩ := hcut
      subst hwx
      rename World => wx
      rw [← hrev] at HF
      have HSM := Lib.hid hSs
      have HMM := Lib.hid hM
      obtain ⟨a2, cap2, rfl, h1, h2, _⟩ := hSs
      have HC := Lib.hid (Count_c HF.out)
      rw [List.length_reverse] at HC
      clear hrev hM HO HT HL
      by_cases n0 : M.length = 0
      · have EM : M = [] := List.length_eq_zero_iff.1 n0
        subst EM
        have BN := Lib.hid (Best_no (p := some ⟨F, 0, none⟩) (now := more) (ppm := ppm) (k := 5) (w := wx) rfl (fun w' q => refusal_none (show Fm w' F [] from HF.out.below q) more ppm))
        replace BN : Hid (Calls Try.prog 9 #[.pointer (some ⟨F, 0, none⟩), .int .i64 more, .int .i64 ppm] wx fun e w' => e = .returned (.tuple #[.agg #[.int .i64 0, .int .i64 0, .int .i64 0, .int .i64 0], .int .i64 5]) ∧ Below wx.heap.size wx w') := BN
        replace HC : Hid (Calls Try.prog 8 #[.pointer (some ⟨F, 0, none⟩)] wx fun e w' => e = .returned (.int .i64 0) ∧ w' = wx) := HC
        go_wp2_with fail
        refine HC.out.mono ?_
        rintro e w5 ⟨rfl, rfl⟩
        go_wp2_with fail
        refine BN.out.mono ?_
        rintro e w6 ⟨rfl, hb⟩
        have B6 := Lib.hid (balloc (bstep HB.out hb) (.cells #[.int .i64 0, .int .i64 0, .int .i64 0, .int .i64 0] 30))
        clear hb
        go_wp2_with fail
        go_ret
        exact ⟨rfl, B6.out⟩
      · obtain ⟨q, hq⟩ : ∃ q, M.length = q + 1 := ⟨M.length - 1, by omega⟩
        obtain ⟨x, hx⟩ : ∃ x, M[q]? = some x := ⟨_, List.getElem?_eq_getElem (by omega)⟩
        have hxm := List.mem_of_getElem? hx
        obtain ⟨R, hR⟩ : ∃ R, M.reverse = x :: R := by
          cases z : M.reverse with
          | nil => have := congrArg List.length z; rw [List.length_reverse, List.length_nil] at this; omega
          | cons y R =>
            refine ⟨R, ?_⟩
            have e : M.reverse[0]? = some y := by rw [z]; rfl
            rw [List.getElem?_reverse (by omega)] at e
            rw [show M.length - 1 - 0 = q by omega, hx] at e
            cases e
            rfl
        have HMX : Hid (∀ s ∈ M, s.at' ≤ x.at') := Lib.hid (HMM.out.newest (t := x) (R := R) (by rw [← l8_short hM8]; exact hR))
        have okx := HMM.out.1 x hxm
        obtain ⟨b2, o2, rfl, LS⟩ : ∃ b off, a2 = some ⟨b, off, none⟩ ∧ Ls wx b off M := by
          obtain ⟨a', cap', ev, _, _, h3⟩ := HSM.out
          cases ev
          exact h3 (by omega)
        have LW := Lib.hid LS
        have xat := (LS.four hx).2.2.2
        have HQ := Lib.hid hq
        rw [hq] at HC h1 hM8 ⊢
        have n1 : (((q + 1 : Nat) : Int)) - 1 = (q : Int) := by omega
        have n2 : ((((q + 1 : Nat) : Int)) == 0) = false := by rw [beq_eq_false_iff_ne]; omega
        have n3 : (0 : Int) ≤ (q : Int) := by omega
        have n4 : (q : Int) ≤ 7 := by omega
        have n5 : (q : Int) < ((q + 1 : Nat) : Int) := by omega
        have n6 : (((q + 1 : Nat) : Int)) ≤ (cap2 : Int) := by omega
        have n7 : (cap2 : Int) ≤ 9223372036854775807 := by omega
        obtain ⟨p1, hp1⟩ : ∃ p, ppm.tmod 1001 = p := ⟨_, rfl⟩
        have p1b : -1001 < p1 ∧ p1 < 1001 := by
          have := Int.tmod_lt_of_pos ppm (show (0 : Int) < 1001 by decide)
          have := Int.lt_tmod_of_pos ppm (show (0 : Int) < 1001 by decide)
          omega
        obtain ⟨P, hp2⟩ : ∃ p, (p1 + 1001).tmod 1001 = p := ⟨_, rfl⟩
        have Pb : 0 ≤ P ∧ P ≤ 1000 := by
          have := Int.tmod_lt_of_pos (p1 + 1001) (show (0 : Int) < 1001 by decide)
          have := Int.tmod_nonneg 1001 (show 0 ≤ p1 + 1001 by omega)
          omega
        have wp1 : IntKind.i64.wrap p1 = p1 := wrap_in (by omega) (by omega)
        have wp2 : IntKind.i64.wrap (p1 + 1001) = p1 + 1001 := wrap_in (by omega) (by omega)
        have wp3 : IntKind.i64.wrap P = P := wrap_in (by omega) (by omega)
        obtain ⟨r1, hr1⟩ : ∃ p, more.tmod 1099511627776 = p := ⟨_, rfl⟩
        have r1b : -1099511627776 < r1 ∧ r1 < 1099511627776 := by
          have := Int.tmod_lt_of_pos more (show (0 : Int) < 1099511627776 by decide)
          have := Int.lt_tmod_of_pos more (show (0 : Int) < 1099511627776 by decide)
          omega
        obtain ⟨D, hr2⟩ : ∃ p, (r1 + 1099511627776).tmod 1099511627776 = p := ⟨_, rfl⟩
        have Db : 0 ≤ D ∧ D ≤ 1099511627776 := by
          have := Int.tmod_lt_of_pos (r1 + 1099511627776) (show (0 : Int) < 1099511627776 by decide)
          have := Int.tmod_nonneg 1099511627776 (show 0 ≤ r1 + 1099511627776 by omega)
          omega
        have wr1 : IntKind.i64.wrap r1 = r1 := wrap_in (by omega) (by omega)
        have wr2 : IntKind.i64.wrap (r1 + 1099511627776) = r1 + 1099511627776 := wrap_in (by omega) (by omega)
        have wr3 : IntKind.i64.wrap D = D := wrap_in (by omega) (by omega)
        obtain ⟨_, _, _, xa0, xa1⟩ := okx
        obtain ⟨xt, hxt⟩ : ∃ t, x.at' = t := ⟨_, rfl⟩
        rw [hxt] at xat xa0 xa1
        have wn : IntKind.i64.wrap (xt + D) = xt + D := wrap_in (by omega) (by omega)
        obtain ⟨now, hnow⟩ : ∃ n, xt + D = n := ⟨_, rfl⟩
        have HNOW := Lib.hid hnow
        have wn2 : IntKind.i64.wrap now = now := hnow ▸ wn
        clear LS n0 hxm
        go_wp2_with fail
        refine HC.out.mono ?_
        rintro e w5 ⟨rfl, rfl⟩
        go_wp2_with fail
        rw [hR] at HF
        have HRV := Lib.hid hR
        have HXT := Lib.hid hxt
        by_cases big : 288230376151711744 < now
        · have BN := Lib.hid (Best_no (p := some ⟨F, 0, none⟩) (now := now) (ppm := P) (k := 2) (w := w5) rfl (fun w' q => by
            have := refusal_some (HF.out.below q) now P
            rwa [if_neg (fun z => by have := z.2.1; omega)] at this))
          replace BN : Hid (Calls Try.prog 9 #[.pointer (some ⟨F, 0, none⟩), .int .i64 now, .int .i64 P] w5 fun e w' => e = .returned (.tuple #[.agg #[.int .i64 0, .int .i64 0, .int .i64 0, .int .i64 0], .int .i64 2]) ∧ Below w5.heap.size w5 w') := BN
          have bg : decide (288230376151711744 < now) = true := decide_eq_true big
          refine BN.out.mono ?_
          rintro e w6 ⟨rfl, hb⟩
          have B6 := Lib.hid (balloc (bstep HB.out hb) (.cells #[.int .i64 0, .int .i64 0, .int .i64 0, .int .i64 0] 30))
          clear hb
          go_wp2_with fail
          go_ret
          exact ⟨rfl, B6.out⟩
        · have bg : decide (288230376151711744 < now) = false := decide_eq_false big
          have ALL : Hid (∀ s ∈ x :: R, okSm s ∧ s.at' ≤ now) := Lib.hid fun s hs => by
            have hs' : s ∈ M := by rw [← HRV.out] at hs; simpa using hs
            have := HMX.out s hs'
            exact ⟨HMM.out.1 s hs', by rw [HXT.out] at this; have := HNOW.out; omega⟩
          have ON : Hid (okN now P) := Lib.hid (by have := HNOW.out; unfold okN; omega)
          have BC := Lib.hid (Best_c HF.out (by simp) now P ALL.out ON.out)
          have JC := Lib.hid (fun (w' : World) (q : Below w5.heap.size w5 w') => Jitter_c (HF.out.below q) (by simp) now P ALL.out ON.out)
          have jr := jit_range (now := now) (ppm := P) (L := x :: R) (fun s hs => (ALL.out s hs).1) (by simp) HF.out.len
          have sr := spr_range (now := now) (ppm := P) (L := x :: R) ALL.out Pb.1
          have bm := best_mem (now := now) (ppm := P) (L := x :: R) (by simp)
          have BL : Hid (∀ s ∈ M, ds now P (best now P (x :: R)) ≤ ds now P s) := Lib.hid fun s hs => best_le (by rw [← HRV.out]; simpa using hs)
          have BM : Hid (best now P (x :: R) ∈ M) := Lib.hid (by rw [← HRV.out] at bm ⊢; simpa using bm)
          have ALM : Hid (∀ s ∈ M, okSm s ∧ s.at' ≤ now) := Lib.hid fun s hs => ALL.out s (by rw [← HRV.out]; simpa using hs)
          generalize jit now P (x :: R) = ji at *
          generalize spr now P (x :: R) = si at *
          generalize best now P (x :: R) = y at *
          clear bm ALL HRV HXT xat hx
          have ky := (ALM.out y BM.out).1
          have ay := agE_range (d := now - y.at') (p := P) (by have := (ALM.out y BM.out).2; omega) Pb.1
          have DY : Hid (ds now P y = min (y.del / 2 + (y.dis + agE (now - y.at') P)) 1099511627776) := Lib.hid (by unfold ds ag; rw [Int.add_assoc])
          have EY : Hid (SV (aged now P y) = .agg #[.int .i64 y.off, .int .i64 y.del, .int .i64 (y.dis + agE (now - y.at') P), .int .i64 y.at']) := Lib.hid rfl
          rw [EY.out] at BC
          generalize agE (now - y.at') P = ga at *
          clear EY
          refine BC.out.mono ?_
          rintro e w6 ⟨rfl, hb⟩
          have KB := Lib.hid (balloc hb (.cells #[.int .i64 y.off, .int .i64 y.del, .int .i64 (y.dis + ga), .int .i64 y.at'] 30))
          have NY := Lib.hid (new4 w6 y.off y.del (y.dis + ga) y.at' 30)
          clear hb BC
          go_wp2_with fail
          obtain ⟨sd, hsd⟩ : ∃ d, y.dis + ga = d := ⟨_, rfl⟩
          have HSD := Lib.hid hsd
          rw [hsd] at NY KB DY
          obtain ⟨sb, hsb⟩ : ∃ b, w6.heap.size = b := ⟨_, rfl⟩
          rw [hsb] at NY
          have sdr : 0 ≤ sd ∧ sd ≤ 1168231104512 := by have := ky.2.2.1; omega
          obtain ⟨yo, yl, yd, yt⟩ := y
          simp only at NY KB DY hsd ky HSD ⊢
          rw [hsd, hsb]
          generalize w6.alloc (.cells #[.int .i64 yo, .int .i64 yl, .int .i64 sd, .int .i64 yt] 30) = ws at *
          go_loopw [15, 16] (fun hv iv wr => ∃ i : Nat, i ≤ q + 1 ∧ iv = .int .i64 (i : Nat) ∧ hv = .bool ((M.take i).any (mtc ⟨yo, yl, yd, yt⟩ sd)) ∧ Below ws.heap.size ws wr) (fun _ iv _ => q + 1 - (intOf iv).toNat)
          case atStart => exact ⟨0, by omega, rfl, rfl, brefl ws⟩
          case round =>
            obtain ⟨i, hi, rfl, rfl, hb⟩ := hrel
            rename World => wt
            have WB := Lib.hid hb
            clear hb
            by_cases ci : i < q + 1
            · have e1 : decide ((i : Int) < ((q + 1 : Nat) : Int)) = true := decide_eq_true (by omega)
              have e2 : decide (i < q + 1) = true := decide_eq_true ci
              have i1 : (i : Int) < ((q + 1 : Nat) : Int) := by omega
              have i2 : IntKind.i64.wrap ((i : Int) + 1) = (i : Int) + 1 := wrap_in (by omega) (by omega)
              obtain ⟨z, hz⟩ : ∃ z, M[i]? = some z := ⟨_, List.getElem?_eq_getElem (by rw [HQ.out]; exact ci)⟩
              have hzm := List.mem_of_getElem? hz
              have ANY := Lib.hid (any_snoc hz (mtc ⟨yo, yl, yd, yt⟩ sd))
              have kz := (ALM.out z hzm).1
              have BZ := Lib.hid (BL.out z hzm)
              have DC := Lib.hid (fun w => rDistance_c z now P w (ALM.out z hzm).1 (ALM.out z hzm).2 ON.out)
              obtain ⟨y0, y1, y2, y3⟩ := (LW.out.below (bstep KB.out WB.out)).four hz
              have DZ := ds_range (ALM.out z hzm).1 (ALM.out z hzm).2 (ppm := P) Pb.1
              generalize ds now P z = dz at *
              obtain ⟨xo, xl, xd, xt2⟩ := z
              simp only at y0 y1 y2 y3 kz
              replace DC : Hid (∀ w, Calls Try.prog 10 #[.agg #[.int .i64 xo, .int .i64 xl, .int .i64 xd, .int .i64 xt2], .int .i64 now, .int .i64 P] w fun e w' => e = .returned (.int .i64 dz) ∧ Below w.heap.size w w') := DC
              obtain ⟨kz0, kz1, kz2, kz3⟩ := (show (-68719476736 ≤ xo ∧ xo ≤ 68719476736) ∧ (0 ≤ xl ∧ xl ≤ 68719476736) ∧ (0 ≤ xd ∧ xd ≤ 68719476736) ∧ (0 ≤ xt2 ∧ xt2 ≤ 288230376151711744) from kz)
              obtain ⟨ky0, ky1, ky2, ky3⟩ := (show (-68719476736 ≤ yo ∧ yo ≤ 68719476736) ∧ (0 ≤ yl ∧ yl ≤ 68719476736) ∧ (0 ≤ yd ∧ yd ≤ 68719476736) ∧ (0 ≤ yt ∧ yt ≤ 288230376151711744) from ky)
              have wg : IntKind.i64.wrap (sd - xd) = sd - xd := wrap_in (by omega) (by omega)
              obtain ⟨hl, hhl⟩ : ∃ h, yl.tdiv 2 = h := ⟨_, rfl⟩
              have hlr : hl = yl / 2 := by rw [← hhl, Int.tdiv_eq_ediv_of_nonneg ky1.1]
              have hlb : 0 ≤ hl ∧ hl ≤ 34359738368 := by omega
              obtain ⟨hl0, hl1⟩ := hlb
              have HLR := Lib.hid hlr
              clear hlr
              have wh : IntKind.i64.wrap hl = hl := wrap_in (by omega) (by omega)
              have wh2 : IntKind.i64.wrap (hl + sd) = hl + sd := wrap_in (by omega) (by omega)
              obtain ⟨mn, hmn⟩ : ∃ mn, min (hl + sd) 1099511627776 = mn := ⟨_, rfl⟩
              have cmpz : decide (dz < mn) = false := by
                rw [decide_eq_false_iff_not]
                have := BZ.out
                rw [DY.out, ← HLR.out, hmn] at this
                omega
              have NZ := Lib.hid (new4 wt xo xl xd xt2 30)
              have BA := Lib.hid (balloc (brefl wt) (.cells #[.int .i64 xo, .int .i64 xl, .int .i64 xd, .int .i64 xt2] 30))
              have sbl : sb < wt.heap.size := Nat.lt_of_lt_of_le NY.out.1 WB.out.size
              go_upto_region 30 with fail
              clear y0 y1 y2 y3 hz
              generalize wt.alloc (.cells #[.int .i64 xo, .int .i64 xl, .int .i64 xd, .int .i64 xt2] 30) = wa at *
              have BW := Lib.hid (bstep WB.out BA.out)
              have KP : Hid (∀ w', Below wa.heap.size wa w' → w'.cell? ⟨wt.heap.size, 0, none⟩ = some (.int .i64 xo) ∧ w'.cell? ⟨wt.heap.size, 1, none⟩ = some (.int .i64 xl) ∧ w'.cell? ⟨wt.heap.size, 2, none⟩ = some (.int .i64 xd) ∧ w'.cell? ⟨wt.heap.size, 3, none⟩ = some (.int .i64 xt2) ∧ w'.cell? ⟨sb, 0, none⟩ = some (.int .i64 yo) ∧ w'.cell? ⟨sb, 1, none⟩ = some (.int .i64 yl) ∧ w'.cell? ⟨sb, 2, none⟩ = some (.int .i64 sd) ∧ w'.cell? ⟨sb, 3, none⟩ = some (.int .i64 yt)) := Lib.hid fun w' k => by
                obtain ⟨a0, a1, a2, a3⟩ := blk4 NZ.out k
                obtain ⟨c0, c1, c2, c3⟩ := blk4 NY.out (bstep BW.out k)
                exact ⟨a0, a1, a2, a3, c0, c1, c2, c3⟩
              obtain ⟨a0, a1, a2, a3, c0, c1, c2, c3⟩ := KP.out wa (brefl wa)
              obtain ⟨H, hH⟩ : ∃ H, (M.take i).any (mtc ⟨yo, yl, yd, yt⟩ sd) = H := ⟨_, rfl⟩
              rw [hH]
              rw [hH] at ANY
              clear hH
              unfold mtc at ANY
              simp only at ANY
              cases H with
              | true =>
                have AE : Hid ((M.take (i + 1)).any (mtc ⟨yo, yl, yd, yt⟩ sd) = true) := Lib.hid (by unfold mtc; simp only; rw [ANY.out]; simp )
                go_upto_region 32 with fail
                clear a0 a1 a2 a3 c0 c1 c2 c3
                have hb0 : Below wa.heap.size wa wa.drew := (brefl wa).drew
                go_region_held3 (fun w' => w'.cell? ⟨wt.heap.size, 0, none⟩ = some (.int .i64 xo) ∧ w'.cell? ⟨wt.heap.size, 1, none⟩ = some (.int .i64 xl) ∧ w'.cell? ⟨wt.heap.size, 2, none⟩ = some (.int .i64 xd) ∧ w'.cell? ⟨wt.heap.size, 3, none⟩ = some (.int .i64 xt2) ∧ w'.cell? ⟨sb, 0, none⟩ = some (.int .i64 yo) ∧ w'.cell? ⟨sb, 1, none⟩ = some (.int .i64 yl) ∧ w'.cell? ⟨sb, 2, none⟩ = some (.int .i64 sd) ∧ w'.cell? ⟨sb, 3, none⟩ = some (.int .i64 yt))
                  (first | exact KP.out _ (by assumption))
                  (first | (go_at_call 10; (with_reducible refine (DC.out _).mono ?_); rintro e w' ⟨rfl, hb⟩; replace hb := bstep (a := wa) (by assumption) hb))
                all_goals (go_wp2_with fail)
                all_goals exact ⟨⟨i + 1, by omega, by go_num, by rw [AE.out], bstep BW.out (by assumption)⟩, by simp [intOf]; omega⟩
              | false =>
                cases eo : (xo == yo) with
                | false =>
                  have AE : Hid ((M.take (i + 1)).any (mtc ⟨yo, yl, yd, yt⟩ sd) = false) := Lib.hid (by unfold mtc; simp only; rw [ANY.out]; simp [eo])
                  go_upto_region 32 with fail
                  clear a0 a1 a2 a3 c0 c1 c2 c3
                  have hb0 : Below wa.heap.size wa wa.drew := (brefl wa).drew
                  go_region_held3 (fun w' => w'.cell? ⟨wt.heap.size, 0, none⟩ = some (.int .i64 xo) ∧ w'.cell? ⟨wt.heap.size, 1, none⟩ = some (.int .i64 xl) ∧ w'.cell? ⟨wt.heap.size, 2, none⟩ = some (.int .i64 xd) ∧ w'.cell? ⟨wt.heap.size, 3, none⟩ = some (.int .i64 xt2) ∧ w'.cell? ⟨sb, 0, none⟩ = some (.int .i64 yo) ∧ w'.cell? ⟨sb, 1, none⟩ = some (.int .i64 yl) ∧ w'.cell? ⟨sb, 2, none⟩ = some (.int .i64 sd) ∧ w'.cell? ⟨sb, 3, none⟩ = some (.int .i64 yt))
                    (first | exact KP.out _ (by assumption))
                    (first | (go_at_call 10; (with_reducible refine (DC.out _).mono ?_); rintro e w' ⟨rfl, hb⟩; replace hb := bstep (a := wa) (by assumption) hb))
                  all_goals (go_wp2_with fail)
                  all_goals exact ⟨⟨i + 1, by omega, by go_num, by rw [AE.out], bstep BW.out (by assumption)⟩, by simp [intOf]; omega⟩
                | true =>
                  cases el : (xl == yl) with
                  | false =>
                    have AE : Hid ((M.take (i + 1)).any (mtc ⟨yo, yl, yd, yt⟩ sd) = false) := Lib.hid (by unfold mtc; simp only; rw [ANY.out]; simp [eo, el])
                    go_upto_region 32 with fail
                    clear a0 a1 a2 a3 c0 c1 c2 c3
                    have hb0 : Below wa.heap.size wa wa.drew := (brefl wa).drew
                    go_region_held3 (fun w' => w'.cell? ⟨wt.heap.size, 0, none⟩ = some (.int .i64 xo) ∧ w'.cell? ⟨wt.heap.size, 1, none⟩ = some (.int .i64 xl) ∧ w'.cell? ⟨wt.heap.size, 2, none⟩ = some (.int .i64 xd) ∧ w'.cell? ⟨wt.heap.size, 3, none⟩ = some (.int .i64 xt2) ∧ w'.cell? ⟨sb, 0, none⟩ = some (.int .i64 yo) ∧ w'.cell? ⟨sb, 1, none⟩ = some (.int .i64 yl) ∧ w'.cell? ⟨sb, 2, none⟩ = some (.int .i64 sd) ∧ w'.cell? ⟨sb, 3, none⟩ = some (.int .i64 yt))
                      (first | exact KP.out _ (by assumption))
                      (first | (go_at_call 10; (with_reducible refine (DC.out _).mono ?_); rintro e w' ⟨rfl, hb⟩; replace hb := bstep (a := wa) (by assumption) hb))
                    all_goals (go_wp2_with fail)
                    all_goals exact ⟨⟨i + 1, by omega, by go_num, by rw [AE.out], bstep BW.out (by assumption)⟩, by simp [intOf]; omega⟩
                  | true =>
                    cases et : (xt2 == yt) with
                    | false =>
                      have AE : Hid ((M.take (i + 1)).any (mtc ⟨yo, yl, yd, yt⟩ sd) = false) := Lib.hid (by unfold mtc; simp only; rw [ANY.out]; simp [eo, el, et])
                      go_upto_region 32 with fail
                      clear a0 a1 a2 a3 c0 c1 c2 c3
                      have hb0 : Below wa.heap.size wa wa.drew := (brefl wa).drew
                      go_region_held3 (fun w' => w'.cell? ⟨wt.heap.size, 0, none⟩ = some (.int .i64 xo) ∧ w'.cell? ⟨wt.heap.size, 1, none⟩ = some (.int .i64 xl) ∧ w'.cell? ⟨wt.heap.size, 2, none⟩ = some (.int .i64 xd) ∧ w'.cell? ⟨wt.heap.size, 3, none⟩ = some (.int .i64 xt2) ∧ w'.cell? ⟨sb, 0, none⟩ = some (.int .i64 yo) ∧ w'.cell? ⟨sb, 1, none⟩ = some (.int .i64 yl) ∧ w'.cell? ⟨sb, 2, none⟩ = some (.int .i64 sd) ∧ w'.cell? ⟨sb, 3, none⟩ = some (.int .i64 yt))
                        (first | exact KP.out _ (by assumption))
                        (first | (go_at_call 10; (with_reducible refine (DC.out _).mono ?_); rintro e w' ⟨rfl, hb⟩; replace hb := bstep (a := wa) (by assumption) hb))
                      all_goals (go_wp2_with fail)
                      all_goals exact ⟨⟨i + 1, by omega, by go_num, by rw [AE.out], bstep BW.out (by assumption)⟩, by simp [intOf]; omega⟩
                    | true =>
                      cases eg : decide (xd ≤ sd) with
                      | false =>
                        have eg2 : decide (0 ≤ sd - xd) = false := decide_eq_false (by have := of_decide_eq_false eg; omega)
                        have AE : Hid ((M.take (i + 1)).any (mtc ⟨yo, yl, yd, yt⟩ sd) = false) := Lib.hid (by unfold mtc; simp only; rw [ANY.out]; simp [eo, el, et]; have := of_decide_eq_false eg; omega)
                        go_upto_region 32 with fail
                        clear a0 a1 a2 a3 c0 c1 c2 c3
                        have hb0 : Below wa.heap.size wa wa.drew := (brefl wa).drew
                        go_region_held3 (fun w' => w'.cell? ⟨wt.heap.size, 0, none⟩ = some (.int .i64 xo) ∧ w'.cell? ⟨wt.heap.size, 1, none⟩ = some (.int .i64 xl) ∧ w'.cell? ⟨wt.heap.size, 2, none⟩ = some (.int .i64 xd) ∧ w'.cell? ⟨wt.heap.size, 3, none⟩ = some (.int .i64 xt2) ∧ w'.cell? ⟨sb, 0, none⟩ = some (.int .i64 yo) ∧ w'.cell? ⟨sb, 1, none⟩ = some (.int .i64 yl) ∧ w'.cell? ⟨sb, 2, none⟩ = some (.int .i64 sd) ∧ w'.cell? ⟨sb, 3, none⟩ = some (.int .i64 yt))
                          (first | exact KP.out _ (by assumption))
                          (first | (go_at_call 10; (with_reducible refine (DC.out _).mono ?_); rintro e w' ⟨rfl, hb⟩; replace hb := bstep (a := wa) (by assumption) hb))
                        all_goals (go_wp2_with fail)
                        all_goals exact ⟨⟨i + 1, by omega, by go_num, by rw [AE.out], bstep BW.out (by assumption)⟩, by simp [intOf]; omega⟩
                      | true =>
                        have eg2 : decide (0 ≤ sd - xd) = true := decide_eq_true (by have := of_decide_eq_true eg; omega)
                        have AE : Hid ((M.take (i + 1)).any (mtc ⟨yo, yl, yd, yt⟩ sd) = true) := Lib.hid (by unfold mtc; simp only; rw [ANY.out]; simp [eo, el, et]; exact of_decide_eq_true eg)
                        go_upto_region 32 with fail
                        clear a0 a1 a2 a3 c0 c1 c2 c3
                        have hb0 : Below wa.heap.size wa wa.drew := (brefl wa).drew
                        go_region_held3 (fun w' => w'.cell? ⟨wt.heap.size, 0, none⟩ = some (.int .i64 xo) ∧ w'.cell? ⟨wt.heap.size, 1, none⟩ = some (.int .i64 xl) ∧ w'.cell? ⟨wt.heap.size, 2, none⟩ = some (.int .i64 xd) ∧ w'.cell? ⟨wt.heap.size, 3, none⟩ = some (.int .i64 xt2) ∧ w'.cell? ⟨sb, 0, none⟩ = some (.int .i64 yo) ∧ w'.cell? ⟨sb, 1, none⟩ = some (.int .i64 yl) ∧ w'.cell? ⟨sb, 2, none⟩ = some (.int .i64 sd) ∧ w'.cell? ⟨sb, 3, none⟩ = some (.int .i64 yt))
                          (first | exact KP.out _ (by assumption))
                          (first | (go_at_call 10; (with_reducible refine (DC.out _).mono ?_); rintro e w' ⟨rfl, hb⟩; replace hb := bstep (a := wa) (by assumption) hb))
                        all_goals (go_wp2_with fail)
                        all_goals exact ⟨⟨i + 1, by omega, by go_num, by rw [AE.out], bstep BW.out (by assumption)⟩, by simp [intOf]; omega⟩
            · have e1 : decide ((i : Int) < ((q + 1 : Nat) : Int)) = false := decide_eq_false (by omega)
              have e2 : decide (i < q + 1) = false := decide_eq_false ci
              obtain rfl : i = q + 1 := by omega
              have HIT : Hid ((M.take (q + 1)).any (mtc ⟨yo, yl, yd, yt⟩ sd) = true) := Lib.hid (by
                rw [List.take_of_length_le (by rw [HQ.out]; exact Nat.le_refl _), List.any_eq_true]
                exact ⟨_, BM.out, by unfold mtc; simp; omega⟩)
              rw [HIT.out]
              have j0 : decide (0 ≤ ji) = true := decide_eq_true jr.1
              have j1 : decide (ji ≤ 137438953472) = true := decide_eq_true jr.2
              have s0 : decide (0 ≤ si) = true := decide_eq_true sr.1
              have s1 : decide (si ≤ 1099511627776) = true := decide_eq_true sr.2
              have JD := Lib.hid (JC.out _ (bstep KB.out WB.out))
              have BE := Lib.hid (bstep HB.out (bstep KB.out WB.out))
              go_wp2_with fail
              refine JD.out.mono ?_
              rintro e w8 ⟨rfl, hb⟩
              have B8 := Lib.hid (bstep BE.out hb)
              clear hb JC JD
              go_wp2_with fail
              go_ret
              exact ⟨rfl, B8.out⟩
set_option maxRecDepth 100000 in
theorem lifted (os : Os) (started : os.Started) (H : Type) (enc : TypeId × Value → H) :
    ReturnsInHanded {} Try.checked os 3 .any (Rows.filtLeastSpec.pre6 enc Try.prog Try.f3 Rows.filtLeastRow.domain false) (Rows.filtLeastSpec.post enc Try.prog Try.f3 false true false false) := by
  refine returnsInHanded_of_change_sized (C := Try.checked) own started (by kernel_rfl) Try.func3
    (ChangeSpec.witness6 (enc := enc) (C := Try.checked) false ⟨#[], #[.slice none 0 0, .int .i64 0, .int .i64 0], []⟩ 8 (by kernel_rfl) (by kernel_rfl) (by kernel_rfl) (by kernel_rfl)) ?_
  intro W base args ds gs before hval0 hW hcnd hsz0 _
  have hsz : (DataW.weightsEach Try.prog (Try.f3.params.toList ++ Rows.filtLeastSpec.plain.varTypes Try.prog) (ds ++ gs)).all (· ≤ reachBytes) = true := hsz0
  have hval : ∀ (j : Nat) t v, Try.f3.params[j]? = some t → args[j]? = some v → Value.okWide Try.prog W .any base t v := hval0
  have hW' := hW
  obtain ⟨p, q, hA0, hV, rfl, hfz, hnd⟩ := hW
  have hA : DataW.TrodAll enc Try.prog W 0 (fun _ => true) true Try.f3.params.toList args.toList ds p := hA0
  rw [Try.params3] at hA hval hsz
  obtain ⟨v0, vs0, d0, ds0, p0, q0, hargs, rfl, rfl, h0, r0⟩ := trodAll_cons hA
  obtain ⟨v1, vs1, d1, ds1, p1, q1, rfl, rfl, rfl, h1, r1⟩ := trodAll_cons r0
  obtain ⟨v2, vs2, d2, ds2, p2, q2, rfl, rfl, rfl, h2, r2⟩ := trodAll_cons r1
  obtain ⟨rfl, rfl, rfl⟩ := trodAll_nil r2
  obtain rfl : args = #[v0, v1, v2] := by cases args; simp_all
  obtain ⟨rfl, rfl⟩ := trodVars_none hV
  have h0k := h0
  have hlt0 : ∀ x ∈ p0, x.block < W.heap.size := fun x hx => by have := hW'.lt x (by simp [hx]); simpa using this
  have hb0 : ∀ es sp, d0 = .slice es sp → (es.length + sp.length) * Try.prog.bytesOf 30 ≤ reachBytes := by
    intro es sp he
    exact sized_slice hsz (j := 0) (t := 22) (e := 30) rfl (by rw [he]; rfl) Try.underlying22
  have h1k := h1
  have hlt1 : ∀ x ∈ p1, x.block < W.heap.size := fun x hx => by have := hW'.lt x (by simp [hx]); simpa using this
  have h2k := h2
  have hlt2 : ∀ x ∈ p2, x.block < W.heap.size := fun x hx => by have := hW'.lt x (by simp [hx]); simpa using this
  obtain ⟨L0, g0⟩ := open_sms (hval 0 22 v0 rfl rfl) h0 hb0
  obtain ⟨z1, rfl, _, _, g1⟩ := open_int Try.underlying23 (hval 1 23 v1 rfl rfl) h1
  obtain ⟨z2, rfl, _, _, g2⟩ := open_int Try.underlying3 (hval 2 3 v2 rfl rfl) h2
  clear hA0 hval0
  simp only [List.append_nil] at hW'
  refine (walk v0 L0 z1 z2 W g0 g1 g2).mono fun e W' ⟨he, hg⟩ => ?_
  subst he
  exact ⟨_, rfl, _, _, _, [], _, [], hW', trodAll_cons_mk (shut_bool Try.underlying4 _) trodAll_mk0,
    (trodAll_cons_mk (Below.trod laidOut (by kernel_rfl) (of_decide_eq_true (by kernel_rfl)) h0k hg hlt0) (trodAll_cons_mk (Below.trod laidOut (by kernel_rfl) (of_decide_eq_true (by kernel_rfl)) h1k hg hlt1) (trodAll_cons_mk (Below.trod laidOut (by kernel_rfl) (of_decide_eq_true (by kernel_rfl)) h2k hg hlt2) trodAll_mk0))), rfl, hg.frame _, fun h => nomatch h⟩

theorem over : Rows.filtLeastRow.holds Try.pinned (OpenSpec.ofChange Rows.filtLeastSpec) :=
  OpenClaim.holds_of_wide 3 Try.f3 rfl rfl rfl rfl rfl rfl rfl ⟨rfl, rfl, rfl, rfl, rfl⟩ rfl rfl rfl rfl rfl (by kernel_rfl) Try.func3 (by kernel_rfl)
    (of_decide_eq_true (by kernel_rfl)) (by unfold Func.isWrapper; first | (rw [if_pos (by decide +kernel)]; kernel_rfl) | (rw [if_neg (by decide +kernel)]; exact ⟨rfl, rfl⟩))
    (fun os started H enc _ => lifted os started H enc)

theorem proved : Rows.FiltLeastSaid :=
  over
end Go.Proofs.Ytmlnmldcjbhhjaa.filtLeast
