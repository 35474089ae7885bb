/-
  The contract of the document's Parse of hints.
  Conditions: none.
-/
import Derived.Test.YtkjolaoajbdomaaGreatDoorHiJ
import Derived.Deep.CutBlock
import Derived.Deep.CutRange
namespace Go.Proofs.YtkjolaoajbdomaaGreatDoor.Hi
open Go.ChangeShapes Go.WideShapes Go.ChangeAt Go.RowKit Go.Joins By Ct Dk
set_option linter.unusedVariables false
set_option linter.unusedSimpArgs false

theorem rdF_nil : ∀ k a, rdF k a [] = a
  | 0, _ => rfl
  | _ + 1, _ => rfl
theorem rdF_lt : ∀ (k a t : Nat) (l : List UInt8), a + 1 ≤ 10 ^ t → t + k ≤ 10 → rdF k a l + 1 ≤ 10000000000
  | 0, a, t, l, h, ht => by
    have : 10 ^ t ≤ 10 ^ 10 := Nat.pow_le_pow_right (by decide) (by omega)
    have e : (10 : Nat) ^ 10 = 10000000000 := by decide
    show a + 1 ≤ _
    omega
  | k + 1, a, t, [], h, ht => by
    have : 10 ^ t ≤ 10 ^ 10 := Nat.pow_le_pow_right (by decide) (by omega)
    have e : (10 : Nat) ^ 10 = 10000000000 := by decide
    show a + 1 ≤ _
    omega
  | k + 1, a, t, c :: r, h, ht => by
    show (if isD c then rdF k (a * 10 + (c.toNat - 48)) r else a) + 1 ≤ _
    split
    · rename_i d
      have d2 : c.toNat ≤ 57 := d.2
      exact rdF_lt k _ (t + 1) r (by rw [Nat.pow_succ]; omega) (by omega)
    · have : 10 ^ t ≤ 10 ^ 10 := Nat.pow_le_pow_right (by decide) (by omega)
      have e : (10 : Nat) ^ 10 = 10000000000 := by decide
      omega
/-- as far as the j-th byte: the number so far is a, and what it comes to is R. -/
def Rd (b : List UInt8) (at_ : Nat) (R t a : Nat) : Prop := t ≤ 10 ∧ at_ + t ≤ max at_ b.length ∧ rdF (10 - t) a (b.drop (at_ + t)) = R ∧ a + 1 ≤ 10 ^ t
theorem Rd.start (b : List UInt8) (at_ : Nat) : Rd b at_ (rdF 10 0 (b.drop at_)) 0 0 := ⟨by omega, by omega, rfl, by decide⟩
theorem Rd.small {b : List UInt8} {p R t a : Nat} (h : Rd b p R t a) : a < 10000000000 := by
  have h4 := h.2.2.2
  have : 10 ^ t ≤ 10 ^ 10 := Nat.pow_le_pow_right (by decide) h.1
  have e : (10 : Nat) ^ 10 = 10000000000 := by decide
  omega
theorem Rd.step {b : List UInt8} {p R t a : Nat} {c : UInt8} (h : Rd b p R t a) (ht : t < 10) (hc : b[p + t]? = some c) (hd : isD c) : Rd b p R (t + 1) (a * 10 + (c.toNat - 48)) := by
  obtain ⟨h1, h2, h3, h4⟩ := h
  have hl := (List.getElem?_eq_some_iff.1 hc).1
  have e : b.drop (p + t) = c :: b.drop (p + t + 1) := by
    rw [List.drop_eq_getElem_cons hl]
    congr 1
    have := (List.getElem?_eq_some_iff.1 hc).2
    exact this
  refine ⟨by omega, by omega, ?_, ?_⟩
  · rw [e, show 10 - t = (10 - (t + 1)) + 1 by omega] at h3
    have h3' : (if isD c then rdF (10 - (t + 1)) (a * 10 + (c.toNat - 48)) (b.drop (p + t + 1)) else a) = R := h3
    rw [if_pos hd] at h3'
    exact h3'
  · have d2 : c.toNat ≤ 57 := hd.2
    rw [Nat.pow_succ]
    omega
theorem Rd.stop {b : List UInt8} {p R t a : Nat} (h : Rd b p R t a) (hs : t = 10 ∨ b.length ≤ p + t ∨ ∃ c, b[p + t]? = some c ∧ ¬ isD c) : a = R := by
  obtain ⟨h1, h2, h3, h4⟩ := h
  rcases hs with rfl | q | ⟨c, hc, hd⟩
  · exact h3
  · rw [List.drop_eq_nil_of_le q, rdF_nil] at h3
    exact h3
  · by_cases ht : t = 10
    · subst ht; exact h3
    · have hl := (List.getElem?_eq_some_iff.1 hc).1
      have e : b.drop (p + t) = c :: b.drop (p + t + 1) := by
        rw [List.drop_eq_getElem_cons hl]
        congr 1
        exact (List.getElem?_eq_some_iff.1 hc).2
      rw [e, show 10 - t = (10 - (t + 1)) + 1 by omega] at h3
      have h3' : (if isD c then rdF (10 - (t + 1)) (a * 10 + (c.toNat - 48)) (b.drop (p + t + 1)) else a) = R := h3
      rw [if_neg hd] at h3'
      exact h3'
theorem bt_at {l : List Nat} (h8 : ∀ x ∈ l, x < 256) {j : Nat} (hj : j < l.length) : (bt l)[j]? = some (UInt8.ofNat (l.getD j 0)) ∧ (UInt8.ofNat (l.getD j 0)).toNat = l.getD j 0 := by
  have hx : l.getD j 0 < 256 := getD_byte h8 j
  refine ⟨?_, by rw [UInt8.toNat_ofNat']; omega⟩
  rw [bt, List.getElem?_map, List.getD_eq_getElem?_getD, List.getElem?_eq_getElem hj]
  rfl
theorem bt_len (l : List Nat) : (bt l).length = l.length := by simp [bt]
theorem bt_getD {l : List Nat} (h8 : ∀ x ∈ l, x < 256) (j : Nat) : ((bt l).getD j 0).toNat = l.getD j 0 := by
  by_cases hj : j < l.length
  · rw [List.getD_eq_getElem?_getD, (bt_at h8 hj).1]
    exact (bt_at h8 hj).2
  · rw [List.getD_eq_getElem?_getD, List.getD_eq_getElem?_getD, List.getElem?_eq_none (by rw [bt_len]; omega), List.getElem?_eq_none (by omega)]
    rfl
set_option maxRecDepth 100000 in
set_option maxHeartbeats 8000000 in
theorem rParse_c {w : World} {v : Value} {l : List Nat} (S : Sl w v l) :
    Calls Tryz.prog 30 #[v] w fun e w' => e = .returned (.tuple #[.int .i64 (prs (bt l)).1, .int .i64 (prs (bt l)).2]) ∧ Below w.heap.size w w' := by
  obtain ⟨da, dc, rfl⟩ := S.form
  have HS := Lib.hid S
  have CV := S.conv (brefl w)
  have LL := S.1
  have LB : (bt l).length = l.length := bt_len l
  have H8 := Lib.hid S.2.1
  have CE : Hid (∀ j, j < l.length → ∃ b off, da = some ⟨b, off, none⟩ ∧ b < w.heap.size ∧ w.cell? ⟨b, off + j, none⟩ = some (.int .u8 (l.getD j 0 : Nat))) := Lib.hid (fun j hj => by
    obtain ⟨_, _, _, _, e, h2, h3, h4, h5, h6⟩ := S
    cases e
    obtain ⟨b, off, ea, B⟩ := h5 (by omega)
    exact ⟨b, off, ea, B.1, B.2.2 j hj⟩)
  have DC : l.length ≤ dc ∧ dc ≤ 9223372036854775807 := by
    obtain ⟨_, _, _, _, e, h2, h3, _⟩ := S
    cases e
    exact ⟨h2, by omega⟩
  have i1 : (l.length : Int) ≤ (dc : Int) := by omega
  have i2 : (dc : Int) ≤ 9223372036854775807 := by omega
  obtain ⟨⟨r1, r2⟩, hR⟩ : ∃ R, prs (bt l) = R := ⟨_, rfl⟩
  rw [hR]
  have HR := Lib.hid hR
  clear hR S
  dsimp only
  go_enter Tryz.func30, Tryz.ntmps30
  by_cases c6 : 6 < l.length
  · have g1 : decide ((6 : Int) < (l.length : Int)) = true := decide_eq_true (by omega)
    have g1' : decide (6 < l.length) = true := decide_eq_true c6
    obtain ⟨b, off, rfl, hb, c0⟩ := CE.out 6 c6
    have e6 : (6 : Int) < (l.length : Int) := by omega
    by_cases m : l.getD 6 0 = 45
    · have HM := Lib.hid m
      rw [m] at c0
      clear m
      go_upto_block 0 with fail
      clear g1 g1' c0 e6 hb
      obtain ⟨R, hRR⟩ : ∃ R, rdF 10 0 ((bt l).drop 7) = R := ⟨_, rfl⟩
      have RS := Lib.hid (Rd.start (bt l) 7)
      rw [hRR] at RS
      have RE := Lib.hid hRR
      clear hRR
      go_cut [4, 7] from 25 to 59 (fun nv iv wx => wx = w ∧ nv = .int .i64 (R : Nat))
      case first =>
        go_wp2_with fail
        go_loopw [4, 7] (fun nv iv wr => ∃ t a : Nat, nv = .int .i64 a ∧ iv = .int .i64 ((7 + t : Nat) : Int) ∧ wr = w ∧ Rd (bt l) 7 R t a) (fun _ iv _ => l.length - (intOf iv).toNat)
        case atStart => exact ⟨0, 0, rfl, rfl, rfl, RS.out⟩
        case round =>
          obtain ⟨t, a, rfl, rfl, rfl, hr⟩ := hrel
          have RD := Lib.hid hr
          have sa := hr.small
          have t10 := hr.1
          obtain ⟨K, hK⟩ : ∃ K, 7 + t = K := ⟨_, rfl⟩
          rw [hK]
          have HK := Lib.hid hK
          have t11 : t < 10 ↔ (K : Int) < 17 := by omega
          have lK : 7 ≤ K := by omega
          clear hr RS hK
          by_cases q1 : K < l.length
          · have f1 : decide ((K : Int) < (l.length : Int)) = true := decide_eq_true (by omega)
            have f1' : decide (K < l.length) = true := decide_eq_true q1
            by_cases q2 : t < 10
            · have f2 : decide ((K : Int) < 17) = true := decide_eq_true (t11.1 q2)
              obtain ⟨_, _, ea, hb, hc⟩ := CE.out K q1
              cases ea
              obtain ⟨hc1, hc2⟩ := bt_at H8.out q1
              rw [← HK.out] at hc1
              have k0 : (0 : Int) ≤ (K : Int) := by omega
              have k1 : (K : Int) < (l.length : Int) := by omega
              obtain ⟨c, hcc⟩ : ∃ c, UInt8.ofNat (l.getD K 0) = c := ⟨_, rfl⟩
              rw [HK.out, hcc] at hc1
              rw [hcc] at hc2
              obtain ⟨x, hx⟩ : ∃ x, l.getD K 0 = x := ⟨_, rfl⟩
              rw [hx] at hc hc2
              have HC1 := Lib.hid (show (bt l)[7 + t]? = some c by rw [HK.out]; exact hc1)
              have HC2 := Lib.hid hc2
              clear hc1 hc2 hcc hx
              by_cases q3 : 48 ≤ x
              · have f3 : decide ((48 : Int) ≤ (x : Int)) = true := decide_eq_true (by omega)
                by_cases q4 : x ≤ 57
                · have f4 : decide ((x : Int) ≤ 57) = true := decide_eq_true (by omega)
                  have RN := Lib.hid (RD.out.step q2 HC1.out ⟨by rw [HC2.out]; exact q3, by rw [HC2.out]; exact q4⟩)
                  rw [HC2.out] at RN
                  obtain ⟨dd, hdd⟩ : ∃ dd, x - 48 = dd := ⟨_, rfl⟩
                  rw [hdd] at RN
                  have W0 : (x : Int) - 48 = (dd : Int) := by omega
                  have W1 : IntKind.u8.wrap ((x : Int) - 48) = (dd : Int) := by
                    rw [W0]
                    simp only [IntKind.wrap, IntKind.bits, IntKind.signed]
                    simp
                    omega
                  have W1' : IntKind.u8.wrap (dd : Int) = (dd : Int) := by rw [← W0]; exact W1.trans W0.symm
                  have W1'' : IntKind.i64.wrap (dd : Int) = (dd : Int) := wrap_in (by omega) (by omega)
                  have W2 : IntKind.i64.wrap (10 * (a : Int)) = 10 * (a : Int) := wrap_in (by omega) (by omega)
                  have W3 : IntKind.i64.wrap (10 * (a : Int) + (dd : Int)) = 10 * (a : Int) + (dd : Int) := wrap_in (by omega) (by omega)
                  have W4 : 10 * (a : Int) + (dd : Int) = ((a * 10 + dd : Nat) : Int) := by omega
                  have W5 : (K : Int) + 1 = ((7 + (t + 1) : Nat) : Int) := by have := HK.out; omega
                  have W6 : IntKind.i64.wrap ((K : Int) + 1) = (K : Int) + 1 := wrap_in (by omega) (by omega)
                  have HW4 := Lib.hid W4
                  have HW5 := Lib.hid W5
                  clear W4 W5 q3 q4 hdd
                  go_wp2_with fail
                  go_roundw
                  case rel => exact ⟨t + 1, a * 10 + dd, by first | rw [HW4.out] | go_num, by first | rw [HW5.out] | go_num, by first | trivial | rfl, RN.out⟩
                  case measure => simp [intOf]; omega
                · have f4 : decide ((x : Int) ≤ 57) = false := decide_eq_false (by omega)
                  have RS2 := Lib.hid (RD.out.stop (.inr (.inr ⟨c, HC1.out, fun q => q4 (by rw [← HC2.out]; exact q.2)⟩)))
                  go_wp2_with fail
                  go_meet
                  exact ⟨rfl, by rw [RS2.out]⟩
              · have f3 : decide ((48 : Int) ≤ (x : Int)) = false := decide_eq_false (by omega)
                have RS2 := Lib.hid (RD.out.stop (.inr (.inr ⟨c, HC1.out, fun q => q3 (by rw [← HC2.out]; exact q.1)⟩)))
                go_wp2_with fail
                go_meet
                exact ⟨rfl, by rw [RS2.out]⟩
            · have f2 : decide ((K : Int) < 17) = false := decide_eq_false (fun q => q2 (t11.2 q))
              have RS2 := Lib.hid (RD.out.stop (.inl (by omega)))
              go_wp2_with fail
              go_meet
              exact ⟨rfl, by rw [RS2.out]⟩
          · have f1 : decide ((K : Int) < (l.length : Int)) = false := decide_eq_false (by omega)
            have f1' : decide (K < l.length) = false := decide_eq_false q1
            have RS2 := Lib.hid (RD.out.stop (.inr (.inl (by rw [LB]; have := HK.out; omega))))
            go_wp2_with fail
            go_meet
            exact ⟨rfl, by rw [RS2.out]⟩
      obtain ⟨hwx, rfl⟩ := hcut
      subst hwx
      have RR : rdF 10 0 ((bt l).drop 7) < 10000000000 := by have := rdF_lt 10 0 0 ((bt l).drop 7) (by decide) (by omega); omega
      have RN : rdN (bt l) = -((rdF 10 0 ((bt l).drop 7) : Nat) : Int) := by
        unfold rdN
        rw [if_pos (show (bt l).getD 6 0 = 45 from UInt8.toNat_inj.1 (by rw [bt_getD H8.out]; exact HM.out))]
      rw [RE.out] at RR RN
      clear RE RS
      have WN : IntKind.i64.wrap (-(R : Int)) = -(R : Int) := wrap_in (by omega) (by omega)
      obtain ⟨n, hn⟩ : ∃ n : Int, -(R : Int) = n := ⟨_, rfl⟩
      rw [hn] at RN
      have n1 : -10000000000 < n := by omega
      have n2 : n < 10000000000 := by omega
      rw [hn] at WN
      rename World => w
      rw [prs, RN] at HR
      have CL : min (max n (-500000)) 500000 = clampI n := by unfold clampI; omega
      cases ho : okT n with
      | false =>
        have hr : (r1, r2) = ((0 : Int), (4 : Int)) := HR.out.symm.trans (if_neg (by rw [ho]; simp))
        replace hr := Lib.hid hr
        have T := Lib.hid (rText_no w ho)
        clear CL
        go_wp2_with fail
        refine T.out.mono ?_
        rintro e w4 ⟨rfl, rfl⟩
        go_wp2_with fail
        exact bodyPost_ret (v := .tuple #[.int .i64 0, .int .i64 4]) (by simp [results, Tryz.results30, go_sem]) rfl ⟨by obtain ⟨rfl, rfl⟩ := Prod.mk.inj hr.out; rfl, brefl _⟩
      | true =>
        have T := Lib.hid (rText_c w ho)
        have TS : (By.bs8 l).data.toList = bt l := rfl
        by_cases d : txt n = bt l
        · have hr : (r1, r2) = (clampI n, (0 : Int)) := HR.out.symm.trans (if_pos ⟨ho, d⟩)
          replace hr := Lib.hid hr
          have e1 : (⟨(txt n).toArray⟩ : ByteArray) = By.bs8 l := by rw [d]; rfl
          rw [e1] at T
          have CL2 := CL
          generalize clampI n = cv at *
          clear d e1 ho TS CL
          go_wp2_with fail
          refine T.out.mono ?_
          rintro e w4 ⟨rfl, hb4⟩
          have B4 := Lib.hid hb4
          have CV4 := HS.out.conv hb4
          clear hb4 CV
          generalize By.bs8 l = sb at *
          go_wp2_with fail
          exact bodyPost_ret (v := .tuple #[.int .i64 cv, .int .i64 0]) (by simp [results, Tryz.results30, go_sem]) rfl ⟨by obtain ⟨rfl, rfl⟩ := Prod.mk.inj hr.out; rfl, B4.out⟩
        · have hr : (r1, r2) = ((0 : Int), (4 : Int)) := HR.out.symm.trans (if_neg (fun q => d q.2))
          replace hr := Lib.hid hr
          have e1 : ((⟨(txt n).toArray⟩ : ByteArray).toList == (By.bs8 l).toList) = false := by
            rw [beq_eq_false_iff_ne, ByteArray.toList_eq, ByteArray.toList_eq]
            exact d
          clear d ho TS CL
          generalize (⟨(txt n).toArray⟩ : ByteArray) = tx at *
          go_wp2_with fail
          refine T.out.mono ?_
          rintro e w4 ⟨rfl, hb4⟩
          have B4 := Lib.hid hb4
          have CV4 := HS.out.conv hb4
          clear hb4 CV
          generalize By.bs8 l = sb at *
          go_wp2_with fail
          exact bodyPost_ret (v := .tuple #[.int .i64 0, .int .i64 4]) (by simp [results, Tryz.results30, go_sem]) rfl ⟨by obtain ⟨rfl, rfl⟩ := Prod.mk.inj hr.out; rfl, B4.out⟩
    · have HM := Lib.hid m
      have g2 : (((l.getD 6 0 : Nat) : Int) == 45) = false := beq_eq_false_iff_ne.2 (by omega)
      clear m
      generalize l.getD 6 0 = x6 at c0 g2
      go_upto_block 0 with fail
      clear g1 g1' g2 c0 e6 hb
      obtain ⟨R, hRR⟩ : ∃ R, rdF 10 0 ((bt l).drop 6) = R := ⟨_, rfl⟩
      have RS := Lib.hid (Rd.start (bt l) 6)
      rw [hRR] at RS
      have RE := Lib.hid hRR
      clear hRR
      go_cut [4, 7] from 25 to 59 (fun nv iv wx => wx = w ∧ nv = .int .i64 (R : Nat))
      case first =>
        go_wp2_with fail
        go_loopw [4, 7] (fun nv iv wr => ∃ t a : Nat, nv = .int .i64 a ∧ iv = .int .i64 ((6 + t : Nat) : Int) ∧ wr = w ∧ Rd (bt l) 6 R t a) (fun _ iv _ => l.length - (intOf iv).toNat)
        case atStart => exact ⟨0, 0, rfl, rfl, rfl, RS.out⟩
        case round =>
          obtain ⟨t, a, rfl, rfl, rfl, hr⟩ := hrel
          have RD := Lib.hid hr
          have sa := hr.small
          have t10 := hr.1
          obtain ⟨K, hK⟩ : ∃ K, 6 + t = K := ⟨_, rfl⟩
          rw [hK]
          have HK := Lib.hid hK
          have t11 : t < 10 ↔ (K : Int) < 16 := by omega
          have lK : 6 ≤ K := by omega
          clear hr RS hK
          by_cases q1 : K < l.length
          · have f1 : decide ((K : Int) < (l.length : Int)) = true := decide_eq_true (by omega)
            have f1' : decide (K < l.length) = true := decide_eq_true q1
            by_cases q2 : t < 10
            · have f2 : decide ((K : Int) < 16) = true := decide_eq_true (t11.1 q2)
              obtain ⟨_, _, ea, hb, hc⟩ := CE.out K q1
              cases ea
              obtain ⟨hc1, hc2⟩ := bt_at H8.out q1
              rw [← HK.out] at hc1
              have k0 : (0 : Int) ≤ (K : Int) := by omega
              have k1 : (K : Int) < (l.length : Int) := by omega
              obtain ⟨c, hcc⟩ : ∃ c, UInt8.ofNat (l.getD K 0) = c := ⟨_, rfl⟩
              rw [HK.out, hcc] at hc1
              rw [hcc] at hc2
              obtain ⟨x, hx⟩ : ∃ x, l.getD K 0 = x := ⟨_, rfl⟩
              rw [hx] at hc hc2
              have HC1 := Lib.hid (show (bt l)[6 + t]? = some c by rw [HK.out]; exact hc1)
              have HC2 := Lib.hid hc2
              clear hc1 hc2 hcc hx
              by_cases q3 : 48 ≤ x
              · have f3 : decide ((48 : Int) ≤ (x : Int)) = true := decide_eq_true (by omega)
                by_cases q4 : x ≤ 57
                · have f4 : decide ((x : Int) ≤ 57) = true := decide_eq_true (by omega)
                  have RN := Lib.hid (RD.out.step q2 HC1.out ⟨by rw [HC2.out]; exact q3, by rw [HC2.out]; exact q4⟩)
                  rw [HC2.out] at RN
                  obtain ⟨dd, hdd⟩ : ∃ dd, x - 48 = dd := ⟨_, rfl⟩
                  rw [hdd] at RN
                  have W0 : (x : Int) - 48 = (dd : Int) := by omega
                  have W1 : IntKind.u8.wrap ((x : Int) - 48) = (dd : Int) := by
                    rw [W0]
                    simp only [IntKind.wrap, IntKind.bits, IntKind.signed]
                    simp
                    omega
                  have W1' : IntKind.u8.wrap (dd : Int) = (dd : Int) := by rw [← W0]; exact W1.trans W0.symm
                  have W1'' : IntKind.i64.wrap (dd : Int) = (dd : Int) := wrap_in (by omega) (by omega)
                  have W2 : IntKind.i64.wrap (10 * (a : Int)) = 10 * (a : Int) := wrap_in (by omega) (by omega)
                  have W3 : IntKind.i64.wrap (10 * (a : Int) + (dd : Int)) = 10 * (a : Int) + (dd : Int) := wrap_in (by omega) (by omega)
                  have W4 : 10 * (a : Int) + (dd : Int) = ((a * 10 + dd : Nat) : Int) := by omega
                  have W5 : (K : Int) + 1 = ((6 + (t + 1) : Nat) : Int) := by have := HK.out; omega
                  have W6 : IntKind.i64.wrap ((K : Int) + 1) = (K : Int) + 1 := wrap_in (by omega) (by omega)
                  have HW4 := Lib.hid W4
                  have HW5 := Lib.hid W5
                  clear W4 W5 q3 q4 hdd
                  go_wp2_with fail
                  go_roundw
                  case rel => exact ⟨t + 1, a * 10 + dd, by first | rw [HW4.out] | go_num, by first | rw [HW5.out] | go_num, by first | trivial | rfl, RN.out⟩
                  case measure => simp [intOf]; omega
                · have f4 : decide ((x : Int) ≤ 57) = false := decide_eq_false (by omega)
                  have RS2 := Lib.hid (RD.out.stop (.inr (.inr ⟨c, HC1.out, fun q => q4 (by rw [← HC2.out]; exact q.2)⟩)))
                  go_wp2_with fail
                  go_meet
                  exact ⟨rfl, by rw [RS2.out]⟩
              · have f3 : decide ((48 : Int) ≤ (x : Int)) = false := decide_eq_false (by omega)
                have RS2 := Lib.hid (RD.out.stop (.inr (.inr ⟨c, HC1.out, fun q => q3 (by rw [← HC2.out]; exact q.1)⟩)))
                go_wp2_with fail
                go_meet
                exact ⟨rfl, by rw [RS2.out]⟩
            · have f2 : decide ((K : Int) < 16) = false := decide_eq_false (fun q => q2 (t11.2 q))
              have RS2 := Lib.hid (RD.out.stop (.inl (by omega)))
              go_wp2_with fail
              go_meet
              exact ⟨rfl, by rw [RS2.out]⟩
          · have f1 : decide ((K : Int) < (l.length : Int)) = false := decide_eq_false (by omega)
            have f1' : decide (K < l.length) = false := decide_eq_false q1
            have RS2 := Lib.hid (RD.out.stop (.inr (.inl (by rw [LB]; have := HK.out; omega))))
            go_wp2_with fail
            go_meet
            exact ⟨rfl, by rw [RS2.out]⟩
      obtain ⟨hwx, rfl⟩ := hcut
      subst hwx
      have RR : rdF 10 0 ((bt l).drop 6) < 10000000000 := by have := rdF_lt 10 0 0 ((bt l).drop 6) (by decide) (by omega); omega
      have RN : rdN (bt l) = ((rdF 10 0 ((bt l).drop 6) : Nat) : Int) := by
        unfold rdN
        rw [if_neg (fun q => HM.out (by rw [← bt_getD H8.out, q]; rfl))]
      rw [RE.out] at RR RN
      clear RE RS
      have WN : IntKind.i64.wrap (-(R : Int)) = -(R : Int) := wrap_in (by omega) (by omega)
      obtain ⟨n, hn⟩ : ∃ n : Int, (R : Int) = n := ⟨_, rfl⟩
      rw [hn] at RN
      have n1 : -10000000000 < n := by omega
      have n2 : n < 10000000000 := by omega
      rw [hn]
      rename World => w
      rw [prs, RN] at HR
      have CL : min (max n (-500000)) 500000 = clampI n := by unfold clampI; omega
      cases ho : okT n with
      | false =>
        have hr : (r1, r2) = ((0 : Int), (4 : Int)) := HR.out.symm.trans (if_neg (by rw [ho]; simp))
        replace hr := Lib.hid hr
        have T := Lib.hid (rText_no w ho)
        clear CL
        go_wp2_with fail
        refine T.out.mono ?_
        rintro e w4 ⟨rfl, rfl⟩
        go_wp2_with fail
        exact bodyPost_ret (v := .tuple #[.int .i64 0, .int .i64 4]) (by simp [results, Tryz.results30, go_sem]) rfl ⟨by obtain ⟨rfl, rfl⟩ := Prod.mk.inj hr.out; rfl, brefl _⟩
      | true =>
        have T := Lib.hid (rText_c w ho)
        have TS : (By.bs8 l).data.toList = bt l := rfl
        by_cases d : txt n = bt l
        · have hr : (r1, r2) = (clampI n, (0 : Int)) := HR.out.symm.trans (if_pos ⟨ho, d⟩)
          replace hr := Lib.hid hr
          have e1 : (⟨(txt n).toArray⟩ : ByteArray) = By.bs8 l := by rw [d]; rfl
          rw [e1] at T
          have CL2 := CL
          generalize clampI n = cv at *
          clear d e1 ho TS CL
          go_wp2_with fail
          refine T.out.mono ?_
          rintro e w4 ⟨rfl, hb4⟩
          have B4 := Lib.hid hb4
          have CV4 := HS.out.conv hb4
          clear hb4 CV
          generalize By.bs8 l = sb at *
          go_wp2_with fail
          exact bodyPost_ret (v := .tuple #[.int .i64 cv, .int .i64 0]) (by simp [results, Tryz.results30, go_sem]) rfl ⟨by obtain ⟨rfl, rfl⟩ := Prod.mk.inj hr.out; rfl, B4.out⟩
        · have hr : (r1, r2) = ((0 : Int), (4 : Int)) := HR.out.symm.trans (if_neg (fun q => d q.2))
          replace hr := Lib.hid hr
          have e1 : ((⟨(txt n).toArray⟩ : ByteArray).toList == (By.bs8 l).toList) = false := by
            rw [beq_eq_false_iff_ne, ByteArray.toList_eq, ByteArray.toList_eq]
            exact d
          clear d ho TS CL
          generalize (⟨(txt n).toArray⟩ : ByteArray) = tx at *
          go_wp2_with fail
          refine T.out.mono ?_
          rintro e w4 ⟨rfl, hb4⟩
          have B4 := Lib.hid hb4
          have CV4 := HS.out.conv hb4
          clear hb4 CV
          generalize By.bs8 l = sb at *
          go_wp2_with fail
          exact bodyPost_ret (v := .tuple #[.int .i64 0, .int .i64 4]) (by simp [results, Tryz.results30, go_sem]) rfl ⟨by obtain ⟨rfl, rfl⟩ := Prod.mk.inj hr.out; rfl, B4.out⟩
  · have g1 : decide ((6 : Int) < (l.length : Int)) = false := decide_eq_false (by omega)
    have g1' : decide (6 < l.length) = false := decide_eq_false c6
    have HM : Hid (¬ l.getD 6 0 = 45) := Lib.hid (by rw [List.getD_eq_getElem?_getD, List.getElem?_eq_none (by omega)]; decide)
    go_upto_block 0 with fail
    clear g1 g1'
    obtain ⟨R, hRR⟩ : ∃ R, rdF 10 0 ((bt l).drop 6) = R := ⟨_, rfl⟩
    have RS := Lib.hid (Rd.start (bt l) 6)
    rw [hRR] at RS
    have RE := Lib.hid hRR
    clear hRR
    go_cut [4, 7] from 25 to 59 (fun nv iv wx => wx = w ∧ nv = .int .i64 (R : Nat))
    case first =>
      go_wp2_with fail
      go_loopw [4, 7] (fun nv iv wr => ∃ t a : Nat, nv = .int .i64 a ∧ iv = .int .i64 ((6 + t : Nat) : Int) ∧ wr = w ∧ Rd (bt l) 6 R t a) (fun _ iv _ => l.length - (intOf iv).toNat)
      case atStart => exact ⟨0, 0, rfl, rfl, rfl, RS.out⟩
      case round =>
        obtain ⟨t, a, rfl, rfl, rfl, hr⟩ := hrel
        have RD := Lib.hid hr
        have sa := hr.small
        have t10 := hr.1
        obtain ⟨K, hK⟩ : ∃ K, 6 + t = K := ⟨_, rfl⟩
        rw [hK]
        have HK := Lib.hid hK
        have t11 : t < 10 ↔ (K : Int) < 16 := by omega
        have lK : 6 ≤ K := by omega
        clear hr RS hK
        by_cases q1 : K < l.length
        · have f1 : decide ((K : Int) < (l.length : Int)) = true := decide_eq_true (by omega)
          have f1' : decide (K < l.length) = true := decide_eq_true q1
          by_cases q2 : t < 10
          · have f2 : decide ((K : Int) < 16) = true := decide_eq_true (t11.1 q2)
            obtain ⟨_, _, ea, hb, hc⟩ := CE.out K q1
            cases ea
            obtain ⟨hc1, hc2⟩ := bt_at H8.out q1
            rw [← HK.out] at hc1
            have k0 : (0 : Int) ≤ (K : Int) := by omega
            have k1 : (K : Int) < (l.length : Int) := by omega
            obtain ⟨c, hcc⟩ : ∃ c, UInt8.ofNat (l.getD K 0) = c := ⟨_, rfl⟩
            rw [HK.out, hcc] at hc1
            rw [hcc] at hc2
            obtain ⟨x, hx⟩ : ∃ x, l.getD K 0 = x := ⟨_, rfl⟩
            rw [hx] at hc hc2
            have HC1 := Lib.hid (show (bt l)[6 + t]? = some c by rw [HK.out]; exact hc1)
            have HC2 := Lib.hid hc2
            clear hc1 hc2 hcc hx
            by_cases q3 : 48 ≤ x
            · have f3 : decide ((48 : Int) ≤ (x : Int)) = true := decide_eq_true (by omega)
              by_cases q4 : x ≤ 57
              · have f4 : decide ((x : Int) ≤ 57) = true := decide_eq_true (by omega)
                have RN := Lib.hid (RD.out.step q2 HC1.out ⟨by rw [HC2.out]; exact q3, by rw [HC2.out]; exact q4⟩)
                rw [HC2.out] at RN
                obtain ⟨dd, hdd⟩ : ∃ dd, x - 48 = dd := ⟨_, rfl⟩
                rw [hdd] at RN
                have W0 : (x : Int) - 48 = (dd : Int) := by omega
                have W1 : IntKind.u8.wrap ((x : Int) - 48) = (dd : Int) := by
                  rw [W0]
                  simp only [IntKind.wrap, IntKind.bits, IntKind.signed]
                  simp
                  omega
                have W1' : IntKind.u8.wrap (dd : Int) = (dd : Int) := by rw [← W0]; exact W1.trans W0.symm
                have W1'' : IntKind.i64.wrap (dd : Int) = (dd : Int) := wrap_in (by omega) (by omega)
                have W2 : IntKind.i64.wrap (10 * (a : Int)) = 10 * (a : Int) := wrap_in (by omega) (by omega)
                have W3 : IntKind.i64.wrap (10 * (a : Int) + (dd : Int)) = 10 * (a : Int) + (dd : Int) := wrap_in (by omega) (by omega)
                have W4 : 10 * (a : Int) + (dd : Int) = ((a * 10 + dd : Nat) : Int) := by omega
                have W5 : (K : Int) + 1 = ((6 + (t + 1) : Nat) : Int) := by have := HK.out; omega
                have W6 : IntKind.i64.wrap ((K : Int) + 1) = (K : Int) + 1 := wrap_in (by omega) (by omega)
                have HW4 := Lib.hid W4
                have HW5 := Lib.hid W5
                clear W4 W5 q3 q4 hdd
                go_wp2_with fail
                go_roundw
                case rel => exact ⟨t + 1, a * 10 + dd, by first | rw [HW4.out] | go_num, by first | rw [HW5.out] | go_num, by first | trivial | rfl, RN.out⟩
                case measure => simp [intOf]; omega
              · have f4 : decide ((x : Int) ≤ 57) = false := decide_eq_false (by omega)
                have RS2 := Lib.hid (RD.out.stop (.inr (.inr ⟨c, HC1.out, fun q => q4 (by rw [← HC2.out]; exact q.2)⟩)))
                go_wp2_with fail
                go_meet
                exact ⟨rfl, by rw [RS2.out]⟩
            · have f3 : decide ((48 : Int) ≤ (x : Int)) = false := decide_eq_false (by omega)
              have RS2 := Lib.hid (RD.out.stop (.inr (.inr ⟨c, HC1.out, fun q => q3 (by rw [← HC2.out]; exact q.1)⟩)))
              go_wp2_with fail
              go_meet
              exact ⟨rfl, by rw [RS2.out]⟩
          · have f2 : decide ((K : Int) < 16) = false := decide_eq_false (fun q => q2 (t11.2 q))
            have RS2 := Lib.hid (RD.out.stop (.inl (by omega)))
            go_wp2_with fail
            go_meet
            exact ⟨rfl, by rw [RS2.out]⟩
        · have f1 : decide ((K : Int) < (l.length : Int)) = false := decide_eq_false (by omega)
          have f1' : decide (K < l.length) = false := decide_eq_false q1
          have RS2 := Lib.hid (RD.out.stop (.inr (.inl (by rw [LB]; have := HK.out; omega))))
          go_wp2_with fail
          go_meet
          exact ⟨rfl, by rw [RS2.out]⟩
    obtain ⟨hwx, rfl⟩ := hcut
    subst hwx
    have RR : rdF 10 0 ((bt l).drop 6) < 10000000000 := by have := rdF_lt 10 0 0 ((bt l).drop 6) (by decide) (by omega); omega
    have RN : rdN (bt l) = ((rdF 10 0 ((bt l).drop 6) : Nat) : Int) := by
      unfold rdN
      rw [if_neg (fun q => HM.out (by rw [← bt_getD H8.out, q]; rfl))]
    rw [RE.out] at RR RN
    clear RE RS
    have WN : IntKind.i64.wrap (-(R : Int)) = -(R : Int) := wrap_in (by omega) (by omega)
    obtain ⟨n, hn⟩ : ∃ n : Int, (R : Int) = n := ⟨_, rfl⟩
    rw [hn] at RN
    have n1 : -10000000000 < n := by omega
    have n2 : n < 10000000000 := by omega
    rw [hn]
    rename World => w
    rw [prs, RN] at HR
    have CL : min (max n (-500000)) 500000 = clampI n := by unfold clampI; omega
    cases ho : okT n with
    | false =>
      have hr : (r1, r2) = ((0 : Int), (4 : Int)) := HR.out.symm.trans (if_neg (by rw [ho]; simp))
      replace hr := Lib.hid hr
      have T := Lib.hid (rText_no w ho)
      clear CL
      go_wp2_with fail
      refine T.out.mono ?_
      rintro e w4 ⟨rfl, rfl⟩
      go_wp2_with fail
      exact bodyPost_ret (v := .tuple #[.int .i64 0, .int .i64 4]) (by simp [results, Tryz.results30, go_sem]) rfl ⟨by obtain ⟨rfl, rfl⟩ := Prod.mk.inj hr.out; rfl, brefl _⟩
    | true =>
      have T := Lib.hid (rText_c w ho)
      have TS : (By.bs8 l).data.toList = bt l := rfl
      by_cases d : txt n = bt l
      · have hr : (r1, r2) = (clampI n, (0 : Int)) := HR.out.symm.trans (if_pos ⟨ho, d⟩)
        replace hr := Lib.hid hr
        have e1 : (⟨(txt n).toArray⟩ : ByteArray) = By.bs8 l := by rw [d]; rfl
        rw [e1] at T
        have CL2 := CL
        generalize clampI n = cv at *
        clear d e1 ho TS CL
        go_wp2_with fail
        refine T.out.mono ?_
        rintro e w4 ⟨rfl, hb4⟩
        have B4 := Lib.hid hb4
        have CV4 := HS.out.conv hb4
        clear hb4 CV
        generalize By.bs8 l = sb at *
        go_wp2_with fail
        exact bodyPost_ret (v := .tuple #[.int .i64 cv, .int .i64 0]) (by simp [results, Tryz.results30, go_sem]) rfl ⟨by obtain ⟨rfl, rfl⟩ := Prod.mk.inj hr.out; rfl, B4.out⟩
      · have hr : (r1, r2) = ((0 : Int), (4 : Int)) := HR.out.symm.trans (if_neg (fun q => d q.2))
        replace hr := Lib.hid hr
        have e1 : ((⟨(txt n).toArray⟩ : ByteArray).toList == (By.bs8 l).toList) = false := by
          rw [beq_eq_false_iff_ne, ByteArray.toList_eq, ByteArray.toList_eq]
          exact d
        clear d ho TS CL
        generalize (⟨(txt n).toArray⟩ : ByteArray) = tx at *
        go_wp2_with fail
        refine T.out.mono ?_
        rintro e w4 ⟨rfl, hb4⟩
        have B4 := Lib.hid hb4
        have CV4 := HS.out.conv hb4
        clear hb4 CV
        generalize By.bs8 l = sb at *
        go_wp2_with fail
        exact bodyPost_ret (v := .tuple #[.int .i64 0, .int .i64 4]) (by simp [results, Tryz.results30, go_sem]) rfl ⟨by obtain ⟨rfl, rfl⟩ := Prod.mk.inj hr.out; rfl, B4.out⟩
end Go.Proofs.YtkjolaoajbdomaaGreatDoor.Hi
