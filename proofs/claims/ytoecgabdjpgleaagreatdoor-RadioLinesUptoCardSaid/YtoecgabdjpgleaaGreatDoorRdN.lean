/-
  The contract of radio.NMEA.
  Conditions: the line has no more than 2^61 bytes.
-/
import Derived.Test.YtoecgabdjpgleaaGreatDoorRdM
import Derived.Deep.RegionHeld3
namespace Go.Proofs.YtoecgabdjpgleaaGreatDoor.Rd
open Go.RowKit Cv
set_option linter.unusedVariables false
set_option linter.unusedSimpArgs false

def yr (n : Int) : Int := if 80 ≤ n then 1900 + n else 2000 + n
set_option maxRecDepth 100000 in
theorem fullYear_c (n : Int) (w : World) (h0 : 0 ≤ n) (h1 : n ≤ 99) :
    Calls Tryz.prog 19 #[.int .i64 n] w fun e w' => e = .returned (.int .i64 (yr n)) ∧ w' = w := by
  by_cases c : 80 ≤ n
  · have HE : Hid (yr n = 1900 + n) := Lib.hid (if_pos c)
    have e0 : decide (80 ≤ n) = true := decide_eq_true c
    rw [HE.out]
    go_enter Tryz.func19, Tryz.ntmps19
    go_wp2_with fail
    go_ret
    exact ⟨rfl, rfl⟩
  · have HE : Hid (yr n = 2000 + n) := Lib.hid (if_neg c)
    have e0 : decide (80 ≤ n) = false := decide_eq_false c
    rw [HE.out]
    go_enter Tryz.func19, Tryz.ntmps19
    go_wp2_with fail
    go_ret
    exact ⟨rfl, rfl⟩
/-- five characters that end with RMC. -/
def kd (s : ByteArray) : Bool := decide (s.size = 5) && ((s.extract 2 s.size).toList == [82, 77, 67])
theorem kd_is (s : ByteArray) (h : s.size = 5) : Lib.hasSuffix s.data.toList [82, 77, 67] = kd s := by
  rw [kd, decide_eq_true h, Bool.true_and, toL, Lib.extract_data, h]
  have hl : s.data.toList.length = 5 := by rw [← h, Array.length_toList]; rfl
  match hs : s.data.toList, hl with
  | [a, b, c, d, e], _ =>
    simp only [Lib.hasSuffix, List.isSuffixOf, List.reverse_cons, List.reverse_nil, List.nil_append, List.cons_append, List.isPrefixOf, List.drop_succ_cons, List.drop_zero, List.take_succ_cons, List.take_zero, List.cons_beq_cons, Bool.and_true]
    rw [Bool.eq_iff_iff]
    simp only [Bool.and_eq_true, beq_iff_eq]
    grind
set_option maxRecDepth 100000 in
theorem liteSuffix_c (s p : ByteArray) (w : World) (hs : s.size ≤ 9223372036854775807) :
    Calls Tryz.prog 46 #[.string s, .string p] w fun e w' => e = .returned (.bool (Lib.hasSuffix s.data.toList p.data.toList)) ∧ w' = w := by
  have HC := Lib.hid (fun w => Tryz.stringslite_HasSuffix s p w hs)
  generalize Lib.hasSuffix s.data.toList p.data.toList = r at *
  go_enter Tryz.func46, Tryz.ntmps46
  go_wp2_with fail
  refine (HC.out _).mono ?_
  rintro e w' ⟨rfl, rfl⟩
  go_wp2_with fail
  go_ret
  exact ⟨rfl, rfl⟩
set_option maxRecDepth 100000 in
theorem isKind_c (s : ByteArray) (w : World) :
    Calls Tryz.prog 15 #[.string s] w fun e w' => e = .returned (.bool (kd s)) ∧ w' = w := by
  by_cases h : s.size = 5
  · have HC := Lib.hid (fun w => liteSuffix_c s ⟨#[82, 77, 67]⟩ w (by omega))
    have q : Lib.hasSuffix s.data.toList (⟨#[82, 77, 67]⟩ : ByteArray).data.toList = kd s := kd_is s h
    rw [q] at HC
    clear q
    generalize kd s = r at *
    have e0 : ((s.size : Int) == 5) = true := by simp [h]
    go_enter Tryz.func15, Tryz.ntmps15
    go_wp2_with fail
    refine (HC.out _).mono ?_
    rintro e w' ⟨rfl, rfl⟩
    go_wp2_with fail
    go_ret
    exact ⟨rfl, rfl⟩
  · have HE : Hid (kd s = false) := Lib.hid (by rw [kd, decide_eq_false h]; rfl)
    have e0 : ((s.size : Int) == 5) = false := by simp; omega
    rw [HE.out]
    go_enter Tryz.func15, Tryz.ntmps15
    go_wp2_with fail
    go_ret
    exact ⟨rfl, rfl⟩

instance (y m d : Int) : Decidable (ok y m d) := by unfold ok; infer_instance
/-- a date's number of six digits; the body's clock, ticks and date. -/
def dtN (s : ByteArray) : Int := nm s 6
def isTF (f0 f1 f2 f9 : ByteArray) : Bool := kd f0 && (f2.toList == [65]) && decide (6 ≤ f1.size) && decide (0 ≤ hmN f1) && decide (0 ≤ tkN f1) && decide (0 ≤ dtN f9) && decide (ok (yr (dtN f9 % 100)) (dtN f9 / 100 % 100) (dtN f9 / 10000) ∧ tod (hmN f1 / 10000) (hmN f1 / 100 % 100) (hmN f1 % 100) (tkN f1))
def isT (b : ByteArray) : Bool := decide (fs b 9 ≤ b.size) && isTF (fd b 0) (fd b 1) (fd b 2) (fd b 9)
def tmF (f1 f9 : ByteArray) : Int := Cv.tell (num (yr (dtN f9 % 100)) (dtN f9 / 100 % 100) (dtN f9 / 10000)) (hmN f1 / 10000) (hmN f1 / 100 % 100) (hmN f1 % 100) (tkN f1)
def tm (b : ByteArray) : Int := tmF (fd b 1) (fd b 9)
/-- what NMEA answers of a body, and of a line. -/
def bdN (b : ByteArray) : Ending := .returned (.tuple #[.int .i64 (if isT b = true then tm b else 0), .int .i64 (if isT b = true then 0 else 5)])
def nmE (s : ByteArray) : Ending := if okL s then (if sumL s = sumT (bodyL s) then bdN (bodyL s) else .returned (.tuple #[.int .i64 0, .int .i64 31])) else .returned (.tuple #[.int .i64 0, .int .i64 4])
theorem fd_size (b : ByteArray) (k : Nat) : (fd b k).size ≤ b.size := size_le _ _ _
set_option maxRecDepth 100000 in
set_option maxHeartbeats 4000000 in
theorem NMEA_bad (s : ByteArray) (w : World) (hs : s.size ≤ 2305843009213693952) (z : Int) (hz : (z != 0) = true) (hE : bdE s = .returned (.tuple #[.string ⟨#[]⟩, .int .i64 z])) :
    Calls Tryz.prog 6 #[.string s] w fun e w' => e = .returned (.tuple #[.int .i64 0, .int .i64 z]) ∧ Below w.heap.size w w' := by
  have BC := Lib.hid (bodyOf_c s w hs)
  rw [hE] at BC
  clear hE
  go_enter Tryz.func6, Tryz.ntmps6
  go_wp2_with fail
  refine BC.out.mono ?_
  rintro e w1 ⟨rfl, hb⟩
  have B1 := Lib.hid hb
  clear hb
  go_wp2_with fail
  go_ret2
  exact ⟨rfl, B1.out⟩
set_option maxRecDepth 100000 in
set_option maxHeartbeats 8000000 in
theorem NMEA_body (s b : ByteArray) (w : World) (hs : s.size ≤ 2305843009213693952) (hb : b.size ≤ 2305843009213693952) (hE : bdE s = .returned (.tuple #[.string b, .int .i64 0])) :
    Calls Tryz.prog 6 #[.string s] w fun e w' => e = bdN b ∧ Below w.heap.size w w' := by
  have BC := Lib.hid (bodyOf_c s w hs)
  rw [hE] at BC
  clear hE
  have SN := Lib.hid (fun w => SplitN_c b w hb)
  have NO : Hid (isT b = false → bdN b = .returned (.tuple #[.int .i64 0, .int .i64 5])) := Lib.hid fun h => by rw [bdN, h]; rfl
  have YE : Hid (isT b = true → bdN b = .returned (.tuple #[.int .i64 (tm b), .int .i64 0])) := Lib.hid fun h => by rw [bdN, h]; rfl
  have IT : Hid (isT b = (decide (fs b 9 ≤ b.size) && isTF (fd b 0) (fd b 1) (fd b 2) (fd b 9))) := Lib.hid rfl
  have TM : Hid (tm b = tmF (fd b 1) (fd b 9)) := Lib.hid rfl
  have z0 := fd_size b 0
  have z1 := fd_size b 1
  have SP : Hid (∀ R, Spl b R → 1 ≤ R.length ∧ R.length ≤ 11 ∧ (10 ≤ R.length ↔ fs b 9 ≤ b.size) ∧ (10 ≤ R.length → R[0]? = some (fd b 0) ∧ R[1]? = some (fd b 1) ∧ R[2]? = some (fd b 2) ∧ R[9]? = some (fd b 9))) := Lib.hid fun R q => ⟨q.pos, q.len, q.ten, fun k => ⟨q.at_ 0 (by omega) (by omega), q.at_ 1 (by omega) (by omega), q.at_ 2 (by omega) (by omega), q.at_ 9 (by omega) (by omega)⟩⟩
  generalize fd b 0 = f0 at *
  generalize fd b 1 = f1 at *
  generalize fd b 2 = f2 at *
  generalize fd b 9 = f9 at *
  generalize bdN b = E at *
  generalize isT b = it at *
  generalize tm b = tb at *
  replace z0 : f0.size ≤ 2305843009213693952 := by omega
  replace z1 : f1.size ≤ 2305843009213693952 := by omega
  clear hb hs
  go_enter Tryz.func6, Tryz.ntmps6
  go_wp2_with fail
  refine BC.out.mono ?_
  rintro e w1 ⟨rfl, hb⟩
  have B1 := Lib.hid hb
  clear hb BC
  go_wp2_with fail
  refine (SN.out _).mono ?_
  rintro e w2 ⟨⟨v, R, rfl, st, sp⟩, hb⟩
  have B2 := Lib.hid (bstep B1.out hb)
  clear hb SN
  obtain ⟨p1, p2, p3, p4⟩ := SP.out R sp
  have ST := Lib.hid st
  obtain ⟨bb, cap, rfl, c1, c2, c3, c4⟩ := st
  clear sp SP
  by_cases t10 : 10 ≤ R.length
  · rw [decide_eq_true (p3.1 t10), Bool.true_and] at IT
    obtain ⟨r0, r1, r2, r9⟩ := p4 t10
    have k0 := c4 0 _ r0
    have k1 := c4 1 _ r1
    have k2 := c4 2 _ r2
    have k9 := c4 9 _ r9
    have KK : Hid (∀ w', Below w2.heap.size w2 w' → w'.cell? ⟨bb, 1, none⟩ = some (.string f1) ∧ w'.cell? ⟨bb, 9, none⟩ = some (.string f9)) := Lib.hid fun w' q => ⟨(q.cell (p := ⟨bb, 1, none⟩) c3).trans k1, (q.cell (p := ⟨bb, 9, none⟩) c3).trans k9⟩
    clear p3 p4 c4 r0 r1 r2 r9 ST
    generalize R.length = n at *
    have e0 : decide ((n : Int) ≤ 9) = false := decide_eq_false (by omega)
    have e1 : decide (n ≤ 9) = false := decide_eq_false (by omega)
    have IK := Lib.hid (fun w => isKind_c f0 w)
    unfold isTF at IT
    generalize kd f0 = b0 at *
    cases b0 with
    | false =>
      have N := Lib.hid (NO.out IT.out)
      go_wp2_with fail
      refine (IK.out _).mono ?_
      rintro e w' ⟨rfl, rfl⟩
      go_wp2_with fail
      go_ret2
      exact ⟨N.out.symm, B2.out⟩
    | true =>
      cases hA : (f2.toList == [65]) with
      | false =>
        rw [hA] at IT
        have N := Lib.hid (NO.out IT.out)
        go_wp2_with fail
        refine (IK.out _).mono ?_
        rintro e w' ⟨rfl, rfl⟩
        go_wp2_with fail
        go_ret2
        exact ⟨N.out.symm, B2.out⟩
      | true =>
        rw [hA] at IT
        go_wp2_with fail
        refine (IK.out _).mono ?_
        rintro e w' ⟨rfl, rfl⟩
        go_wp2_with fail
        have hK := KK.out _ (brefl _)
        by_cases c6 : 6 ≤ f1.size
        · have CK := Lib.hid (fun w => clockOf_long f1 c6 w z1)
          have PD := Lib.hid (fun w => pairs_c f9 w)
          rw [show nm f9 6 = dtN f9 from rfl] at PD
          rw [decide_eq_true c6] at IT
          unfold ckE at CK
          unfold prE at PD
          unfold tmF at TM
          have hb1 := nm_bd (f1.extract 0 6) 6
          have hb2 := nm_bd f9 6
          rw [show nm (f1.extract 0 6) 6 = hmN f1 from rfl] at hb1
          rw [show nm f9 6 = dtN f9 from rfl] at hb2
          replace hb1 : -1 ≤ hmN f1 ∧ hmN f1 ≤ 999999 := by omega
          replace hb2 : -1 ≤ dtN f9 ∧ dtN f9 ≤ 999999 := by omega
          generalize hmN f1 = c at *
          generalize tkN f1 = k at *
          generalize dtN f9 = d at *
          unfold pr3 at CK PD
          obtain ⟨rc, hrc⟩ : ∃ r, decide (0 ≤ c) = r := ⟨_, rfl⟩
          obtain ⟨zc, hzc⟩ : ∃ z, (if 0 ≤ c then c else 0) = z := ⟨_, rfl⟩
          obtain ⟨rk, hrk⟩ : ∃ r, decide (0 ≤ k) = r := ⟨_, rfl⟩
          obtain ⟨zk, hzk⟩ : ∃ z, (if 0 ≤ k then k else 0) = z := ⟨_, rfl⟩
          obtain ⟨rd, hrd⟩ : ∃ r, decide (0 ≤ d) = r := ⟨_, rfl⟩
          obtain ⟨zd, hzd⟩ : ∃ z, (if 0 ≤ d then d else 0) = z := ⟨_, rfl⟩
          have ZC : Hid (rc = true → zc = c ∧ 0 ≤ c) := Lib.hid fun q => by have q' : 0 ≤ c := of_decide_eq_true (hrc.trans q); exact ⟨by rw [← hzc, if_pos q'], q'⟩
          have ZK : Hid (rk = true → zk = k) := Lib.hid fun q => by have q' : 0 ≤ k := of_decide_eq_true (hrk.trans q); rw [← hzk, if_pos q']
          have ZD : Hid (rd = true → zd = d ∧ 0 ≤ d) := Lib.hid fun q => by have q' : 0 ≤ d := of_decide_eq_true (hrd.trans q); exact ⟨by rw [← hzd, if_pos q'], q'⟩
          simp only [hrc, hzc, hrk, hzk] at CK
          simp only [hrd, hzd] at PD
          simp only [hrc, hrk, hrd] at IT
          clear hrc hzc hrk hzk hrd hzd
          go_wp2_with fail
          refine (CK.out _).mono ?_
          rintro e w3 ⟨rfl, hb⟩
          have h9 := (KK.out _ hb).2
          have B3 := Lib.hid (bstep B2.out hb)
          clear hb CK hK
          have g9 := ((balloc (brefl w3) (.cells #[.int .i64 (zc / 10000), .int .i64 (zc / 100 % 100), .int .i64 (zc % 100)] 43)).cell (p := ⟨bb, 9, none⟩) (World.block_lt_of_cell? w3 _ h9)).trans h9
          have A4 := Lib.hid (Ar3f.new w3 (zc / 10000) (zc / 100 % 100) (zc % 100) 43)
          have B4 := Lib.hid (balloc B3.out (.cells #[.int .i64 (zc / 10000), .int .i64 (zc / 100 % 100), .int .i64 (zc % 100)] 43))
          clear h9
          go_wp2_with fail
          refine (PD.out _).mono ?_
          rintro e w5 ⟨rfl, hb⟩
          have B5 := Lib.hid (bstep B4.out hb)
          have A5 := Lib.hid (A4.out.below hb)
          have A6 := Lib.hid (A5.out.below (balloc (brefl w5) (.cells #[.int .i64 (zd / 10000), .int .i64 (zd / 100 % 100), .int .i64 (zd % 100)] 43)))
          have D6 := Lib.hid (Ar3f.new w5 (zd / 10000) (zd / 100 % 100) (zd % 100) 43)
          have B6 := Lib.hid (balloc B5.out (.cells #[.int .i64 (zd / 10000), .int .i64 (zd / 100 % 100), .int .i64 (zd % 100)] 43))
          clear hb PD g9 A4 A5
          cases rc with
          | false =>
            have N := Lib.hid (NO.out (by rw [IT.out]; rfl))
            go_wp2_with fail
            all_goals go_ret2
            all_goals exact ⟨N.out.symm, B6.out⟩
          | true =>
            cases rk with
            | false =>
              have N := Lib.hid (NO.out (by rw [IT.out]; rfl))
              go_wp2_with fail
              all_goals go_ret2
              all_goals exact ⟨N.out.symm, B6.out⟩
            | true =>
              cases rd with
              | false =>
                have N := Lib.hid (NO.out (by rw [IT.out]; rfl))
                go_wp2_with fail
                all_goals go_ret2
                all_goals exact ⟨N.out.symm, B6.out⟩
              | true =>
                obtain ⟨rfl, p0⟩ := ZC.out rfl
                obtain rfl := ZK.out rfl
                obtain ⟨rfl, q0⟩ := ZD.out rfl
                have FY := Lib.hid (fun w => fullYear_c (zd % 100) w (by omega) (by omega))
                have TL := Lib.hid (fun w => tell_c (yr (zd % 100)) (zd / 100 % 100) (zd / 10000) (zc / 10000) (zc / 100 % 100) (zc % 100) zk w (decide (ok (yr (zd % 100)) (zd / 100 % 100) (zd / 10000) ∧ tod (zc / 10000) (zc / 100 % 100) (zc % 100) zk)) decide_eq_true_iff)
                rw [TM.out] at YE
                unfold tlE at TL
                clear TM
                generalize decide (ok (yr (zd % 100)) (zd / 100 % 100) (zd / 10000) ∧ tod (zc / 10000) (zc / 100 % 100) (zc % 100) zk) = o at *
                generalize Cv.tell (num (yr (zd % 100)) (zd / 100 % 100) (zd / 10000)) (zc / 10000) (zc / 100 % 100) (zc % 100) zk = Z at *
                have HE : Hid (E = .returned (.tuple #[.int .i64 (if o = true then Z else 0), .int .i64 (if o = true then 0 else 5)])) := Lib.hid (by
                  cases o with
                  | true => exact YE.out (by rw [IT.out]; rfl)
                  | false => exact NO.out (by rw [IT.out]; rfl))
                generalize (if o = true then Z else 0) = r1 at *
                generalize (if o = true then (0 : Int) else 5) = r2 at *
                clear YE NO IT
                generalize yr (zd % 100) = y at *
                generalize zd % 100 = yy at *
                generalize zd / 100 % 100 = mo at *
                generalize zd / 10000 = da at *
                generalize zc / 10000 = H at *
                generalize zc / 100 % 100 = M at *
                generalize zc % 100 = S at *
                have KP : Hid (∀ w', Below (w5.alloc (.cells #[.int .i64 da, .int .i64 mo, .int .i64 yy] 43)).heap.size (w5.alloc (.cells #[.int .i64 da, .int .i64 mo, .int .i64 yy] 43)) w' → w'.cell? ⟨w3.heap.size, 0, none⟩ = some (.int .i64 H) ∧ w'.cell? ⟨w3.heap.size, 1, none⟩ = some (.int .i64 M) ∧ w'.cell? ⟨w3.heap.size, 2, none⟩ = some (.int .i64 S) ∧ w'.cell? ⟨w5.heap.size, 0, none⟩ = some (.int .i64 da) ∧ w'.cell? ⟨w5.heap.size, 1, none⟩ = some (.int .i64 mo) ∧ w'.cell? ⟨w5.heap.size, 2, none⟩ = some (.int .i64 yy)) := Lib.hid fun w' q => by
                  have a := A6.out.below q
                  have b := D6.out.below q
                  exact ⟨a.2.1, a.2.2.1, a.2.2.2.1, b.2.1, b.2.2.1, b.2.2.2.1⟩
                go_upto_region 11 with fail
                generalize w5.alloc (.cells #[.int .i64 da, .int .i64 mo, .int .i64 yy] 43) = w6 at *
                have hb0 : Below w6.heap.size w6 w6.drew := (brefl w6).drew
                go_region_held3 (fun w' => w'.cell? ⟨w3.heap.size, 0, none⟩ = some (.int .i64 H) ∧ w'.cell? ⟨w3.heap.size, 1, none⟩ = some (.int .i64 M) ∧ w'.cell? ⟨w3.heap.size, 2, none⟩ = some (.int .i64 S) ∧ w'.cell? ⟨w5.heap.size, 0, none⟩ = some (.int .i64 da) ∧ w'.cell? ⟨w5.heap.size, 1, none⟩ = some (.int .i64 mo) ∧ w'.cell? ⟨w5.heap.size, 2, none⟩ = some (.int .i64 yy))
                  (first | exact KP.out _ (by assumption))
                  (first | (go_at_call 19; (with_reducible refine (FY.out _).mono ?_); rintro e w' ⟨rfl, rfl⟩) | (go_at_call 18; (with_reducible refine (TL.out _).mono ?_); rintro e w' ⟨rfl, hb⟩; replace hb := bstep (w := w6) (by assumption) hb))
                all_goals (go_wp2_with fail)
                all_goals go_ret2
                all_goals exact ⟨HE.out.symm, bstep B6.out (by assumption)⟩
        · have CK := Lib.hid (fun w => clockOf_short f1 (by omega) w)
          have PD := Lib.hid (fun w => pairs_c f9 w)
          rw [decide_eq_false c6] at IT
          have N := Lib.hid (NO.out (by rw [IT.out]; rfl))
          unfold prE pr3 at PD
          generalize decide (0 ≤ nm f9 6) = rd at *
          generalize (if 0 ≤ nm f9 6 then nm f9 6 else 0) = zd at *
          clear IT TM YE
          go_wp2_with fail
          refine (CK.out _).mono ?_
          rintro e w3 ⟨rfl, hb⟩
          have h9 := (KK.out _ hb).2
          have B3 := Lib.hid (bstep B2.out hb)
          clear hb CK hK
          have g9 := ((balloc (brefl w3) (.cells #[.int .i64 0, .int .i64 0, .int .i64 0] 43)).cell (p := ⟨bb, 9, none⟩) (World.block_lt_of_cell? w3 _ h9)).trans h9
          have B4 := Lib.hid (balloc B3.out (.cells #[.int .i64 0, .int .i64 0, .int .i64 0] 43))
          clear h9
          go_wp2_with fail
          refine (PD.out _).mono ?_
          rintro e w5 ⟨rfl, hb⟩
          have B6 := Lib.hid (balloc (bstep B4.out hb) (.cells #[.int .i64 (zd / 10000), .int .i64 (zd / 100 % 100), .int .i64 (zd % 100)] 43))
          clear hb PD g9
          go_wp2_with fail
          all_goals go_ret2
          all_goals exact ⟨N.out.symm, B6.out⟩
  · have N := Lib.hid (NO.out (by rw [IT.out, decide_eq_false (fun q => t10 (p3.2 q))]; rfl))
    have e0 : decide ((R.length : Int) ≤ 9) = true := decide_eq_true (by omega)
    have e1 : decide (R.length ≤ 9) = true := decide_eq_true (by omega)
    go_wp2_with fail
    go_ret2
    exact ⟨N.out.symm, B2.out⟩
end Go.Proofs.YtoecgabdjpgleaaGreatDoor.Rd
