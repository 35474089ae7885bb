/-
  The contract of radio.Code: of a line its UTC time.
  Conditions: the line has no more than 2^40 bytes.
-/
import Derived.Test.YtoecgabdjpgleaaGreatDoorRdD
namespace Go.Proofs.YtoecgabdjpgleaaGreatDoor.Rd
open Go.RowKit Cv
set_option linter.unusedVariables false
set_option linter.unusedSimpArgs false

set_option maxRecDepth 100000 in
theorem qual_none (a : Option Addr) (cap : Nat) (w : World) :
    Calls Tryz.prog 27 #[.slice a 0 cap] w fun e w' => e = dgE 0 ∧ w' = w := by
  have HE : Hid (dgE 0 = .returned (.tuple #[.int .i64 0, .bool true])) := Lib.hid rfl
  rw [HE.out]
  go_enter Tryz.func27, Tryz.ntmps27
  go_wp2_with fail
  go_ret2
  exact ⟨rfl, rfl⟩
set_option maxRecDepth 100000 in
theorem qual_one (b o cap : Nat) (t : ByteArray) (w : World) (h : w.cell? ⟨b, o, none⟩ = some (.string t)) :
    Calls Tryz.prog 27 #[.slice (some ⟨b, o, none⟩) 1 cap] w fun e w' => e = dgE (nm t 1) ∧ w' = w := by
  have DC := Lib.hid (fun w => digits_c t 1 (by omega) w)
  generalize nm t 1 = x at *
  have HE : Hid (dgE x = .returned (.tuple #[.int .i64 (if 0 ≤ x then x else 0), .bool (decide (0 ≤ x))])) := Lib.hid rfl
  rw [HE.out]
  rw [HE.out] at DC
  generalize decide (0 ≤ x) = r at *
  generalize (if 0 ≤ x then x else 0) = z at *
  go_enter Tryz.func27, Tryz.ntmps27
  go_wp2_with fail
  refine (DC.out _).mono ?_
  rintro e w' ⟨rfl, rfl⟩
  go_wp2_with fail
  go_ret2
  exact ⟨rfl, rfl⟩

def w0 : Wd.W3 := ⟨⟨#[]⟩, 0, false⟩
def tx (L : List Wd.W3) (j : Nat) : ByteArray := (L.getD j w0).t
theorem tx_at {L : List Wd.W3} {j : Nat} (h : j < L.length) : ∃ x, L[j]? = some x ∧ x.t = tx L j := by
  refine ⟨L[j], List.getElem?_eq_getElem h, ?_⟩
  rw [tx, List.getD_eq_getElem?_getD, List.getElem?_eq_getElem h]
  rfl
theorem rw_at {L : List Wd.W3} {w : World} {b off n cap : Nat} (h : Wd.Rw w (.slice (some ⟨b, off, none⟩) n cap) L) {j : Nat} (hj : j < L.length) : w.cell? ⟨b, off + j * 3, none⟩ = some (.string (tx L j)) := by
  obtain ⟨a, c, e, h1, h2, h3⟩ := h
  obtain ⟨b', off', ea, hb, hc⟩ := h3 (by omega)
  cases e
  cases ea
  obtain ⟨x, hx, e⟩ := tx_at hj
  rw [← e]
  exact (hc j x hx).1
/-- year, day, clock, quality. -/
def cY (L : List Wd.W3) : Int := nm (tx L 1) 4
def cD (L : List Wd.W3) : Int := nm (tx L 2) 3
def cC (L : List Wd.W3) : Int := nm (tx L 3) 6
def cQ (L : List Wd.W3) : Int := if L.length = 5 then nm (tx L 4) 1 else 0
/-- the words are a code line's. -/
def isCode (L : List Wd.W3) : Bool := (decide (L.length = 4) || decide (L.length = 5)) && !anyq L && ((tx L 0).toList == [84]) && decide (0 ≤ cY L) && decide (0 ≤ cD L) && decide (0 ≤ cC L) && decide (0 ≤ cQ L)
instance (H M S T : Int) : Decidable (tod H M S T) := by unfold tod; infer_instance
/-- it tells a time. -/
def tellsC (L : List Wd.W3) : Bool := dq (cY L) (cD L) && !(cQ L == 9) && decide (tod (cC L / 10000) (cC L / 100 % 100) (cC L % 100) 0)
def timeC (L : List Wd.W3) : Int := Cv.tell (ny (cY L) + cD L - 1) (cC L / 10000) (cC L / 100 % 100) (cC L % 100) 0
/-- what Code answers. -/
def cdN : Int ⊕ List Wd.W3 → Int
  | .inl _ => 4
  | .inr L => if isCode L = true then (if tellsC L = true then 0 else 5) else 4
def cdT : Int ⊕ List Wd.W3 → Int
  | .inl _ => 0
  | .inr L => if isCode L = true then (if tellsC L = true then timeC L else 0) else 0
def cdE (R : Int ⊕ List Wd.W3) : Ending := .returned (.tuple #[.int .i64 (cdT R), .int .i64 (cdN R)])
theorem cd_no {L : List Wd.W3} (h : isCode L = false) : cdE (.inr L) = .returned (.tuple #[.int .i64 0, .int .i64 4]) := by
  rw [cdE, cdT, cdN, h]; rfl
theorem cd_none {L : List Wd.W3} (h : isCode L = true) (h2 : tellsC L = false) : cdE (.inr L) = .returned (.tuple #[.int .i64 0, .int .i64 5]) := by
  rw [cdE, cdT, cdN, h, h2]; rfl
theorem cd_yes {L : List Wd.W3} (h : isCode L = true) (h2 : tellsC L = true) : cdE (.inr L) = .returned (.tuple #[.int .i64 (timeC L), .int .i64 0]) := by
  rw [cdE, cdT, cdN, h, h2]; rfl
def Ar3 (w : World) (b : Nat) (x y z : Int) : Prop := b < w.heap.size ∧ w.cell? ⟨b, 0, none⟩ = some (.int .i64 x) ∧ w.cell? ⟨b, 1, none⟩ = some (.int .i64 y) ∧ w.cell? ⟨b, 2, none⟩ = some (.int .i64 z)
theorem Ar3.below {w w' : World} {b : Nat} {x y z : Int} (h : Ar3 w b x y z) (k : Below w.heap.size w w') : Ar3 w' b x y z :=
  ⟨Nat.lt_of_lt_of_le h.1 k.size, (k.cell (p := ⟨b, 0, none⟩) h.1).trans h.2.1, (k.cell (p := ⟨b, 1, none⟩) h.1).trans h.2.2.1, (k.cell (p := ⟨b, 2, none⟩) h.1).trans h.2.2.2⟩
theorem Ar3.new (w : World) (x y z : Int) (t : TypeId) : Ar3 (w.alloc (.cells #[.int .i64 x, .int .i64 y, .int .i64 z] t)) w.heap.size x y z :=
  ⟨by simp, by simp [go_sem], by simp [go_sem], by simp [go_sem]⟩

/-- where the line is none, or has too few words, or too many. -/
theorem code_err {s : ByteArray} {w : World} (hs : s.size ≤ 1099511627776) (h : (Wd.fWhy (Wd.spR s) == 0) = false) (k : cdE (Wd.spR s) = .returned (.tuple #[.int .i64 0, .int .i64 4])) :
    Calls Tryz.prog 8 #[.string s] w fun e w' => e = cdE (Wd.spR s) ∧ Below w.heap.size w w' := by
  have SC := Lib.hid (Wd.Split_c s w hs)
  rw [k]
  generalize Wd.fWhy (Wd.spR s) = z at *
  generalize Wd.fChar (Wd.spR s) = zc at *
  generalize Wd.fWords (Wd.spR s) = L at *
  have h' : (z != 0) = true := by simp at h ⊢; exact h
  clear k
  go_enter Tryz.func8, Tryz.ntmps8
  go_wp2_with fail
  refine SC.out.mono ?_
  rintro e w1 ⟨v, rfl, own, hb⟩
  have B1 := Lib.hid (balloc hb (.cells #[.int .i64 z, .int .i64 0, .int .i64 zc] 59))
  obtain ⟨a, cap, rfl, m1, m2, m3⟩ := own.rw
  clear hb own m3
  generalize L.length = n at *
  go_wp2_with fail
  go_ret2
  exact ⟨rfl, B1.out⟩
theorem code_len {s : ByteArray} {L : List Wd.W3} {w : World} (hs : s.size ≤ 1099511627776) (h : Wd.spR s = .inr L) (hn : ¬ (L.length = 4 ∨ L.length = 5)) :
    Calls Tryz.prog 8 #[.string s] w fun e w' => e = cdE (Wd.spR s) ∧ Below w.heap.size w w' := by
  have SC := Lib.hid (Wd.Split_c s w hs)
  rw [h] at SC ⊢
  rw [cd_no (by rw [isCode, decide_eq_false (fun q => hn (.inl q)), decide_eq_false (fun q => hn (.inr q))]; rfl)]
  simp only [Wd.fWhy, Wd.fChar, Wd.fWords] at SC
  clear h
  go_enter Tryz.func8, Tryz.ntmps8
  go_wp2_with fail
  refine SC.out.mono ?_
  rintro e w1 ⟨v, rfl, own, hb⟩
  have B1 := Lib.hid (balloc hb (.cells #[.int .i64 0, .int .i64 0, .int .i64 0] 59))
  obtain ⟨a, cap, rfl, m1, m2, m3⟩ := own.rw
  clear hb own m3 SC
  generalize L.length = n at *
  by_cases c : n < 4
  · have e1 : decide ((n : Int) < 4) = true := decide_eq_true (by omega)
    have e2 : decide (n < 4) = true := decide_eq_true (by omega)
    go_wp2_with fail
    go_ret2
    exact ⟨rfl, B1.out⟩
  · have e1 : decide ((n : Int) < 4) = false := decide_eq_false (by omega)
    have e2 : decide (n < 4) = false := decide_eq_false (by omega)
    have e3 : decide (5 < (n : Int)) = true := decide_eq_true (by omega)
    have e4 : decide (5 < n) = true := decide_eq_true (by omega)
    go_wp2_with fail
    go_ret2
    exact ⟨rfl, B1.out⟩

set_option maxRecDepth 100000 in
set_option maxHeartbeats 8000000 in
theorem code_4 {s : ByteArray} {L : List Wd.W3} {w : World} (hs : s.size ≤ 1099511627776) (h : Wd.spR s = .inr L) (hn : L.length = 4) :
    Calls Tryz.prog 8 #[.string s] w fun e w' => e = cdE (Wd.spR s) ∧ Below w.heap.size w w' := by
  have SC := Lib.hid (Wd.Split_c s w hs)
  rw [h] at SC ⊢
  simp only [Wd.fWhy, Wd.fChar, Wd.fWords] at SC
  have AQ := Lib.hid (fun (v : Value) (w : World) (q : Wd.Rw w v L) => contains_c q)
  have CE : Hid (∀ w b off n cap, Wd.Rw w (.slice (some ⟨b, off, none⟩) n cap) L → w.cell? ⟨b, off, none⟩ = some (.string (tx L 0)) ∧ w.cell? ⟨b, off + 3, none⟩ = some (.string (tx L 1)) ∧ w.cell? ⟨b, off + 6, none⟩ = some (.string (tx L 2)) ∧ w.cell? ⟨b, off + 9, none⟩ = some (.string (tx L 3))) := Lib.hid fun w b off n cap q => ⟨rw_at q (j := 0) (by omega), rw_at q (j := 1) (by omega), rw_at q (j := 2) (by omega), rw_at q (j := 3) (by omega)⟩
  have IC : Hid (isCode L = (!anyq L && ((tx L 0).toList == [84]) && decide (0 ≤ nm (tx L 1) 4) && decide (0 ≤ nm (tx L 2) 3) && decide (0 ≤ nm (tx L 3) 6) && decide (0 ≤ (0 : Int)))) := Lib.hid (by
    unfold isCode cQ cY cD cC
    rw [hn]
    rfl)
  have TC : Hid (tellsC L = (dq (nm (tx L 1) 4) (nm (tx L 2) 3) && !((0 : Int) == 9) && decide (tod (nm (tx L 3) 6 / 10000) (nm (tx L 3) 6 / 100 % 100) (nm (tx L 3) 6 % 100) 0))) := Lib.hid (by
    unfold tellsC cQ cY cD cC
    rw [hn]
    rfl)
  have TM : Hid (timeC L = Cv.tell (ny (nm (tx L 1) 4) + nm (tx L 2) 3 - 1) (nm (tx L 3) 6 / 10000) (nm (tx L 3) 6 / 100 % 100) (nm (tx L 3) 6 % 100) 0) := Lib.hid rfl
  have NO : Hid (isCode L = false → cdE (.inr L) = .returned (.tuple #[.int .i64 0, .int .i64 4])) := Lib.hid cd_no
  have NN : Hid (isCode L = true → tellsC L = false → cdE (.inr L) = .returned (.tuple #[.int .i64 0, .int .i64 5])) := Lib.hid cd_none
  have YY : Hid (isCode L = true → tellsC L = true → cdE (.inr L) = .returned (.tuple #[.int .i64 (timeC L), .int .i64 0])) := Lib.hid cd_yes
  generalize hP : cdE (.inr L) = P at *
  have D1 := Lib.hid (fun w => digits_c (tx L 1) 4 (by omega) w)
  have D2 := Lib.hid (fun w => digits_c (tx L 2) 3 (by omega) w)
  have D3 := Lib.hid (fun w => pairs_c (tx L 3) w)
  have y1 := nm_bd (tx L 1) 4
  have d1 := nm_bd (tx L 2) 3
  have c1 := nm_bd (tx L 3) 6
  generalize nm (tx L 1) 4 = y at *
  generalize nm (tx L 2) 3 = d at *
  generalize nm (tx L 3) 6 = c at *
  generalize tx L 0 = t0 at *
  generalize tx L 1 = t1 at *
  generalize tx L 2 = t2 at *
  generalize tx L 3 = t3 at *
  generalize anyq L = aq at *
  replace y1 : -1 ≤ y ∧ y ≤ 9999 := by omega
  replace d1 : -1 ≤ d ∧ d ≤ 999 := by omega
  replace c1 : -1 ≤ c ∧ c ≤ 999999 := by omega
  obtain ⟨ry, hry⟩ : ∃ r, decide (0 ≤ y) = r := ⟨_, rfl⟩
  obtain ⟨zy, hzy⟩ : ∃ z, (if 0 ≤ y then y else 0) = z := ⟨_, rfl⟩
  obtain ⟨rd, hrd⟩ : ∃ r, decide (0 ≤ d) = r := ⟨_, rfl⟩
  obtain ⟨zd, hzd⟩ : ∃ z, (if 0 ≤ d then d else 0) = z := ⟨_, rfl⟩
  obtain ⟨rc, hrc⟩ : ∃ r, decide (0 ≤ c) = r := ⟨_, rfl⟩
  obtain ⟨zc, hzc⟩ : ∃ z, (if 0 ≤ c then c else 0) = z := ⟨_, rfl⟩
  have ZY : Hid (ry = true → zy = y ∧ 0 ≤ y) := Lib.hid fun q => by have q' : 0 ≤ y := of_decide_eq_true (hry.trans q); exact ⟨by rw [← hzy, if_pos q'], q'⟩
  have ZD : Hid (rd = true → zd = d ∧ 0 ≤ d) := Lib.hid fun q => by have q' : 0 ≤ d := of_decide_eq_true (hrd.trans q); exact ⟨by rw [← hzd, if_pos q'], q'⟩
  have ZC : Hid (rc = true → zc = c ∧ 0 ≤ c) := Lib.hid fun q => by have q' : 0 ≤ c := of_decide_eq_true (hrc.trans q); exact ⟨by rw [← hzc, if_pos q'], q'⟩
  simp only [dgE, prE, pr3, hry, hrd, hrc, hzy, hzd, hzc] at D1 D2 D3 IC
  clear h hs hP hry hzy hrd hzd hrc hzc
  go_enter Tryz.func8, Tryz.ntmps8
  go_wp2_with fail
  refine SC.out.mono ?_
  rintro e w1 ⟨v, rfl, own, hb⟩
  have B1 := Lib.hid (balloc hb (.cells #[.int .i64 0, .int .i64 0, .int .i64 0] 59))
  have R1 := own.rw.below (balloc (brefl w1) (.cells #[.int .i64 0, .int .i64 0, .int .i64 0] 59))
  clear hb own SC
  obtain ⟨a, cap, rfl, m1, m2, m3⟩ := id R1
  obtain ⟨b, off, rfl, hbl, _⟩ := m3 (by omega)
  rw [hn] at R1 m1 ⊢
  have R1 := Lib.hid R1
  clear m3
  go_wp2_with fail
  refine (AQ.out _ _ R1.out).mono ?_
  rintro e w2 ⟨rfl, hb⟩
  have B2 := Lib.hid (bstep B1.out hb)
  have R2 := Lib.hid (R1.out.below hb)
  clear hb R1 AQ
  cases aq with
  | true =>
    go_wp2_with fail
    go_ret2
    exact ⟨(NO.out (by rw [IC.out]; rfl)).symm, B2.out⟩
  | false =>
    obtain ⟨c0, c3, c6, c9⟩ := CE.out _ _ _ _ _ R2.out
    cases T : (t0.toList == [84]) with
    | false =>
      rw [T] at IC
      go_wp2_with fail
      go_ret2
      exact ⟨(NO.out (by rw [IC.out]; rfl)).symm, B2.out⟩
    | true =>
      rw [T] at IC
      go_wp2_with fail
      refine (D1.out _).mono ?_
      rintro e w' ⟨rfl, rfl⟩
      go_wp2_with fail
      refine (D2.out _).mono ?_
      rintro e w' ⟨rfl, rfl⟩
      go_wp2_with fail
      refine (D3.out _).mono ?_
      rintro e w3 ⟨rfl, hb⟩
      have B3 := Lib.hid (bstep B2.out hb)
      have R3 := Lib.hid (R2.out.below hb)
      clear hb R2 D1 D2 D3 T c0 c3 c6 c9
      have A4 := Lib.hid (Ar3.new w3 (zc / 10000) (zc / 100 % 100) (zc % 100) 43)
      have R4 := Lib.hid (R3.out.below (balloc (brefl w3) (.cells #[.int .i64 (zc / 10000), .int .i64 (zc / 100 % 100), .int .i64 (zc % 100)] 43)))
      have B4 := Lib.hid (balloc B3.out (.cells #[.int .i64 (zc / 10000), .int .i64 (zc / 100 % 100), .int .i64 (zc % 100)] 43))
      go_wp2_with fail
      all_goals
        refine (qual_none _ _ _).mono ?_
        rintro e w' ⟨rfl, rfl⟩
        rw [show dgE 0 = .returned (.tuple #[.int .i64 0, .bool true]) from rfl]
        cases ry with
        | false =>
          go_wp2_with fail
          go_ret2
          exact ⟨(NO.out (by rw [IC.out]; rfl)).symm, B4.out⟩
        | true =>
        obtain ⟨rfl, y0⟩ := ZY.out rfl
        cases rd with
        | false =>
          go_wp2_with fail
          go_ret2
          exact ⟨(NO.out (by rw [IC.out]; rfl)).symm, B4.out⟩
        | true =>
        obtain ⟨rfl, d0⟩ := ZD.out rfl
        cases rc with
        | false =>
          go_wp2_with fail
          go_ret2
          exact ⟨(NO.out (by rw [IC.out]; rfl)).symm, B4.out⟩
        | true =>
        obtain ⟨rfl, c0⟩ := ZC.out rfl
        have IS := Lib.hid (show isCode L = true by rw [IC.out]; rfl)
        have DO := Lib.hid (fun w => dateOf_c zy zd w y0 (by omega) d0 (by omega))
        go_wp2_with fail
        refine (DO.out _).mono ?_
        rintro e w5 ⟨⟨a1, a2, a3, rfl, hd⟩, hb⟩
        have B5 := Lib.hid (bstep B4.out hb)
        have A5 := A4.out.below hb
        have B6 := Lib.hid (balloc B5.out (.cells #[.int .i64 a1, .int .i64 a2, .int .i64 a3] 51))
        have A6 := Lib.hid (A5.below (balloc (brefl w5) (.cells #[.int .i64 a1, .int .i64 a2, .int .i64 a3] 51)))
        clear hb A5 DO
        have HD := Lib.hid hd
        clear hd
        cases hq : dq zy zd with
        | false =>
          have TN := Lib.hid (NN.out IS.out (by rw [TC.out, hq]; rfl))
          go_wp2_with fail
          go_ret2
          exact ⟨TN.out.symm, B6.out⟩
        | true =>
        obtain ⟨ho, hm⟩ := HD.out hq
        have TL := Lib.hid (fun w => tell_c a1 a2 a3 (zc / 10000) (zc / 100 % 100) (zc % 100) 0 w (decide (tod (zc / 10000) (zc / 100 % 100) (zc % 100) 0)) (by rw [decide_eq_true_iff]; exact ⟨fun k => ⟨ho, k⟩, fun k => k.2⟩))
        rw [hm] at TL
        have TT : Hid (tellsC L = decide (tod (zc / 10000) (zc / 100 % 100) (zc % 100) 0)) := Lib.hid (by rw [TC.out, hq]; rfl)
        clear TC ho hm HD
        obtain ⟨_, h0, h1, h2⟩ := A6.out
        generalize decide (tod (zc / 10000) (zc / 100 % 100) (zc % 100) 0) = o at *
        go_wp2_with fail
        refine (TL.out _).mono ?_
        rintro e w7 ⟨rfl, hb⟩
        have B7 := Lib.hid (bstep B6.out hb)
        clear hb TL
        cases o with
        | true =>
          have TN := Lib.hid (YY.out IS.out TT.out)
          rw [TM.out] at TN
          unfold tlE
          generalize Cv.tell (ny zy + zd - 1) (zc / 10000) (zc / 100 % 100) (zc % 100) 0 = Z at *
          go_wp2_with fail
          go_ret2
          exact ⟨TN.out.symm, B7.out⟩
        | false =>
          have TN := Lib.hid (NN.out IS.out TT.out)
          unfold tlE
          go_wp2_with fail
          go_ret2
          exact ⟨TN.out.symm, B7.out⟩

set_option maxRecDepth 100000 in
set_option maxHeartbeats 8000000 in
theorem code_5 {s : ByteArray} {L : List Wd.W3} {w : World} (hs : s.size ≤ 1099511627776) (h : Wd.spR s = .inr L) (hn : L.length = 5) :
    Calls Tryz.prog 8 #[.string s] w fun e w' => e = cdE (Wd.spR s) ∧ Below w.heap.size w w' := by
  have SC := Lib.hid (Wd.Split_c s w hs)
  rw [h] at SC ⊢
  simp only [Wd.fWhy, Wd.fChar, Wd.fWords] at SC
  have AQ := Lib.hid (fun (v : Value) (w : World) (q : Wd.Rw w v L) => contains_c q)
  have CE : Hid (∀ w b off n cap, Wd.Rw w (.slice (some ⟨b, off, none⟩) n cap) L → w.cell? ⟨b, off, none⟩ = some (.string (tx L 0)) ∧ w.cell? ⟨b, off + 3, none⟩ = some (.string (tx L 1)) ∧ w.cell? ⟨b, off + 6, none⟩ = some (.string (tx L 2)) ∧ w.cell? ⟨b, off + 9, none⟩ = some (.string (tx L 3)) ∧ w.cell? ⟨b, off + 12, none⟩ = some (.string (tx L 4))) := Lib.hid fun w b off n cap q => ⟨rw_at q (j := 0) (by omega), rw_at q (j := 1) (by omega), rw_at q (j := 2) (by omega), rw_at q (j := 3) (by omega), rw_at q (j := 4) (by omega)⟩
  have IC : Hid (isCode L = (!anyq L && ((tx L 0).toList == [84]) && decide (0 ≤ nm (tx L 1) 4) && decide (0 ≤ nm (tx L 2) 3) && decide (0 ≤ nm (tx L 3) 6) && decide (0 ≤ nm (tx L 4) 1))) := Lib.hid (by
    unfold isCode cQ cY cD cC
    rw [hn]
    rfl)
  have TC : Hid (tellsC L = (dq (nm (tx L 1) 4) (nm (tx L 2) 3) && !(nm (tx L 4) 1 == 9) && decide (tod (nm (tx L 3) 6 / 10000) (nm (tx L 3) 6 / 100 % 100) (nm (tx L 3) 6 % 100) 0))) := Lib.hid (by
    unfold tellsC cQ cY cD cC
    rw [hn]
    rfl)
  have TM : Hid (timeC L = Cv.tell (ny (nm (tx L 1) 4) + nm (tx L 2) 3 - 1) (nm (tx L 3) 6 / 10000) (nm (tx L 3) 6 / 100 % 100) (nm (tx L 3) 6 % 100) 0) := Lib.hid rfl
  have NO : Hid (isCode L = false → cdE (.inr L) = .returned (.tuple #[.int .i64 0, .int .i64 4])) := Lib.hid cd_no
  have NN : Hid (isCode L = true → tellsC L = false → cdE (.inr L) = .returned (.tuple #[.int .i64 0, .int .i64 5])) := Lib.hid cd_none
  have YY : Hid (isCode L = true → tellsC L = true → cdE (.inr L) = .returned (.tuple #[.int .i64 (timeC L), .int .i64 0])) := Lib.hid cd_yes
  generalize hP : cdE (.inr L) = P at *
  have D1 := Lib.hid (fun w => digits_c (tx L 1) 4 (by omega) w)
  have D2 := Lib.hid (fun w => digits_c (tx L 2) 3 (by omega) w)
  have D3 := Lib.hid (fun w => pairs_c (tx L 3) w)
  have D4 := Lib.hid (fun b o cap w q => qual_one b o cap (tx L 4) w q)
  have q1 := nm_bd (tx L 4) 1
  have y1 := nm_bd (tx L 1) 4
  have d1 := nm_bd (tx L 2) 3
  have c1 := nm_bd (tx L 3) 6
  generalize nm (tx L 1) 4 = y at *
  generalize nm (tx L 2) 3 = d at *
  generalize nm (tx L 3) 6 = c at *
  generalize nm (tx L 4) 1 = q at *
  generalize tx L 0 = t0 at *
  generalize tx L 1 = t1 at *
  generalize tx L 2 = t2 at *
  generalize tx L 3 = t3 at *
  generalize tx L 4 = t4 at *
  generalize anyq L = aq at *
  replace y1 : -1 ≤ y ∧ y ≤ 9999 := by omega
  replace d1 : -1 ≤ d ∧ d ≤ 999 := by omega
  replace c1 : -1 ≤ c ∧ c ≤ 999999 := by omega
  obtain ⟨ry, hry⟩ : ∃ r, decide (0 ≤ y) = r := ⟨_, rfl⟩
  obtain ⟨zy, hzy⟩ : ∃ z, (if 0 ≤ y then y else 0) = z := ⟨_, rfl⟩
  obtain ⟨rd, hrd⟩ : ∃ r, decide (0 ≤ d) = r := ⟨_, rfl⟩
  obtain ⟨zd, hzd⟩ : ∃ z, (if 0 ≤ d then d else 0) = z := ⟨_, rfl⟩
  obtain ⟨rc, hrc⟩ : ∃ r, decide (0 ≤ c) = r := ⟨_, rfl⟩
  obtain ⟨zc, hzc⟩ : ∃ z, (if 0 ≤ c then c else 0) = z := ⟨_, rfl⟩
  have ZY : Hid (ry = true → zy = y ∧ 0 ≤ y) := Lib.hid fun q => by have q' : 0 ≤ y := of_decide_eq_true (hry.trans q); exact ⟨by rw [← hzy, if_pos q'], q'⟩
  have ZD : Hid (rd = true → zd = d ∧ 0 ≤ d) := Lib.hid fun q => by have q' : 0 ≤ d := of_decide_eq_true (hrd.trans q); exact ⟨by rw [← hzd, if_pos q'], q'⟩
  have ZC : Hid (rc = true → zc = c ∧ 0 ≤ c) := Lib.hid fun q => by have q' : 0 ≤ c := of_decide_eq_true (hrc.trans q); exact ⟨by rw [← hzc, if_pos q'], q'⟩
  obtain ⟨rq, hrq⟩ : ∃ r, decide (0 ≤ q) = r := ⟨_, rfl⟩
  obtain ⟨zq, hzq⟩ : ∃ z, (if 0 ≤ q then q else 0) = z := ⟨_, rfl⟩
  have ZQ : Hid (rq = true → zq = q ∧ 0 ≤ q) := Lib.hid fun k => by have q' : 0 ≤ q := of_decide_eq_true (hrq.trans k); exact ⟨by rw [← hzq, if_pos q'], q'⟩
  simp only [hrq, hzq, dgE] at D4 IC
  simp only [dgE, prE, pr3, hry, hrd, hrc, hzy, hzd, hzc] at D1 D2 D3 IC D4
  clear h hs hP hry hzy hrd hzd hrc hzc hrq hzq
  go_enter Tryz.func8, Tryz.ntmps8
  go_wp2_with fail
  refine SC.out.mono ?_
  rintro e w1 ⟨v, rfl, own, hb⟩
  have B1 := Lib.hid (balloc hb (.cells #[.int .i64 0, .int .i64 0, .int .i64 0] 59))
  have R1 := own.rw.below (balloc (brefl w1) (.cells #[.int .i64 0, .int .i64 0, .int .i64 0] 59))
  clear hb own SC
  obtain ⟨a, cap, rfl, m1, m2, m3⟩ := id R1
  obtain ⟨b, off, rfl, hbl, _⟩ := m3 (by omega)
  rw [hn] at R1 m1 ⊢
  have R1 := Lib.hid R1
  clear m3
  go_wp2_with fail
  refine (AQ.out _ _ R1.out).mono ?_
  rintro e w2 ⟨rfl, hb⟩
  have B2 := Lib.hid (bstep B1.out hb)
  have R2 := Lib.hid (R1.out.below hb)
  clear hb R1 AQ
  cases aq with
  | true =>
    go_wp2_with fail
    go_ret2
    exact ⟨(NO.out (by rw [IC.out]; rfl)).symm, B2.out⟩
  | false =>
    obtain ⟨c0, c3, c6, c9, c12⟩ := CE.out _ _ _ _ _ R2.out
    cases T : (t0.toList == [84]) with
    | false =>
      rw [T] at IC
      go_wp2_with fail
      go_ret2
      exact ⟨(NO.out (by rw [IC.out]; rfl)).symm, B2.out⟩
    | true =>
      rw [T] at IC
      go_wp2_with fail
      refine (D1.out _).mono ?_
      rintro e w' ⟨rfl, rfl⟩
      go_wp2_with fail
      refine (D2.out _).mono ?_
      rintro e w' ⟨rfl, rfl⟩
      go_wp2_with fail
      refine (D3.out _).mono ?_
      rintro e w3 ⟨rfl, hb⟩
      have B3 := Lib.hid (bstep B2.out hb)
      have R3 := Lib.hid (R2.out.below hb)
      clear hb R2 D1 D2 D3 T c0 c3 c6 c9 c12
      have A4 := Lib.hid (Ar3.new w3 (zc / 10000) (zc / 100 % 100) (zc % 100) 43)
      have R4 := Lib.hid (R3.out.below (balloc (brefl w3) (.cells #[.int .i64 (zc / 10000), .int .i64 (zc / 100 % 100), .int .i64 (zc % 100)] 43)))
      have B4 := Lib.hid (balloc B3.out (.cells #[.int .i64 (zc / 10000), .int .i64 (zc / 100 % 100), .int .i64 (zc % 100)] 43))
      obtain ⟨_, _, _, _, c12⟩ := CE.out _ _ _ _ _ R4.out
      have nc : ¬ cap = 4 := by omega
      go_wp2_with fail
      refine (D4.out _ _ _ _ c12).mono ?_
      rintro e w' ⟨rfl, rfl⟩
      cases ry with
      | false =>
        go_wp2_with fail
        go_ret2
        exact ⟨(NO.out (by rw [IC.out]; rfl)).symm, B4.out⟩
      | true =>
      obtain ⟨rfl, y0⟩ := ZY.out rfl
      cases rd with
      | false =>
        go_wp2_with fail
        go_ret2
        exact ⟨(NO.out (by rw [IC.out]; rfl)).symm, B4.out⟩
      | true =>
      obtain ⟨rfl, d0⟩ := ZD.out rfl
      cases rc with
      | false =>
        go_wp2_with fail
        go_ret2
        exact ⟨(NO.out (by rw [IC.out]; rfl)).symm, B4.out⟩
      | true =>
      obtain ⟨rfl, c0⟩ := ZC.out rfl
      cases rq with
      | false =>
        go_wp2_with fail
        go_ret2
        exact ⟨(NO.out (by rw [IC.out]; rfl)).symm, B4.out⟩
      | true =>
      obtain ⟨rfl, q0⟩ := ZQ.out rfl
      have IS := Lib.hid (show isCode L = true by rw [IC.out]; rfl)
      have DO := Lib.hid (fun w => dateOf_c zy zd w y0 (by omega) d0 (by omega))
      go_wp2_with fail
      refine (DO.out _).mono ?_
      rintro e w5 ⟨⟨a1, a2, a3, rfl, hd⟩, hb⟩
      have B5 := Lib.hid (bstep B4.out hb)
      have A5 := A4.out.below hb
      have B6 := Lib.hid (balloc B5.out (.cells #[.int .i64 a1, .int .i64 a2, .int .i64 a3] 51))
      have A6 := Lib.hid (A5.below (balloc (brefl w5) (.cells #[.int .i64 a1, .int .i64 a2, .int .i64 a3] 51)))
      clear hb A5 DO
      have HD := Lib.hid hd
      clear hd
      cases hq : dq zy zd with
      | false =>
        have TN := Lib.hid (NN.out IS.out (by rw [TC.out, hq]; rfl))
        go_wp2_with fail
        go_ret2
        exact ⟨TN.out.symm, B6.out⟩
      | true =>
      cases h9 : (zq == 9) with
      | true =>
        have TN := Lib.hid (NN.out IS.out (by rw [TC.out, hq, h9]; rfl))
        go_wp2_with fail
        go_ret2
        exact ⟨TN.out.symm, B6.out⟩
      | false =>
      obtain ⟨ho, hm⟩ := HD.out hq
      have TL := Lib.hid (fun w => tell_c a1 a2 a3 (zc / 10000) (zc / 100 % 100) (zc % 100) 0 w (decide (tod (zc / 10000) (zc / 100 % 100) (zc % 100) 0)) (by rw [decide_eq_true_iff]; exact ⟨fun k => ⟨ho, k⟩, fun k => k.2⟩))
      rw [hm] at TL
      have TT : Hid (tellsC L = decide (tod (zc / 10000) (zc / 100 % 100) (zc % 100) 0)) := Lib.hid (by rw [TC.out, hq, h9]; rfl)
      clear TC ho hm HD
      obtain ⟨_, h0, h1, h2⟩ := A6.out
      generalize decide (tod (zc / 10000) (zc / 100 % 100) (zc % 100) 0) = o at *
      go_wp2_with fail
      refine (TL.out _).mono ?_
      rintro e w7 ⟨rfl, hb⟩
      have B7 := Lib.hid (bstep B6.out hb)
      clear hb TL
      cases o with
      | true =>
        have TN := Lib.hid (YY.out IS.out TT.out)
        rw [TM.out] at TN
        unfold tlE
        generalize Cv.tell (ny zy + zd - 1) (zc / 10000) (zc / 100 % 100) (zc % 100) 0 = Z at *
        go_wp2_with fail
        go_ret2
        exact ⟨TN.out.symm, B7.out⟩
      | false =>
        have TN := Lib.hid (NN.out IS.out TT.out)
        unfold tlE
        go_wp2_with fail
        go_ret2
        exact ⟨TN.out.symm, B7.out⟩
end Go.Proofs.YtoecgabdjpgleaaGreatDoor.Rd
