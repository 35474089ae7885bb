/-
  What stands between a NMEA line's $ and *: radio.bodyOf; sundialref13.body.
  Conditions: the line has no more than 2^61 bytes.
-/
import Derived.Test.YtoecgabdjpgleaaGreatDoorRdI
namespace Go.Proofs.YtoecgabdjpgleaaGreatDoor.Rd
open Go.RowKit Cv
set_option linter.unusedVariables false
set_option linter.unusedSimpArgs false

theorem gn_ext {s : ByteArray} {a b i : Nat} (h : a + i < b) : Wd.gn (s.extract a b) i = Wd.gn s (a + i) := by
  unfold Wd.gn
  rw [Lib.extract_data, List.getD_eq_getElem?_getD, List.getD_eq_getElem?_getD, List.getElem?_take, if_pos (by omega), List.getElem?_drop]
theorem pre_has (s : ByteArray) (c : UInt8) : Lib.hasPrefix s.data.toList [c] = (decide (0 < s.size) && decide (Wd.gn s 0 = c.toNat)) := by
  have hl : s.data.toList.length = s.size := by rw [Array.length_toList]; rfl
  rw [Wd.gn, ← hl]
  cases h : s.data.toList with
  | nil => rfl
  | cons x l =>
    simp [Lib.hasPrefix, List.isPrefixOf]
    by_cases e : x = c
    · subst e; simp
    · have : ¬ x.toNat = c.toNat := fun h => e (UInt8.toNat_inj.1 h)
      rw [decide_eq_false this, beq_eq_false_iff_ne]
      exact fun h => e h.symm
theorem pre_cut (s : ByteArray) (c : UInt8) : (⟨(Lib.trimPrefix s.data.toList [c]).toArray⟩ : ByteArray) = if Lib.hasPrefix s.data.toList [c] = true then s.extract 1 s.size else s := by
  unfold Lib.trimPrefix
  split
  · apply ByteArray.ext
    apply Array.toList_inj.1
    rw [Lib.extract_data]
    simp only [List.length_singleton]
    rw [List.take_of_length_le]
    rw [List.length_drop, Array.length_toList]
    exact Nat.le_refl _
  · rfl

/-- a character of a body, but for *; a digit of the base sixteen. -/
def okc (x : Nat) : Bool := decide (32 ≤ x) && decide (x ≤ 126) && !decide (x = 36)
def bdy (s : ByteArray) : Bool := (List.range s.size).all fun i => okc (Wd.gn s i)
def hxd (x : Nat) : Bool := decide (48 ≤ x ∧ x ≤ 57) || decide (65 ≤ x ∧ x ≤ 70)
def iss (s : ByteArray) : Bool := decide (s.size = 2) && hxd (Wd.gn s 0) && hxd (Wd.gn s 1)
theorem bdy_iff {s : ByteArray} : bdy s = true ↔ ∀ i, i < s.size → okc (Wd.gn s i) = true := by
  simp only [bdy, List.all_eq_true, List.mem_range]
theorem bdy_no {s : ByteArray} {k : Nat} (h : k < s.size) (hk : okc (Wd.gn s k) = false) : bdy s = false := by
  cases h' : bdy s with
  | false => rfl
  | true => rw [bdy_iff.1 h' k h] at hk; cases hk

set_option maxRecDepth 100000 in
set_option maxHeartbeats 2000000 in
theorem isBody_c (s : ByteArray) (w : World) (hs : s.size ≤ 9223372036854775807) :
    Calls Tryz.prog 42 #[.string s] w fun e w' => e = .returned (.bool (bdy s)) ∧ w' = w := by
  have NB : Hid (∀ k, k < s.size → okc (Wd.gn s k) = false → bdy s = false) := Lib.hid fun k => bdy_no
  have YB : Hid ((∀ i, i < s.size → okc (Wd.gn s i) = true) → bdy s = true) := Lib.hid bdy_iff.2
  generalize bdy s = r at *
  go_enter Tryz.func42, Tryz.ntmps42
  go_wp2_with fail
  go_loopw [6] (fun i wr => ∃ k : Nat, k ≤ s.size ∧ i = .int .i64 k ∧ (∀ j, j < k → okc (Wd.gn s j) = true) ∧ wr = w) (fun i _ => s.size - (intOf i).toNat)
  case atStart => exact ⟨0, Nat.zero_le _, rfl, fun j hj => absurd hj (Nat.not_lt_zero _), rfl⟩
  case round =>
    obtain ⟨k, hk, rfl, hno, rfl⟩ := hrel
    have NO := Lib.hid hno
    clear hno
    by_cases c : k < s.size
    · have e0 : decide ((k : Int) < (s.size : Int)) = true := by rw [decide_eq_true_iff]; omega
      have ga := Wd.gn_at s k c
      have gl := Wd.gn_lt s k
      have HD : Hid (okc (Wd.gn s k) = (decide (32 ≤ Wd.gn s k) && decide (Wd.gn s k ≤ 126) && !decide (Wd.gn s k = 36))) := Lib.hid rfl
      have NX : Hid (okc (Wd.gn s k) = true → ∀ j, j < k + 1 → okc (Wd.gn s j) = true) := Lib.hid (fun h j hj => by
        by_cases e : j = k
        · subst e; exact h
        · exact NO.out j (by omega))
      have NK := Lib.hid (NB.out k c)
      generalize hx : Wd.gn s k = x at *
      clear hx
      by_cases d1 : x < 32
      · have e1 : decide ((x : Int) < 32) = true := by rw [decide_eq_true_iff]; omega
        have RF := NK.out (by rw [HD.out, decide_eq_false (show ¬ 32 ≤ x by omega)]; rfl)
        go_wp2_with fail
        go_ret
        exact ⟨by rw [RF]; rfl, rfl⟩
      · have e1 : decide ((x : Int) < 32) = false := by rw [decide_eq_false_iff_not]; omega
        by_cases d2 : 126 < x
        · have e2 : decide (126 < (x : Int)) = true := by rw [decide_eq_true_iff]; omega
          have RF := NK.out (by rw [HD.out, decide_eq_false (show ¬ x ≤ 126 by omega), Bool.and_false]; rfl)
          go_wp2_with fail
          go_ret
          exact ⟨by rw [RF]; rfl, rfl⟩
        · have e2 : decide (126 < (x : Int)) = false := by rw [decide_eq_false_iff_not]; omega
          by_cases d3 : x = 36
          · have RF := NK.out (by rw [HD.out, decide_eq_true d3, Bool.not_true, Bool.and_false])
            subst d3
            go_wp2_with fail
            go_ret
            exact ⟨rfl, rfl⟩
          · have e3 : ((x : Int) == 36) = false := by simp; omega
            have NY := Lib.hid (NX.out (by rw [HD.out, decide_eq_true (show 32 ≤ x by omega), decide_eq_true (show x ≤ 126 by omega), decide_eq_false d3]; rfl))
            go_wp2_with fail
            go_roundw
            case rel => exact ⟨k + 1, by omega, by go_num, NY.out, trivial⟩
            case measure => simp [intOf]; omega
    · have e0 : decide ((k : Int) < (s.size : Int)) = false := by rw [decide_eq_false_iff_not]; omega
      have RF := Lib.hid (YB.out fun i hi => NO.out i (by omega))
      go_wp2_with fail
      go_ret
      exact ⟨by first | rfl | (rw [RF.out]; rfl), rfl⟩

theorem hx_all : ∀ x : Fin 256, decide (0 ≤ Lib.indexByte [48, 49, 50, 51, 52, 53, 54, 55, 56, 57, 65, 66, 67, 68, 69, 70] (UInt8.ofNat x.val)) = hxd x.val := by decide +kernel
theorem hx_is (x : Nat) (h : x < 256) : decide (0 ≤ Lib.indexByte [48, 49, 50, 51, 52, 53, 54, 55, 56, 57, 65, 66, 67, 68, 69, 70] ((x : Int).toNat.toUInt8)) = hxd x := hx_all ⟨x, h⟩
set_option maxRecDepth 100000 in
set_option maxHeartbeats 2000000 in
theorem isSum_c (s : ByteArray) (w : World) :
    Calls Tryz.prog 43 #[.string s] w fun e w' => e = .returned (.bool (iss s)) ∧ w' = w := by
  by_cases c : s.size = 2
  · have p0 : 0 < s.size := by omega
    have p1 : 1 < s.size := by omega
    have g0 := Wd.gn_at s 0 p0
    have g1 := Wd.gn_at s 1 p1
    have l0 := Wd.gn_lt s 0
    have l1 := Wd.gn_lt s 1
    have HE : Hid (iss s = (hxd (Wd.gn s 0) && hxd (Wd.gn s 1))) := Lib.hid (by rw [iss, decide_eq_true c, Bool.true_and])
    have I0 := Lib.hid (fun w => IndexByte_c ⟨#[48, 49, 50, 51, 52, 53, 54, 55, 56, 57, 65, 66, 67, 68, 69, 70]⟩ (Wd.gn s 0 : Int) w)
    have I1 := Lib.hid (fun w => IndexByte_c ⟨#[48, 49, 50, 51, 52, 53, 54, 55, 56, 57, 65, 66, 67, 68, 69, 70]⟩ (Wd.gn s 1 : Int) w)
    have h0 := hx_is _ l0
    have h1 := hx_is _ l1
    simp only at I0 I1
    generalize Lib.indexByte [48, 49, 50, 51, 52, 53, 54, 55, 56, 57, 65, 66, 67, 68, 69, 70] ((Wd.gn s 0 : Int).toNat.toUInt8) = i0 at *
    generalize Lib.indexByte [48, 49, 50, 51, 52, 53, 54, 55, 56, 57, 65, 66, 67, 68, 69, 70] ((Wd.gn s 1 : Int).toNat.toUInt8) = i1 at *
    rw [HE.out]
    clear HE
    generalize hxd (Wd.gn s 0) = b0 at *
    generalize hxd (Wd.gn s 1) = b1 at *
    generalize Wd.gn s 0 = x0 at *
    generalize Wd.gn s 1 = x1 at *
    cases b0 with
    | false =>
      go_enter Tryz.func43, Tryz.ntmps43
      go_wp2_with fail
      refine (I0.out _).mono ?_
      rintro e w' ⟨rfl, rfl⟩
      go_wp2_with fail
      go_ret
      exact ⟨rfl, rfl⟩
    | true =>
      go_enter Tryz.func43, Tryz.ntmps43
      go_wp2_with fail
      refine (I0.out _).mono ?_
      rintro e w' ⟨rfl, rfl⟩
      go_wp2_with fail
      refine (I1.out _).mono ?_
      rintro e w' ⟨rfl, rfl⟩
      go_wp2_with fail
      go_ret
      exact ⟨rfl, rfl⟩
  · have HE : Hid (iss s = false) := Lib.hid (by rw [iss, decide_eq_false c]; rfl)
    have e0 : ((s.size : Int) == 2) = false := by simp; omega
    rw [HE.out]
    go_enter Tryz.func43, Tryz.ntmps43
    go_wp2_with fail
    go_ret
    exact ⟨rfl, rfl⟩

/-- the line is a NMEA line, but for its last two digits. -/
def okL (s : ByteArray) : Prop := 4 ≤ s.size ∧ Wd.gn s 0 = 36 ∧ Wd.gn s (s.size - 3) = 42 ∧ hxd (Wd.gn s (s.size - 2)) = true ∧ hxd (Wd.gn s (s.size - 1)) = true ∧ ∀ i, 1 ≤ i → i < s.size - 3 → okc (Wd.gn s i) = true ∧ Wd.gn s i ≠ 42
def bodyL (s : ByteArray) : ByteArray := s.extract 1 (s.size - 3)
def sumL (s : ByteArray) : ByteArray := s.extract (s.size - 2) s.size
theorem hxd_42 : hxd 42 = false := by decide
theorem size_ext (s : ByteArray) (a b : Nat) (h : b ≤ s.size) : (s.extract a b).size = b - a := by
  rw [ByteArray.size_extract]
  omega
theorem ext_ext (s : ByteArray) (a b c d : Nat) (h : d ≤ b - a) : (s.extract a b).extract c d = s.extract (a + c) (a + d) := by
  apply ByteArray.ext
  apply Array.toList_inj.1
  rw [Lib.extract_data, Lib.extract_data, Lib.extract_data, List.drop_take, List.drop_drop, List.take_take]
  congr 1
  omega
/-- what the program looks at: behind the $, ahead of the first *, behind it. -/
theorem okL_iff (s : ByteArray) : okL s ↔ (0 < s.size ∧ Wd.gn s 0 = 36 ∧ Wd.di (s.extract 1 s.size) 42 < s.size - 1 ∧ bdy ((s.extract 1 s.size).extract 0 (Wd.di (s.extract 1 s.size) 42)) = true ∧ iss ((s.extract 1 s.size).extract (Wd.di (s.extract 1 s.size) 42 + 1) (s.extract 1 s.size).size) = true) := by
  have ts := size_ext s 1 s.size (Nat.le_refl _)
  have tg : ∀ j, j < s.size - 1 → Wd.gn (s.extract 1 s.size) j = Wd.gn s (j + 1) := fun j hj => by rw [gn_ext (by omega), Nat.add_comm]
  have sp := Wd.di_spec (s.extract 1 s.size) 42
  generalize Wd.di (s.extract 1 s.size) 42 = q at *
  constructor
  · rintro ⟨h1, h2, h3, h4, h5, h6⟩
    have q1 : q = s.size - 4 := by
      rcases sp with ⟨_, _, e3⟩ | ⟨_, e2, e3, e4⟩
      · exfalso
        have := e3 (s.size - 4) (by omega)
        rw [tg _ (by omega), show s.size - 4 + 1 = s.size - 3 by omega] at this
        exact this h3
      · rcases Nat.lt_trichotomy q (s.size - 4) with c | c | c
        · exfalso
          rw [tg q (by omega)] at e3
          exact (h6 (q + 1) (by omega) (by omega)).2 e3
        · exact c
        · exfalso
          have := e4 (s.size - 4) c
          rw [tg _ (by omega), show s.size - 4 + 1 = s.size - 3 by omega] at this
          exact this h3
    subst q1
    refine ⟨by omega, h2, by omega, ?_, ?_⟩
    · refine bdy_iff.2 fun i hi => ?_
      rw [size_ext _ _ _ (by omega)] at hi
      rw [gn_ext (by omega), tg _ (by omega)]
      exact (h6 _ (by omega) (by omega)).1
    · have e := size_ext (s.extract 1 s.size) (s.size - 4 + 1) (s.extract 1 s.size).size (Nat.le_refl _)
      have k0 : Wd.gn ((s.extract 1 s.size).extract (s.size - 4 + 1) (s.extract 1 s.size).size) 0 = Wd.gn s (s.size - 2) := by
        rw [gn_ext (by omega), tg _ (by omega), show s.size - 4 + 1 + 0 + 1 = s.size - 2 by omega]
      have k1 : Wd.gn ((s.extract 1 s.size).extract (s.size - 4 + 1) (s.extract 1 s.size).size) 1 = Wd.gn s (s.size - 1) := by
        rw [gn_ext (by omega), tg _ (by omega), show s.size - 4 + 1 + 1 + 1 = s.size - 1 by omega]
      rw [iss, decide_eq_true (by omega), k0, k1, h4, h5]
      rfl
  · rintro ⟨h1, h2, h3, h4, h5⟩
    have e := size_ext (s.extract 1 s.size) (q + 1) (s.extract 1 s.size).size (Nat.le_refl _)
    rw [iss, Bool.and_eq_true, Bool.and_eq_true, decide_eq_true_iff] at h5
    obtain ⟨⟨g1, g2⟩, g3⟩ := h5
    have q1 : q = s.size - 4 := by omega
    have n4 : 4 ≤ s.size := by omega
    rw [gn_ext (by omega), tg _ (by omega), show q + 1 + 0 + 1 = s.size - 2 by omega] at g2
    rw [gn_ext (by omega), tg _ (by omega), show q + 1 + 1 + 1 = s.size - 1 by omega] at g3
    rcases sp with ⟨_, e2, _⟩ | ⟨_, e2, e3, e4⟩
    · omega
    · rw [tg q (by omega), show q + 1 = s.size - 3 by omega] at e3
      refine ⟨n4, h2, e3, g2, g3, fun i i1 i2 => ⟨?_, ?_⟩⟩
      · have := bdy_iff.1 h4 (i - 1) (by rw [size_ext _ _ _ (by omega)]; omega)
        rw [gn_ext (by omega), tg _ (by omega), show 0 + (i - 1) + 1 = i by omega] at this
        exact this
      · have := e4 (i - 1) (by omega)
        rw [tg _ (by omega), show i - 1 + 1 = i by omega] at this
        exact this
theorem okL_q {s : ByteArray} (h : okL s) : Wd.di (s.extract 1 s.size) 42 = s.size - 4 := by
  obtain ⟨h1, h2, h3, h4, h5⟩ := (okL_iff s).1 h
  have ts := size_ext s 1 s.size (Nat.le_refl _)
  have e := size_ext (s.extract 1 s.size) (Wd.di (s.extract 1 s.size) 42 + 1) (s.extract 1 s.size).size (Nat.le_refl _)
  rw [iss, Bool.and_eq_true, Bool.and_eq_true, decide_eq_true_iff] at h5
  have := h5.1.1
  omega
instance (s : ByteArray) : Decidable (okL s) := decidable_of_iff _ (okL_iff s).symm
/-- what bodyOf answers. -/
def bdE (s : ByteArray) : Ending := .returned (.tuple #[.string (if okL s then (if sumL s = sumT (bodyL s) then bodyL s else ⟨#[]⟩) else ⟨#[]⟩), .int .i64 (if okL s then (if sumL s = sumT (bodyL s) then 0 else 31) else 4)])
end Go.Proofs.YtoecgabdjpgleaaGreatDoor.Rd
