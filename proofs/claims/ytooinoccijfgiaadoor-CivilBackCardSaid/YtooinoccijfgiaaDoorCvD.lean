/-
  Digits, and the contracts of civil.twoDigits, strconv.Itoa at four digits, sundialref03.digits at two and at four.
  Conditions: internal/strconv's table of powers of ten reads as its text lays it.
-/
import Derived.Test.YtooinoccijfgiaaDoorCvC
import Derived.Test.YtooinoccijfgiaaDoorShelfI
import Derived.Lib.AppendIntMem
import Derived.Deep.RegionHeld3
namespace Go.Proofs.YtooinoccijfgiaaDoor.Cv
open Go.RowKit
set_option linter.unusedVariables false
set_option linter.unusedSimpArgs false

/-- the table of powers of ten lies as it should. -/
def Tab (w : World) : Prop := Lib.TabIs Tryd.prog w "internal/strconv.uint64pow10" .u64 Lib.pow10Tab
theorem Tab.below {w w' : World} (h : Tab w) (k : Below w.heap.size w w') : Tab w' := Lib.tabBelow_of_tabIs h w' k

/-- a digit's byte. -/
def ch (n : Int) : UInt8 := UInt8.ofNat (48 + n.toNat)
/-- two digits. -/
def t2 (n : Int) : ByteArray := ⟨#[ch (n / 10), ch (n % 10)]⟩
/-- four digits. -/
def t4 (n : Int) : ByteArray := ⟨#[ch (n / 1000), ch (n / 100 % 10), ch (n / 10 % 10), ch (n % 10)]⟩

theorem dec1 {n : Nat} (h : n < 10) : Lib.decDigits n = [UInt8.ofNat (48 + n)] := by rw [Lib.decDigits, dif_pos h]
theorem decS {n : Nat} (h : ¬ n < 10) : Lib.decDigits n = Lib.decDigits (n / 10) ++ [UInt8.ofNat (48 + n % 10)] := by rw [Lib.decDigits, dif_neg h]
theorem dec2 {n : Nat} (h : 10 ≤ n) (h' : n < 100) : Lib.decDigits n = [UInt8.ofNat (48 + n / 10), UInt8.ofNat (48 + n % 10)] := by
  rw [decS (by omega), dec1 (by omega)]; rfl
theorem dec4 {n : Nat} (h : 1000 ≤ n) (h' : n < 10000) : Lib.decDigits n = [UInt8.ofNat (48 + n / 1000), UInt8.ofNat (48 + n / 100 % 10), UInt8.ofNat (48 + n / 10 % 10), UInt8.ofNat (48 + n % 10)] := by
  rw [decS (by omega), decS (by omega), dec2 (by omega) (by omega), show n / 10 / 10 / 10 = n / 1000 from by omega, show n / 10 / 10 % 10 = n / 100 % 10 from by omega]; rfl
theorem t4_itoa {y : Int} (h : 1000 ≤ y) (h' : y ≤ 9999) : (⟨(Lib.itoa y).toArray⟩ : ByteArray) = t4 y := by
  unfold Lib.itoa t4 ch
  rw [if_neg (by omega), dec4 (by omega) (by omega), show (y / 1000).toNat = y.toNat / 1000 from by omega, show (y / 100 % 10).toNat = y.toNat / 100 % 10 from by omega, show (y / 10 % 10).toNat = y.toNat / 10 % 10 from by omega, show (y % 10).toNat = y.toNat % 10 from by omega]

theorem below_grow (w : World) (k : Nat) (os : Array Obj) : Below w.heap.size w (Sort.grow (w.drewN k) os) :=
  ⟨rfl, rfl, rfl, by show w.heap.size ≤ (w.heap ++ os).size; rw [Array.size_append]; omega, fun j hj => Lib.heap_grow_old w k os j (by omega)⟩

theorem Itoa4_c (y : Int) (w : World) (T : Tab w) (h : 1000 ≤ y) (h' : y ≤ 9999) :
    Calls Tryd.prog 33 #[.int .i64 y] w fun e w' => e = .returned (.string (t4 y)) ∧ Below w.heap.size w w' :=
  (Tryd.strconv_Itoa y (by omega) (by omega) w T).mono fun e w' ⟨he, k, os, hw⟩ => ⟨by rw [he, t4_itoa h h'], by rw [hw]; exact below_grow w k os⟩

theorem two_low {n : Int} (h : 0 ≤ n) (h' : n < 10) : (⟨#[48]⟩ : ByteArray) ++ ⟨(Lib.decDigits n.toNat).toArray⟩ = t2 n := by
  rw [dec1 (by omega)]
  unfold t2 ch
  rw [show n / 10 = 0 from by omega, show n % 10 = n from by omega]
  rfl
theorem two_high {n : Int} (h : 10 ≤ n) (h' : n < 100) : (⟨(Lib.decDigits n.toNat).toArray⟩ : ByteArray) = t2 n := by
  rw [dec2 (by omega) (by omega)]
  unfold t2 ch
  rw [show (n / 10).toNat = n.toNat / 10 from by omega, show (n % 10).toNat = n.toNat % 10 from by omega]

theorem dec_size (n : Nat) (h : n < 100) : (⟨(Lib.decDigits n).toArray⟩ : ByteArray).size ≤ 2 := by
  by_cases c : n < 10
  · rw [dec1 c]; exact (by decide : 1 ≤ 2)
  · rw [dec2 (by omega) h]; exact (by decide : 2 ≤ 2)
theorem two_c (n : Int) (w : World) (h : 0 ≤ n) (h' : n < 100) :
    Calls Tryd.prog 34 #[.int .i64 n] w fun e w' => e = .returned (.string (t2 n)) ∧ w' = w := by
  have I : ∀ w, Calls Tryd.prog 33 #[.int .i64 n] w fun e w' => e = .returned (.string ⟨(Lib.decDigits n.toNat).toArray⟩) ∧ w' = w := fun w => by
    have := Tryd.strconv_Itoa_small n.toNat (by omega) w
    rwa [show ((n.toNat : Nat) : Int) = n from by omega] at this
  replace I := Lib.hid I
  by_cases c : n < 10
  · have e0 : decide (n < 10) = true := decide_eq_true c
    have E := Lib.hid (two_low h c)
    have z := dec_size n.toNat (by omega)
    generalize (⟨(Lib.decDigits n.toNat).toArray⟩ : ByteArray) = s at *
    go_enter Tryd.func34, Tryd.ntmps34
    go_wp2_with fail
    refine (I.out _).mono ?_
    rintro e w' ⟨rfl, rfl⟩
    go_wp2_with fail
    go_ret
    exact ⟨by rw [← E.out]; rfl, rfl⟩
  · have e0 : decide (n < 10) = false := decide_eq_false c
    have E := Lib.hid (two_high (n := n) (by omega) h')
    have z := dec_size n.toNat (by omega)
    generalize (⟨(Lib.decDigits n.toNat).toArray⟩ : ByteArray) = s at *
    go_enter Tryd.func34, Tryd.ntmps34
    go_wp2_with fail
    refine (I.out _).mono ?_
    rintro e w' ⟨rfl, rfl⟩
    go_wp2_with fail
    go_ret
    exact ⟨by rw [← E.out]; rfl, rfl⟩

/-- what is left of a number after k digits, and the last k digits. -/
def nn (n : Int) : Nat → Int
  | 0 => n
  | k + 1 => nn n k / 10
def sf (n : Int) : Nat → ByteArray
  | 0 => ⟨#[]⟩
  | k + 1 => ⟨#[ch (nn n k % 10)]⟩ ++ sf n k
theorem nn_bd {n : Int} (h : 0 ≤ n) (h' : n ≤ 9999) : ∀ k, 0 ≤ nn n k ∧ nn n k ≤ 9999
  | 0 => ⟨h, h'⟩
  | k + 1 => by have := nn_bd h h' k; simp only [nn]; omega
theorem sf2 {n : Int} (h : 0 ≤ n) (h' : n ≤ 99) : sf n 2 = t2 n := by
  simp only [sf, nn]
  rw [show n / 10 % 10 = n / 10 from by omega]
  rfl
theorem sf4 {n : Int} (h : 0 ≤ n) (h' : n ≤ 9999) : sf n 4 = t4 n := by
  simp only [sf, nn]
  rw [show n / 10 / 10 / 10 % 10 = n / 1000 from by omega, show n / 10 / 10 % 10 = n / 100 % 10 from by omega]
  rfl

theorem sf_size (n : Int) : ∀ k, (sf n k).size = k
  | 0 => rfl
  | k + 1 => by simp only [sf]; rw [ByteArray.size_append, sf_size n k, show (ByteArray.mk #[ch (nn n k % 10)]).size = 1 from rfl]; omega
theorem conv1 (w : World) (n : Int) (h : 0 ≤ n) (h' : n ≤ 9) :
    (convert 67 9 (.slice (some ⟨w.heap.size, 0, none⟩) 1 1)).run Tryd.prog (w.alloc (.cells #[.int .u8 (48 + n)] 5)) = .ok (.string ⟨#[ch n]⟩) (w.alloc (.cells #[.int .u8 (48 + n)] 5)) :=
  run_convert_bytes_back (w.alloc (.cells #[.int .u8 (48 + n)] 5)) 67 9 5 ⟨w.heap.size, 0, none⟩ 1 [ch n] Tryd.underlying67 Tryd.underlying5 Tryd.underlying9 (by
    intro j hj
    obtain rfl : j = 0 := by simp at hj; omega
    have : ((ch n).toNat : Int) = 48 + n := by unfold ch; simp; omega
    simp [go_sem, Addr.add, this])

set_option maxRecDepth 100000 in
set_option maxHeartbeats 1000000 in
theorem rdigits_c (n : Int) (b : Nat) (w : World) (h : 0 ≤ n) (h' : n ≤ 9999) (hb : b ≤ 4) :
    Calls Tryd.prog 35 #[.int .i64 n, .int .i64 b] w fun e w' => e = .returned (.string (sf n b)) ∧ Below w.heap.size w w' := by
  go_enter Tryd.func35, Tryd.ntmps35
  go_wp2_with fail
  go_loopw [0, 5, 6] (fun z s i wr => ∃ k : Nat, k ≤ b ∧ i = .int .i64 k ∧ z = .int .i64 (nn n k) ∧ s = .string (sf n k) ∧ Below w.heap.size w wr) (fun _ _ i _ => b - (intOf i).toNat)
  case atStart => exact ⟨0, by omega, rfl, rfl, rfl, brefl w⟩
  case round =>
    obtain ⟨k, hk, rfl, rfl, rfl, hb⟩ := hrel
    have HB := Lib.hid hb
    clear hb
    have N : nn n (k + 1) = nn n k / 10 := rfl
    have S : sf n (k + 1) = ⟨#[ch (nn n k % 10)]⟩ ++ sf n k := rfl
    have N := Lib.hid N
    have S := Lib.hid S
    have B := nn_bd h h' k
    have Z := sf_size n k
    generalize hs : sf n k = s at *
    generalize nn n k = z at *
    have HS := Lib.hid hs
    clear hs
    obtain ⟨B1, B2⟩ := B
    have q1 : z.tmod 10 = z % 10 := Int.tmod_eq_emod_of_nonneg B1
    have q2 : z.tdiv 10 = z / 10 := Int.tdiv_eq_ediv_of_nonneg B1
    by_cases c : k < b
    · have e0 : decide ((k : Int) < (b : Int)) = true := by rw [decide_eq_true_iff]; omega
      have HC := conv1 wr (z % 10) (by omega) (by omega)
      go_wp2_with fail
      go_roundw
      case rel => exact ⟨k + 1, by omega, by go_num, by rw [N.out], by rw [S.out], balloc HB.out _⟩
      case measure => simp [intOf]; omega
    · have e0 : decide ((k : Int) < (b : Int)) = false := by rw [decide_eq_false_iff_not]; omega
      obtain rfl : b = k := by omega
      go_wp2_with fail
      go_ret
      exact ⟨by rw [HS.out]; rfl, HB.out⟩
end Go.Proofs.YtooinoccijfgiaaDoor.Cv
