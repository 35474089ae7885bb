/-
  Digits, and the contracts of civil.twoDigits, strconv.Itoa at four digits, sundialref03.digits at two and at four.
  Conditions: internal/strconv's table of powers of ten reads as its text lays it.
-/
import Derived.Test.YtmehknhajoemgaaDoorCvC
import Derived.Test.YtmehknhajoemgaaDoorShelfI
import Derived.Lib.AppendIntMem
import Derived.Deep.RegionHeld3
namespace Go.Proofs.YtmehknhajoemgaaDoor.Cv
open Go.RowKit
set_option linter.unusedVariables false
set_option linter.unusedSimpArgs false

/-- the table of powers of ten lies as it should. -/
def Tab (w : World) : Prop := Lib.TabIs Tryd.prog w "internal/strconv.uint64pow10" .u64 Lib.pow10Tab
theorem Tab.below {w w' : World} (h : Tab w) (k : Below w.heap.size w w') : Tab w' := Lib.tabBelow_of_tabIs h w' k

/-- a digit's byte. -/
def ch (n : Int) : UInt8 := UInt8.ofNat (48 + n.toNat)
/-- two digits. -/
def t2 (n : Int) : ByteArray := ⟨#[ch (n / 10), ch (n % 10)]⟩
/-- four digits. -/
def t4 (n : Int) : ByteArray := ⟨#[ch (n / 1000), ch (n / 100 % 10), ch (n / 10 % 10), ch (n % 10)]⟩

theorem dec1 {n : Nat} (h : n < 10) : Lib.decDigits n = [UInt8.ofNat (48 + n)] := by rw [Lib.decDigits, dif_pos h]
theorem decS {n : Nat} (h : ¬ n < 10) : Lib.decDigits n = Lib.decDigits (n / 10) ++ [UInt8.ofNat (48 + n % 10)] := by rw [Lib.decDigits, dif_neg h]
theorem dec2 {n : Nat} (h : 10 ≤ n) (h' : n < 100) : Lib.decDigits n = [UInt8.ofNat (48 + n / 10), UInt8.ofNat (48 + n % 10)] := by
  rw [decS (by omega), dec1 (by omega)]; rfl
theorem dec4 {n : Nat} (h : 1000 ≤ n) (h' : n < 10000) : Lib.decDigits n = [UInt8.ofNat (48 + n / 1000), UInt8.ofNat (48 + n / 100 % 10), UInt8.ofNat (48 + n / 10 % 10), UInt8.ofNat (48 + n % 10)] := by
  rw [decS (by omega), decS (by omega), dec2 (by omega) (by omega), show n / 10 / 10 / 10 = n / 1000 from by omega, show n / 10 / 10 % 10 = n / 100 % 10 from by omega]; rfl
theorem t4_itoa {y : Int} (h : 1000 ≤ y) (h' : y ≤ 9999) : (⟨(Lib.itoa y).toArray⟩ : ByteArray) = t4 y := by
  unfold Lib.itoa t4 ch
  rw [if_neg (by omega), dec4 (by omega) (by omega), show (y / 1000).toNat = y.toNat / 1000 from by omega, show (y / 100 % 10).toNat = y.toNat / 100 % 10 from by omega, show (y / 10 % 10).toNat = y.toNat / 10 % 10 from by omega, show (y % 10).toNat = y.toNat % 10 from by omega]

theorem below_grow (w : World) (k : Nat) (os : Array Obj) : Below w.heap.size w (Sort.grow (w.drewN k) os) :=
  ⟨rfl, rfl, rfl, by show w.heap.size ≤ (w.heap ++ os).size; rw [Array.size_append]; omega, fun j hj => Lib.heap_grow_old w k os j (by omega)⟩

theorem Itoa4_c (y : Int) (w : World) (T : Tab w) (h : 1000 ≤ y) (h' : y ≤ 9999) :
    Calls Tryd.prog 15 #[.int .i64 y] w fun e w' => e = .returned (.string (t4 y)) ∧ Below w.heap.size w w' :=
  (Tryd.strconv_Itoa y (by omega) (by omega) w T).mono fun e w' ⟨he, k, os, hw⟩ => ⟨by rw [he, t4_itoa h h'], by rw [hw]; exact below_grow w k os⟩

theorem two_low {n : Int} (h : 0 ≤ n) (h' : n < 10) : (⟨#[48]⟩ : ByteArray) ++ ⟨(Lib.decDigits n.toNat).toArray⟩ = t2 n := by
  rw [dec1 (by omega)]
  unfold t2 ch
  rw [show n / 10 = 0 from by omega, show n % 10 = n from by omega]
  rfl
theorem two_high {n : Int} (h : 10 ≤ n) (h' : n < 100) : (⟨(Lib.decDigits n.toNat).toArray⟩ : ByteArray) = t2 n := by
  rw [dec2 (by omega) (by omega)]
  unfold t2 ch
  rw [show (n / 10).toNat = n.toNat / 10 from by omega, show (n % 10).toNat = n.toNat % 10 from by omega]

theorem dec_size (n : Nat) (h : n < 100) : (⟨(Lib.decDigits n).toArray⟩ : ByteArray).size ≤ 2 := by
  by_cases c : n < 10
  · rw [dec1 c]; exact (by decide : 1 ≤ 2)
  · rw [dec2 (by omega) h]; exact (by decide : 2 ≤ 2)
/-- what is left of a number after k digits, and the last k digits. -/
def nn (n : Int) : Nat → Int
  | 0 => n
  | k + 1 => nn n k / 10
def sf (n : Int) : Nat → ByteArray
  | 0 => ⟨#[]⟩
  | k + 1 => ⟨#[ch (nn n k % 10)]⟩ ++ sf n k
theorem nn_bd {n : Int} (h : 0 ≤ n) (h' : n ≤ 9999) : ∀ k, 0 ≤ nn n k ∧ nn n k ≤ 9999
  | 0 => ⟨h, h'⟩
  | k + 1 => by have := nn_bd h h' k; simp only [nn]; omega
theorem sf2 {n : Int} (h : 0 ≤ n) (h' : n ≤ 99) : sf n 2 = t2 n := by
  simp only [sf, nn]
  rw [show n / 10 % 10 = n / 10 from by omega]
  rfl
theorem sf4 {n : Int} (h : 0 ≤ n) (h' : n ≤ 9999) : sf n 4 = t4 n := by
  simp only [sf, nn]
  rw [show n / 10 / 10 / 10 % 10 = n / 1000 from by omega, show n / 10 / 10 % 10 = n / 100 % 10 from by omega]
  rfl

theorem sf_size (n : Int) : ∀ k, (sf n k).size = k
  | 0 => rfl
  | k + 1 => by simp only [sf]; rw [ByteArray.size_append, sf_size n k, show (ByteArray.mk #[ch (nn n k % 10)]).size = 1 from rfl]; omega
theorem conv1 (w : World) (n : Int) (h : 0 ≤ n) (h' : n ≤ 9) :
    (convert 46 9 (.slice (some ⟨w.heap.size, 0, none⟩) 1 1)).run Tryd.prog (w.alloc (.cells #[.int .u8 (48 + n)] 5)) = .ok (.string ⟨#[ch n]⟩) (w.alloc (.cells #[.int .u8 (48 + n)] 5)) :=
  run_convert_bytes_back (w.alloc (.cells #[.int .u8 (48 + n)] 5)) 46 9 5 ⟨w.heap.size, 0, none⟩ 1 [ch n] Tryd.underlying46 Tryd.underlying5 Tryd.underlying9 (by
    intro j hj
    obtain rfl : j = 0 := by simp at hj; omega
    have : ((ch n).toNat : Int) = 48 + n := by unfold ch; simp; omega
    simp [go_sem, Addr.add, this])

end Go.Proofs.YtmehknhajoemgaaDoor.Cv
