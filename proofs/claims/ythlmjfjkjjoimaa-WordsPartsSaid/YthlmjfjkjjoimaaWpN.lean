/-
  Texts of numbers: the contract of the law's own digits; what they say.
-/
import Derived.Test.YthlmjfjkjjoimaaWpM
namespace Go.Proofs.Ythlmjfjkjjoimaa.Wd
open Go.ChangeShapes Go.WideShapes Go.ChangeAt Go.RowKit Go.Joins By
set_option linter.unusedVariables false
set_option linter.unusedSimpArgs false

theorem app_list (a b : ByteArray) : (a ++ b).data.toList = a.data.toList ++ b.data.toList := by simp
theorem len_list (a : ByteArray) : a.data.toList.length = a.size := by rw [Array.length_toList]; rfl
theorem gn_left {a b : ByteArray} {i : Nat} (h : i < a.size) : gn (a ++ b) i = gn a i := by
  unfold gn
  rw [app_list, List.getD_eq_getElem?_getD, List.getElem?_append_left (by rw [len_list]; exact h), ← List.getD_eq_getElem?_getD]
theorem gn_right (a b : ByteArray) (i : Nat) : gn (a ++ b) (a.size + i) = gn b i := by
  unfold gn
  rw [app_list, List.getD_eq_getElem?_getD, List.getElem?_append_right (by rw [len_list]; omega), len_list, show a.size + i - a.size = i from by omega, ← List.getD_eq_getElem?_getD]
theorem gn_ext {s : ByteArray} {a b i : Nat} (h : a + i < b) : gn (s.extract a b) i = gn s (a + i) := by
  unfold gn
  rw [Lib.extract_data, List.getD_eq_getElem?_getD, List.getElem?_take_of_lt (by omega), List.getElem?_drop, ← List.getD_eq_getElem?_getD]
theorem list_ba {a b : ByteArray} (h : a.data.toList = b.data.toList) : a = b := ByteArray.ext (Array.toList_inj.1 h)
theorem ext_left (a b : ByteArray) : (a ++ b).extract 0 a.size = a := by
  apply list_ba
  rw [Lib.extract_data, app_list]
  simp only [List.drop_zero, Nat.sub_zero]
  rw [← len_list a]
  exact List.take_left
theorem ext_right (a b : ByteArray) : (a ++ b).extract a.size (a ++ b).size = b := by
  apply list_ba
  rw [Lib.extract_data, app_list, ByteArray.size_append, ← len_list a, List.drop_left]
  apply List.take_of_length_le
  rw [len_list, len_list]
  omega
theorem va_congr {a b : ByteArray} : ∀ k, (∀ i, i < k → gn a i = gn b i) → va a k = va b k
  | 0, _ => rfl
  | k + 1, h => by rw [va, va, va_congr k (fun i hi => h i (by omega)), h k (by omega)]
theorem va_head (s : ByteArray) (t : ByteArray) : ∀ k, (∀ i, i < k → gn t i = gn s (i + 1)) → va s (k + 1) = (gn s 0 - 48) * 10 ^ k + va t k
  | 0, _ => by simp [va]
  | k + 1, h => by
    rw [va, va_head s t k (fun i hi => h i (by omega)), va, h k (by omega), Nat.pow_succ]
    generalize (gn s 0 - 48) = x
    generalize (10 : Nat) ^ k = y
    rw [Nat.mul_add, ← Nat.mul_assoc, ← Nat.mul_assoc, Nat.mul_comm 10 x, Nat.mul_assoc x 10 y, Nat.mul_assoc x y 10, Nat.mul_comm 10 y]
    omega

/-- a number's digits. -/
def dsF : Nat → Nat → ByteArray
  | 0, n => bs8 [48 + n]
  | f + 1, n => if n < 10 then bs8 [48 + n] else dsF f (n / 10) ++ bs8 [48 + n % 10]
theorem bs1 (x : Nat) (h : x < 256) : gn (bs8 [x]) 0 = x := by
  simp [gn, bs8, Nat.mod_eq_of_lt h]
theorem bs1_size (x : Nat) : (bs8 [x]).size = 1 := rfl
structure Ds (n : Nat) (s : ByteArray) (m : Nat) : Prop where
  dig : ∀ i, i < s.size → dig (gn s i) = true
  val : va s s.size = n
  pos : 0 < s.size
  most : s.size ≤ m
  lead : 1 < s.size → gn s 0 ≠ 48
theorem dig_of {x : Nat} (h : 48 ≤ x ∧ x ≤ 57) : dig x = true := by simp [dig]; exact h
theorem ds_one {n : Nat} (h : n < 10) (m : Nat) (hm : 0 < m) : Ds n (bs8 [48 + n]) m :=
  ⟨fun i hi => by
      rw [bs1_size] at hi
      obtain rfl : i = 0 := by omega
      rw [bs1 _ (by omega)]
      exact dig_of (by omega),
    by rw [bs1_size, va, va, bs1 _ (by omega)]; omega, by rw [bs1_size]; omega, by rw [bs1_size]; omega, fun h => by rw [bs1_size] at h; omega⟩
theorem ds_spec : ∀ f n, n < 10 ^ (f + 1) → Ds n (dsF f n) (f + 1)
  | 0, n, h => ds_one (by simpa using h) 1 (by omega)
  | f + 1, n, h => by
    rw [dsF]
    split
    · rename_i c
      exact ds_one c _ (by omega)
    · rename_i c
      have hq : n / 10 < 10 ^ (f + 1) := by rw [Nat.pow_succ] at h; omega
      have D := ds_spec f (n / 10) hq
      generalize dsF f (n / 10) = a at *
      have sz : (a ++ bs8 [48 + n % 10]).size = a.size + 1 := by rw [ByteArray.size_append, bs1_size]
      have gl : gn (a ++ bs8 [48 + n % 10]) a.size = 48 + n % 10 := by
        have := gn_right a (bs8 [48 + n % 10]) 0
        rw [Nat.add_zero] at this
        rw [this, bs1 _ (by omega)]
      refine ⟨fun i hi => ?_, ?_, by omega, by have := D.most; omega, fun _ => ?_⟩
      · by_cases e : i < a.size
        · rw [gn_left e]; exact D.dig i e
        · obtain rfl : i = a.size := by omega
          rw [gl]
          exact dig_of (by omega)
      · rw [sz, va, gl, va_congr (b := a) a.size (fun i hi => gn_left hi), D.val]
        omega
      · rw [gn_left D.pos]
        by_cases e : 1 < a.size
        · exact D.lead e
        · have e1 : a.size = 1 := by have := D.pos; omega
          have v := D.val
          rw [e1, va, va] at v
          omega
theorem Ds.wn {n m : Nat} {s : ByteArray} (D : Ds n s m) (hm : m ≤ 10) : wn s = true := by
  rw [Wd.wn, dgs_all D.dig, decide_eq_true D.pos, decide_eq_true (show s.size ≤ 10 by have := D.most; omega)]
  by_cases h : 1 < s.size
  · rw [decide_eq_true h, decide_eq_false (D.lead h)]; rfl
  · rw [decide_eq_false h]; rfl
theorem Ds.size_ge {n m k : Nat} {s : ByteArray} (D : Ds n s m) (h : 10 ^ k ≤ n) : k < s.size := by
  have := va_lt s.size D.dig
  rw [D.val] at this
  exact (Nat.pow_lt_pow_iff_right (by omega)).1 (Nat.lt_of_le_of_lt h this)

theorem conv_one (x : Nat) (hx : x < 256) (w : World) : (convert 50 9 (.slice (some ⟨w.heap.size, 0, none⟩) 1 1)).run Try.prog (w.alloc (.cells #[.int .u8 (x : Int)] 5)) = .ok (.string (bs8 [x])) (w.alloc (.cells #[.int .u8 (x : Int)] 5)) := by
  have B : Bs (w.alloc (.cells #[.int .u8 (x : Int)] 5)) w.heap.size 0 1 (fun i => if i = 0 then x else 0) := ⟨by simp, fun i => by show (if i = 0 then x else 0) < 256; split <;> omega, fun i hi => by
    obtain rfl : i = 0 := by omega
    simp⟩
  have h := conv_bs B 1
  exact h

set_option maxRecDepth 100000 in
set_option maxHeartbeats 2000000 in
theorem ldig_one (n : Nat) (h : n < 10) (w : World) :
    Calls Try.prog 15 #[.int .i64 n] w fun e w' => e = .returned (.string (bs8 [48 + n])) ∧ Below w.heap.size w w' := by
  have e0 : decide ((n : Int) < 10) = true := by rw [decide_eq_true_iff]; omega
  have cv := conv_one (48 + n) (by omega) w
  rw [show ((48 + n : Nat) : Int) = 48 + (n : Int) from by omega] at cv
  have BB := Lib.hid (balloc (brefl w) (.cells #[.int .u8 (48 + (n : Int))] 5))
  go_enter Try.func15, Try.ntmps15
  go_wp2_with fail
  go_ret
  exact ⟨rfl, BB.out⟩
set_option maxRecDepth 100000 in
set_option maxHeartbeats 2000000 in
theorem ldig_c : ∀ (f n : Nat), f ≤ 8 → n < 10 ^ (f + 1) → ∀ (w : World),
    Calls Try.prog 15 #[.int .i64 n] w fun e w' => e = .returned (.string (dsF f n)) ∧ Below w.heap.size w w'
  | 0, n, _, h, w => ldig_one n (by simpa using h) w
  | f + 1, n, hf, h, w => by
    by_cases c : n < 10
    · rw [dsF, if_pos c]
      exact ldig_one n c w
    · have hq : n / 10 < 10 ^ (f + 1) := by rw [Nat.pow_succ] at h; omega
      have DM := (ds_spec f (n / 10) hq).most
      have n10 : n < 10000000000 := by
        have h1 : 10 ^ (f + 1 + 1) ≤ 10 ^ 10 := Nat.pow_le_pow_right (by omega) (by omega)
        have h2 : (10 : Nat) ^ 10 = 10000000000 := by decide
        omega
      have H1 := fun w => Lib.hid (ldig_c f (n / 10) (by omega) hq w)
      have H2 := fun w => Lib.hid (ldig_one (n % 10) (by omega) w)
      have HD : Hid (dsF (f + 1) n = dsF f (n / 10) ++ bs8 [48 + n % 10]) := Lib.hid (by rw [dsF, if_neg c])
      rw [HD.out]
      have e0 : decide ((n : Int) < 10) = false := by rw [decide_eq_false_iff_not]; omega
      have q1 : (n : Int).tdiv 10 = ((n / 10 : Nat) : Int) := by rw [Int.tdiv_eq_ediv_of_nonneg (by omega)]; omega
      have q2 : (n : Int).tmod 10 = ((n % 10 : Nat) : Int) := by rw [Int.tmod_eq_emod_of_nonneg (by omega)]; omega
      have q3 : (bs8 [48 + n % 10]).size = 1 := rfl
      have bq : n / 10 < 1000000000 := by omega
      have br : n % 10 < 10 := by omega
      clear HD hq h c
      generalize dsF f (n / 10) = a at *
      generalize bs8 [48 + n % 10] = b at *
      generalize n / 10 = q at *
      generalize n % 10 = r at *
      go_enter Try.func15, Try.ntmps15
      go_wp2_with fail
      refine (H1 w).out.mono ?_
      rintro e w1 ⟨rfl, hb⟩
      have B1 := Lib.hid hb
      clear hb
      go_wp2_with fail
      refine (H2 w1).out.mono ?_
      rintro e w2 ⟨rfl, hb⟩
      have B2 := Lib.hid (bstep B1.out hb)
      clear hb
      go_wp2_with fail
      go_ret
      exact ⟨rfl, B2.out⟩
end Go.Proofs.Ythlmjfjkjjoimaa.Wd
