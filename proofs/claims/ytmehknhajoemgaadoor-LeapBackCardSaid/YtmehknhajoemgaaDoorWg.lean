/-
  Texts of numbers: the contract of the law's own digits; what they say.
  The characters of two texts, one behind the other.
  A remark behind a line.
  Quoted texts are read back: the characters of a quoted text, and what they make.
-/
import Derived.Test.YtmehknhajoemgaaDoorWf
import Derived.Test.YtmehknhajoemgaaDoorWe
import Derived.Shelf.Unicode.ValidAny
import Derived.Shelf.Unicode.DecodeAny
import Derived.Lib.ValidU
namespace Go.Proofs.YtmehknhajoemgaaDoor.Wd
open Go.ChangeShapes Go.WideShapes Go.ChangeAt Go.RowKit Go.Joins By
set_option linter.unusedVariables false
set_option linter.unusedSimpArgs false

theorem app_list (a b : ByteArray) : (a ++ b).data.toList = a.data.toList ++ b.data.toList := by simp
theorem len_list (a : ByteArray) : a.data.toList.length = a.size := by rw [Array.length_toList]; rfl
theorem gn_left {a b : ByteArray} {i : Nat} (h : i < a.size) : gn (a ++ b) i = gn a i := by
  unfold gn
  rw [app_list, List.getD_eq_getElem?_getD, List.getElem?_append_left (by rw [len_list]; exact h), ← List.getD_eq_getElem?_getD]
theorem gn_right (a b : ByteArray) (i : Nat) : gn (a ++ b) (a.size + i) = gn b i := by
  unfold gn
  rw [app_list, List.getD_eq_getElem?_getD, List.getElem?_append_right (by rw [len_list]; omega), len_list, show a.size + i - a.size = i from by omega, ← List.getD_eq_getElem?_getD]
theorem gn_ext {s : ByteArray} {a b i : Nat} (h : a + i < b) : gn (s.extract a b) i = gn s (a + i) := by
  unfold gn
  rw [Lib.extract_data, List.getD_eq_getElem?_getD, List.getElem?_take_of_lt (by omega), List.getElem?_drop, ← List.getD_eq_getElem?_getD]
theorem list_ba {a b : ByteArray} (h : a.data.toList = b.data.toList) : a = b := ByteArray.ext (Array.toList_inj.1 h)
theorem ext_left (a b : ByteArray) : (a ++ b).extract 0 a.size = a := by
  apply list_ba
  rw [Lib.extract_data, app_list]
  simp only [List.drop_zero, Nat.sub_zero]
  rw [← len_list a]
  exact List.take_left
theorem ext_right (a b : ByteArray) : (a ++ b).extract a.size (a ++ b).size = b := by
  apply list_ba
  rw [Lib.extract_data, app_list, ByteArray.size_append, ← len_list a, List.drop_left]
  apply List.take_of_length_le
  rw [len_list, len_list]
  omega
theorem va_congr {a b : ByteArray} : ∀ k, (∀ i, i < k → gn a i = gn b i) → va a k = va b k
  | 0, _ => rfl
  | k + 1, h => by rw [va, va, va_congr k (fun i hi => h i (by omega)), h k (by omega)]
theorem va_head (s : ByteArray) (t : ByteArray) : ∀ k, (∀ i, i < k → gn t i = gn s (i + 1)) → va s (k + 1) = (gn s 0 - 48) * 10 ^ k + va t k
  | 0, _ => by simp [va]
  | k + 1, h => by
    rw [va, va_head s t k (fun i hi => h i (by omega)), va, h k (by omega), Nat.pow_succ]
    generalize (gn s 0 - 48) = x
    generalize (10 : Nat) ^ k = y
    rw [Nat.mul_add, ← Nat.mul_assoc, ← Nat.mul_assoc, Nat.mul_comm 10 x, Nat.mul_assoc x 10 y, Nat.mul_assoc x y 10, Nat.mul_comm 10 y]
    omega

/-- a number's digits. -/
def dsF : Nat → Nat → ByteArray
  | 0, n => bs8 [48 + n]
  | f + 1, n => if n < 10 then bs8 [48 + n] else dsF f (n / 10) ++ bs8 [48 + n % 10]
theorem bs1 (x : Nat) (h : x < 256) : gn (bs8 [x]) 0 = x := by
  simp [gn, bs8, Nat.mod_eq_of_lt h]
theorem bs1_size (x : Nat) : (bs8 [x]).size = 1 := rfl
structure Ds (n : Nat) (s : ByteArray) (m : Nat) : Prop where
  dig : ∀ i, i < s.size → dig (gn s i) = true
  val : va s s.size = n
  pos : 0 < s.size
  most : s.size ≤ m
  lead : 1 < s.size → gn s 0 ≠ 48
theorem dig_of {x : Nat} (h : 48 ≤ x ∧ x ≤ 57) : dig x = true := by simp [dig]; exact h
theorem ds_one {n : Nat} (h : n < 10) (m : Nat) (hm : 0 < m) : Ds n (bs8 [48 + n]) m :=
  ⟨fun i hi => by
      rw [bs1_size] at hi
      obtain rfl : i = 0 := by omega
      rw [bs1 _ (by omega)]
      exact dig_of (by omega),
    by rw [bs1_size, va, va, bs1 _ (by omega)]; omega, by rw [bs1_size]; omega, by rw [bs1_size]; omega, fun h => by rw [bs1_size] at h; omega⟩
theorem ds_spec : ∀ f n, n < 10 ^ (f + 1) → Ds n (dsF f n) (f + 1)
  | 0, n, h => ds_one (by simpa using h) 1 (by omega)
  | f + 1, n, h => by
    rw [dsF]
    split
    · rename_i c
      exact ds_one c _ (by omega)
    · rename_i c
      have hq : n / 10 < 10 ^ (f + 1) := by rw [Nat.pow_succ] at h; omega
      have D := ds_spec f (n / 10) hq
      generalize dsF f (n / 10) = a at *
      have sz : (a ++ bs8 [48 + n % 10]).size = a.size + 1 := by rw [ByteArray.size_append, bs1_size]
      have gl : gn (a ++ bs8 [48 + n % 10]) a.size = 48 + n % 10 := by
        have := gn_right a (bs8 [48 + n % 10]) 0
        rw [Nat.add_zero] at this
        rw [this, bs1 _ (by omega)]
      refine ⟨fun i hi => ?_, ?_, by omega, by have := D.most; omega, fun _ => ?_⟩
      · by_cases e : i < a.size
        · rw [gn_left e]; exact D.dig i e
        · obtain rfl : i = a.size := by omega
          rw [gl]
          exact dig_of (by omega)
      · rw [sz, va, gl, va_congr (b := a) a.size (fun i hi => gn_left hi), D.val]
        omega
      · rw [gn_left D.pos]
        by_cases e : 1 < a.size
        · exact D.lead e
        · have e1 : a.size = 1 := by have := D.pos; omega
          have v := D.val
          rw [e1, va, va] at v
          omega
theorem Ds.wn {n m : Nat} {s : ByteArray} (D : Ds n s m) (hm : m ≤ 10) : wn s = true := by
  rw [Wd.wn, dgs_all D.dig, decide_eq_true D.pos, decide_eq_true (show s.size ≤ 10 by have := D.most; omega)]
  by_cases h : 1 < s.size
  · rw [decide_eq_true h, decide_eq_false (D.lead h)]; rfl
  · rw [decide_eq_false h]; rfl
theorem Ds.size_ge {n m k : Nat} {s : ByteArray} (D : Ds n s m) (h : 10 ^ k ≤ n) : k < s.size := by
  have := va_lt s.size D.dig
  rw [D.val] at this
  exact (Nat.pow_lt_pow_iff_right (by omega)).1 (Nat.lt_of_le_of_lt h this)

theorem conv_one (x : Nat) (hx : x < 256) (w : World) : (convert 46 9 (.slice (some ⟨w.heap.size, 0, none⟩) 1 1)).run Tryd.prog (w.alloc (.cells #[.int .u8 (x : Int)] 5)) = .ok (.string (bs8 [x])) (w.alloc (.cells #[.int .u8 (x : Int)] 5)) := by
  have B : Bs (w.alloc (.cells #[.int .u8 (x : Int)] 5)) w.heap.size 0 1 (fun i => if i = 0 then x else 0) := ⟨by simp, fun i => by show (if i = 0 then x else 0) < 256; split <;> omega, fun i hi => by
    obtain rfl : i = 0 := by omega
    simp⟩
  have h := conv_bs B 1
  exact h

end Go.Proofs.YtmehknhajoemgaaDoor.Wd
namespace Go.Proofs.YtmehknhajoemgaaDoor.Wd
open Go.ChangeShapes Go.WideShapes Go.ChangeAt Go.RowKit Go.Joins By
set_option linter.unusedVariables false
set_option linter.unusedSimpArgs false

theorem app_data (a b : ByteArray) : (a ++ b).data.toList = a.data.toList ++ b.data.toList := by simp
theorem len_data (a : ByteArray) : a.data.toList.length = a.size := by rw [Array.length_toList]; rfl
theorem get_left {a b : ByteArray} {i : Nat} (h : i < a.size) : (a ++ b).get! i = a.get! i := by
  rw [← Lib.getD_get!', ← Lib.getD_get!', app_data, List.getD_eq_getElem?_getD, List.getElem?_append_left (by rw [len_data]; exact h), ← List.getD_eq_getElem?_getD]
theorem get_right (a b : ByteArray) (i : Nat) : (a ++ b).get! (a.size + i) = b.get! i := by
  rw [← Lib.getD_get!', ← Lib.getD_get!', app_data, List.getD_eq_getElem?_getD, List.getElem?_append_right (by rw [len_data]; omega), len_data, show a.size + i - a.size = i from by omega, ← List.getD_eq_getElem?_getD]
theorem ba_ext {a b : ByteArray} (h : a.data.toList = b.data.toList) : a = b := ByteArray.ext (Array.toList_inj.1 h)
theorem ext_in {a b : ByteArray} {i j : Nat} (h : j ≤ a.size) : (a ++ b).extract i j = a.extract i j := by
  apply ba_ext
  rw [Lib.extract_data, Lib.extract_data, app_data]
  by_cases hij : i ≤ j
  · rw [List.drop_append_of_le_length (by rw [len_data]; omega), List.take_append_of_le_length (by rw [List.length_drop, len_data]; omega)]
  · rw [show j - i = 0 from by omega, List.take_zero, List.take_zero]
theorem ext_out (a b : ByteArray) (i j : Nat) : (a ++ b).extract (a.size + i) (a.size + j) = b.extract i j := by
  apply ba_ext
  rw [Lib.extract_data, Lib.extract_data, app_data]
  have e : (a.data.toList ++ b.data.toList).drop (a.size + i) = b.data.toList.drop i := by
    rw [← len_data a, ← List.drop_drop, List.drop_left]
  rw [e]
  congr 1
  omega

theorem ext_all' (s : ByteArray) : s.extract 0 s.size = s := by
  apply ba_ext
  rw [Lib.extract_data]
  simp only [List.drop_zero, Nat.sub_zero]
  rw [← len_data s]
  exact List.take_length
/-- what comes behind makes no difference, as long as it doesn't go on a character. -/
theorem decN_same {n n' b0 b1 b2 b3 c1 c2 c3 : Nat} (hn : 1 ≤ n) (hle : n ≤ n') (h1 : 1 < n → c1 = b1) (h2 : 2 < n → c2 = b2) (h3 : 3 < n → c3 = b3)
    (e1 : n = 1 → n' = 1 ∨ c1 < 128) (e2 : n = 2 → n' = 2 ∨ c2 < 128) (e3 : n = 3 → n' = 3 ∨ c3 < 128) : Lib.decodeN n' b0 c1 c2 c3 = Lib.decodeN n b0 b1 b2 b3 := by
  by_cases a1 : n = 1
  · subst a1
    have f1 : ¬ (1 < n' ∧ c1 / 64 = 2) := by have := e1 rfl; omega
    unfold Lib.decodeN
    simp only [f1, show ¬ (1 < 1) from by omega, false_and, and_false, if_false]
  · have q1 := h1 (by omega)
    subst q1
    by_cases a2 : n = 2
    · subst a2
      have f2 : ¬ (2 < n' ∧ c2 / 64 = 2) := by have := e2 rfl; omega
      have g1 : (1 < n') = (1 < 2) := by rw [eq_true (show 1 < n' by omega), eq_true (show 1 < 2 by omega)]
      unfold Lib.decodeN
      simp only [f2, g1, show ¬ (2 < 2) from by omega, false_and, and_false, if_false]
    · have q2 := h2 (by omega)
      subst q2
      by_cases a3 : n = 3
      · subst a3
        have f3 : ¬ (3 < n' ∧ c3 / 64 = 2) := by have := e3 rfl; omega
        have g1 : (1 < n') = (1 < 3) := by rw [eq_true (show 1 < n' by omega), eq_true (show 1 < 3 by omega)]
        have g2 : (2 < n') = (2 < 3) := by rw [eq_true (show 2 < n' by omega), eq_true (show 2 < 3 by omega)]
        unfold Lib.decodeN
        simp only [f3, g1, g2, show ¬ (3 < 3) from by omega, false_and, and_false, if_false]
      · have q3 := h3 (by omega)
        subst q3
        have g1 : (1 < n') = (1 < n) := by rw [eq_true (show 1 < n' by omega), eq_true (show 1 < n by omega)]
        have g2 : (2 < n') = (2 < n) := by rw [eq_true (show 2 < n' by omega), eq_true (show 2 < n by omega)]
        have g3 : (3 < n') = (3 < n) := by rw [eq_true (show 3 < n' by omega), eq_true (show 3 < n by omega)]
        unfold Lib.decodeN
        simp only [g1, g2, g3]
theorem decN_valid {n n' b0 b1 b2 b3 c1 c2 c3 : Nat} (hle : n ≤ n') (h1 : 1 < n → c1 = b1) (h2 : 2 < n → c2 = b2) (h3 : 3 < n → c3 = b3) (hv : ¬ ((Lib.decodeN n b0 b1 b2 b3).1 = 65533 ∧ (Lib.decodeN n b0 b1 b2 b3).2 = 1)) :
    Lib.decodeN n' b0 c1 c2 c3 = Lib.decodeN n b0 b1 b2 b3 := by
  rcases Lib.decodeN_shape n b0 b1 b2 b3 with ⟨d0, e⟩ | ⟨d1, d2, d3, dv, e⟩ | ⟨d1, d2, d3, d4, dv, ds, e⟩ | ⟨d1, d2, d3, d4, d5, dv, dw, e⟩ | e
  · rw [e]
    unfold Lib.decodeN
    rw [if_pos d0]
  · rw [e]
    have q1 := h1 (by omega)
    subst q1
    unfold Lib.decodeN
    rw [if_neg (by omega), if_pos ⟨by omega, by omega, by omega⟩, if_pos (by omega)]
  · rw [e]
    have q1 := h1 (by omega)
    have q2 := h2 (by omega)
    subst q1 q2
    unfold Lib.decodeN
    rw [if_neg (by omega), if_neg (by omega), if_pos ⟨by omega, ⟨by omega, by omega⟩, by omega, by omega⟩, if_pos ⟨by omega, by omega⟩]
  · rw [e]
    have q1 := h1 (by omega)
    have q2 := h2 (by omega)
    have q3 := h3 (by omega)
    subst q1 q2 q3
    unfold Lib.decodeN
    rw [if_neg (by omega), if_neg (by omega), if_neg (by omega), if_pos ⟨by omega, ⟨by omega, by omega⟩, ⟨by omega, by omega⟩, by omega, by omega⟩, if_pos ⟨by omega, by omega⟩]
  · rw [e] at hv
    exact absurd ⟨rfl, rfl⟩ hv
/-- b does not go on a character of a at i. -/
def apart (a b : ByteArray) (i : Nat) : Prop := (b.size = 0 ∨ (b.get! 0).toNat < 128) ∨ wr1 a i = false
theorem dec_app {a b : ByteArray} {i : Nat} (hi : i < a.size) (h : apart a b i) : cr (a ++ b) i = cr a i ∧ cw (a ++ b) i = cw a i := by
  have key : Utf8.decode (a ++ b) i = Utf8.decode a i := by
    rw [Lib.decode_at, Lib.decode_at, get_left hi, ByteArray.size_append]
    have gk : ∀ k, k < a.size - i → (a ++ b).get! (i + k) = a.get! (i + k) := fun k hk => get_left (by omega)
    rcases h with h | h
    · have at' : ∀ k, k = a.size - i → a.size + b.size - i = k ∨ ((a ++ b).get! (i + k)).toNat < 128 := fun k hk => by
        rcases h with h | h
        · left; omega
        · right
          have := get_right a b 0
          rw [Nat.add_zero] at this
          rw [show i + k = a.size from by omega, this]
          exact h
      exact decN_same (by omega) (by omega) (fun q => by rw [gk 1 q]) (fun q => by rw [gk 2 q]) (fun q => by rw [gk 3 q])
        (fun q => (at' 1 q.symm).imp (fun z => z) id) (fun q => (at' 2 q.symm).imp (fun z => z) id) (fun q => (at' 3 q.symm).imp (fun z => z) id)
    · refine decN_valid (by omega) (fun q => by rw [gk 1 q]) (fun q => by rw [gk 2 q]) (fun q => by rw [gk 3 q]) ?_
      rw [← Lib.decode_at]
      rintro ⟨x, y⟩
      have : wr1 a i = true := by rw [wr1, decide_eq_true (show cr a i = 65533 from x), decide_eq_true (show cw a i = 1 from y)]; rfl
      rw [this] at h; cases h
  unfold cr cw
  rw [key]
  exact ⟨rfl, rfl⟩
theorem chL_fuel (s : ByteArray) : ∀ f g i, s.size ≤ i + f → s.size ≤ i + g → chL s f i = chL s g i
  | 0, g, i, hf, _ => by rw [chL_end s g i (by omega)]; rfl
  | f + 1, 0, i, _, hg => by rw [chL_end s (f + 1) i (by omega)]; rfl
  | f + 1, g + 1, i, hf, hg => by
    by_cases h : i < s.size
    · have := cw_pos s i
      rw [chL_at s f i h, chL_at s g i h, chL_fuel s f g (i + cw s i) (by omega) (by omega)]
    · rw [chL_end s _ i h, chL_end s _ i h]
theorem chL_shift (a b : ByteArray) : ∀ f i, chL (a ++ b) f (a.size + i) = chL b f i
  | 0, _ => rfl
  | f + 1, i => by
    have td := Lib.tail_decode (a ++ b) a.size i
    have e : (a ++ b).extract a.size (a ++ b).size = b := by
      have := ext_out a b 0 b.size
      rw [Nat.add_zero] at this
      rw [ByteArray.size_append, this, ext_all']
    rw [e] at td
    have r1 : cr (a ++ b) (a.size + i) = cr b i := by unfold cr; rw [td]
    have r2 : cw (a ++ b) (a.size + i) = cw b i := by unfold cw; rw [td]
    by_cases h : i < b.size
    · rw [chL_at _ f _ (by rw [ByteArray.size_append]; omega), chL_at _ f _ h]
      have e1 : ct (a ++ b) (a.size + i) = ct b i := by
        unfold ct
        rw [r2, Nat.add_assoc, ext_out]
      have e2 : wr1 (a ++ b) (a.size + i) = wr1 b i := by unfold wr1; rw [r1, r2]
      rw [e1, e2, r2, Nat.add_assoc, chL_shift a b f]
    · rw [chL_end _ _ _ (by rw [ByteArray.size_append]; omega), chL_end _ _ _ h]
theorem chL_app {a b : ByteArray} (hap : ∀ i, i < a.size → apart a b i) : ∀ g i f, i ≤ a.size → a.size ≤ i + g → (a ++ b).size ≤ i + f → chL (a ++ b) f i = chL a g i ++ chars b
  | 0, i, f, hi, hg, hf => by
    obtain rfl : i = a.size := by omega
    have := chL_shift a b f 0
    rw [Nat.add_zero] at this
    rw [this, chL, List.nil_append]
    exact chL_fuel b f b.size 0 (by rw [ByteArray.size_append] at hf; omega) (by omega)
  | g + 1, i, f, hi, hg, hf => by
    by_cases h : i < a.size
    · have hs : i < (a ++ b).size := by rw [ByteArray.size_append]; omega
      obtain ⟨f', rfl⟩ : ∃ f', f = f' + 1 := ⟨f - 1, by omega⟩
      obtain ⟨r1, r2⟩ := dec_app h (hap i h)
      have wl := cw_le a i h
      have wp := cw_pos a i
      rw [chL_at _ f' i hs, chL_at _ g i h]
      have e1 : ct (a ++ b) i = ct a i := by
        unfold ct
        rw [r2, ext_in wl]
      have e2 : wr1 (a ++ b) i = wr1 a i := by unfold wr1; rw [r1, r2]
      rw [e1, e2, r2, chL_app hap g (i + cw a i) f' wl (by omega) (by omega)]
      rfl
    · obtain rfl : i = a.size := by omega
      have := chL_shift a b f 0
      rw [Nat.add_zero] at this
      rw [this, chL_end _ _ _ h, List.nil_append]
      exact chL_fuel b f b.size 0 (by rw [ByteArray.size_append] at hf; omega) (by omega)
theorem chars_app {a b : ByteArray} (hap : ∀ i, i < a.size → apart a b i) : chars (a ++ b) = chars a ++ chars b :=
  chL_app hap a.size 0 (a ++ b).size (Nat.zero_le _) (by omega) (by omega)
theorem chars_ascii {a b : ByteArray} (h : b.size = 0 ∨ (b.get! 0).toNat < 128) : chars (a ++ b) = chars a ++ chars b := chars_app fun i _ => .inl h
/-- how many characters. -/
theorem count_len (s : ByteArray) : ∀ f i, Lib.runeCountFrom s f i = (chL s f i).length
  | 0, _ => rfl
  | f + 1, i => by
    rw [Lib.runeCountFrom]
    by_cases h : i < s.size
    · rw [if_pos h, chL_at s f i h, List.length_cons, count_len s f]
      show 1 + (chL s f (i + cw s i)).length = _
      omega
    · rw [if_neg h, chL_end s _ i h]
      rfl
theorem count_chars (s : ByteArray) : Lib.runeCount s = (chars s).length := count_len s s.size 0
/-- no byte is wrong. -/
def okc (l : List (ByteArray × Bool)) : Bool := l.all fun c => !c.2
theorem tl_drop (s : ByteArray) (i k : Nat) : (tl s i).drop k = tl s (i + k) := by rw [tl_eq, tl_eq, List.drop_drop]
theorem valid_len (s : ByteArray) : ∀ f i, Lib.validGoD f (tl s i) = okc (chL s f i)
  | 0, _ => rfl
  | f + 1, i => by
    rw [Lib.validGoD]
    by_cases h : i < s.size
    · rw [if_neg (tl_ne h), chL_at s f i h, decL, tl_drop, valid_len s f]
      unfold okc
      rw [List.all_cons]
      by_cases hw : cr s i = 65533 ∧ cw s i = 1
      · rw [if_pos hw]
        have : wr1 s i = true := by rw [wr1, decide_eq_true hw.1, decide_eq_true hw.2]; rfl
        rw [this]
        rfl
      · rw [if_neg hw]
        have : wr1 s i = false := by
          unfold wr1
          by_cases x : cr s i = 65533
          · rw [decide_eq_true x, decide_eq_false (fun y => hw ⟨x, y⟩)]; rfl
          · rw [decide_eq_false x]; rfl
        rw [this]
        rfl
    · rw [chL_end s _ i h, if_pos (by rw [tl_eq, List.drop_eq_nil_of_le (by rw [len_data]; omega)])]
      rfl
theorem valid_chars (s : ByteArray) : Lib.validD s.data.toList = okc (chars s) := by
  have h := valid_len s s.size 0
  rw [tl_eq, List.drop_zero] at h
  unfold Lib.validD
  rw [len_data]
  exact h
end Go.Proofs.YtmehknhajoemgaaDoor.Wd
namespace Go.Proofs.YtmehknhajoemgaaDoor.Wd
open Go.ChangeShapes Go.WideShapes Go.ChangeAt Go.RowKit Go.Joins By
set_option linter.unusedVariables false
set_option linter.unusedSimpArgs false

theorem run_app : ∀ (l m : List (ByteArray × Bool)) (k : Nat) (S : CS), run (l ++ m) k S = match run l k S with
    | .inl j => .inl j
    | .inr S' => run m (k + l.length) S'
  | [], m, k, S => by simp [run]
  | c :: l, m, k, S => by
    rw [List.cons_append, run, run]
    by_cases h : c.2 = true
    · rw [if_pos h, if_pos h]
    · rw [if_neg h, if_neg h]
      cases hs : stp c.1 k S with
      | none => rfl
      | some S' =>
        simp only
        rw [run_app l m (k + 1) S', List.length_cons, show k + 1 + l.length = k + (l.length + 1) from by omega]
theorem run_rem5 : ∀ (l : List (ByteArray × Bool)) (k : Nat) (S : CS), 5 ≤ S.wh → (okc l = true → run l k S = .inr S) ∧ (okc l = false → ∃ j, k ≤ j ∧ run l k S = .inl j)
  | [], k, S, _ => ⟨fun _ => rfl, fun h => by simp [okc] at h⟩
  | c :: l, k, S, h => by
    obtain ⟨a, b⟩ := run_rem5 l (k + 1) S h
    rw [run, stp_5 h]
    cases hc : c.2 with
    | true =>
      rw [if_pos rfl]
      exact ⟨fun h' => by simp [okc, hc] at h', fun _ => ⟨k, Nat.le_refl _, rfl⟩⟩
    | false =>
      rw [if_neg Bool.false_ne_true]
      have e : okc (c :: l) = okc l := by simp [okc, hc]
      rw [e]
      exact ⟨a, fun h' => by obtain ⟨j, hj, hr⟩ := b h'; exact ⟨j, by omega, hr⟩⟩
theorem run_open : ∀ (l : List (ByteArray × Bool)) (k : Nat) (S : CS), (S.wh = 2 ∨ S.wh = 3) → (∀ c, c ∈ l → c.1.toList ≠ [34]) → (∃ j, run l k S = .inl j) ∨ ∃ S', run l k S = .inr S' ∧ (S'.wh = 2 ∨ S'.wh = 3)
  | [], k, S, h, _ => .inr ⟨S, rfl, h⟩
  | c :: l, k, S, h, hn => by
    rw [run]
    by_cases hc : c.2 = true
    · rw [if_pos hc]
      exact .inl ⟨k, rfl⟩
    · rw [if_neg hc]
      have h34 := hn c (List.mem_cons_self ..)
      have hl : ∀ d, d ∈ l → d.1.toList ≠ [34] := fun d hd => hn d (List.mem_cons_of_mem _ hd)
      rcases h with h | h
      · rw [stp_2 h]
        simp only [CS.quot]
        rw [if_neg h34]
        by_cases h92 : c.1.toList = [92]
        · rw [if_pos h92]
          exact run_open l (k + 1) (S.to 3) (.inr rfl) hl
        · rw [if_neg h92]
          exact run_open l (k + 1) (S.add c.1) (.inl h) hl
      · rw [stp_3 h]
        exact run_open l (k + 1) ((S.add c.1).to 2) (.inl rfl) hl
def spc : ByteArray := ⟨#[32]⟩
def hsh : ByteArray := ⟨#[35]⟩
def spH : ByteArray := ⟨#[32, 35]⟩
theorem t32 : spc.toList = [32] := by rw [ByteArray.toList_eq]; rfl
theorem t35 : hsh.toList = [35] := by rw [ByteArray.toList_eq]; rfl
set_option maxRecDepth 100000 in
theorem chars_spH : chars spH = [(spc, false), (hsh, false)] := by kernel_rfl
/-- a blank and a # behind what is shut. -/
theorem run_sh {S : CS} (h : S.shut = true) (k : Nat) : ∃ S', run [(spc, false), (hsh, false)] k S = .inr S' ∧ 5 ≤ S'.wh ∧ S'.ws = S.last.ws := by
  have b1 : bl1 spc = true := by rw [bl1, t32]; decide
  have b2 : bl1 hsh = false := by rw [bl1, t35]; decide
  have n1 : ¬ spc.toList = [34] := by rw [t32]; decide
  have n2 : hsh.toList = [35] := t35
  have sh2 : S.wh ≠ 2 ∧ S.wh ≠ 3 := by
    simp only [CS.shut, Bool.and_eq_true, decide_eq_true_eq] at h
    exact h
  have two : ∀ S0 : CS, S0.wh = 0 → ∀ k, run [(hsh, false)] k S0 = .inr ((S0.beg k false).to 5) := fun S0 h0 k => by
    rw [run, if_neg Bool.false_ne_true, stp_0 h0]
    simp only [CS.first]
    rw [if_neg (by rw [b2]; decide), if_pos n2]
    rfl
  rw [run, if_neg Bool.false_ne_true]
  by_cases h0 : S.wh = 0
  · rw [stp_0 h0]
    simp only [CS.first]
    rw [if_pos b1]
    exact ⟨_, two S h0 _, Nat.le_refl _, by rw [CS.last, if_neg (by omega)]; rfl⟩
  · by_cases h1 : S.wh = 1
    · rw [stp_1 h1, if_neg n1]
      simp only [CS.plain]
      rw [if_pos b1]
      exact ⟨_, two (S.fin.to 0) rfl _, Nat.le_refl _, by rw [CS.last, if_pos h1]; rfl⟩
    · by_cases h4 : S.wh = 4
      · rw [stp_4 h4, if_pos b1]
        exact ⟨_, two (S.to 0) rfl _, Nat.le_refl _, by rw [CS.last, if_neg (by omega)]; rfl⟩
      · have h5 : 5 ≤ S.wh := by omega
        rw [stp_5 h5]
        simp only
        rw [run, if_neg Bool.false_ne_true, stp_5 h5]
        exact ⟨S, rfl, h5, by rw [CS.last, if_neg h1]⟩
/-- does a byte stand in a text? -/
def has (c : Nat) (s : ByteArray) : Bool := (List.range s.size).any fun i => decide (gn s i = c)
theorem has_no {c : Nat} {s : ByteArray} (h : has c s = false) : ∀ i, i < s.size → gn s i ≠ c := by
  intro i hi e
  have : has c s = true := by
    simp only [has, List.any_eq_true, List.mem_range, decide_eq_true_eq]
    exact ⟨i, hi, e⟩
  rw [this] at h; cases h
theorem has_yes {c i : Nat} {s : ByteArray} (hi : i < s.size) (h : gn s i = c) : has c s = true := by
  simp only [has, List.any_eq_true, List.mem_range, decide_eq_true_eq]
  exact ⟨i, hi, h⟩
theorem no_quote {s : ByteArray} (h : has 34 s = false) : ∀ f i, ∀ c, c ∈ chL s f i → c.1.toList ≠ [34]
  | 0, _, c, hc => by simp [chL] at hc
  | f + 1, i, c, hc => by
    by_cases hi : i < s.size
    · rw [chL_at s f i hi] at hc
      rcases List.mem_cons.1 hc with e | e
      · subst e
        intro e2
        rw [ByteArray.toList_eq, ct_data, tl_eq] at e2
        have wp := cw_pos s i
        have e3 := congrArg (fun l => l.getD 0 0) e2
        simp only [List.getD_eq_getElem?_getD] at e3
        rw [List.getElem?_take_of_lt (by omega), List.getElem?_drop, Nat.add_zero] at e3
        refine has_no h i hi ?_
        rw [gn, List.getD_eq_getElem?_getD, e3]
        rfl
      · exact no_quote h f (i + cw s i) c e
    · rw [chL_end s _ i hi] at hc
      cases hc
theorem chars_cut (X M : ByteArray) : chars (X ++ spH ++ M) = chars X ++ ([(spc, false), (hsh, false)] ++ chars M) := by
  have e1 : X ++ spH ++ M = X ++ (spH ++ M) := ba_ext (by simp)
  have g0 : (spH ++ M).get! 0 = 32 := by rw [get_left (show 0 < spH.size from by decide)]; rfl
  rw [e1, chars_ascii (.inr (by rw [g0]; decide)), chars_app (a := spH) (b := M) (fun i hi => .inr (by
    have hi : i < 2 := hi
    have : i = 0 ∨ i = 1 := by omega
    rcases this with rfl | rfl
    · decide
    · decide)), chars_spH]
/-- what a remark behind a line makes. -/
theorem cut_cases (X M : ByteArray) : (∃ c d, spR X = .inl c ∧ spR (X ++ spH ++ M) = .inl d) ∨ (∃ c l, spR X = .inl c ∧ spR (X ++ spH ++ M) = .inr l ∧ has 34 M = true) ∨
    (∃ ws, ∃ j : Nat, spR X = .inr ws ∧ okc (chars M) = false ∧ spR (X ++ spH ++ M) = .inl (j : Int) ∧ (chars X).length + 2 ≤ j) ∨ (∃ ws, spR X = .inr ws ∧ okc (chars M) = true ∧ spR (X ++ spH ++ M) = .inr ws) := by
  have RA := run_app (chars X) ([(spc, false), (hsh, false)] ++ chars M) 0 cs0
  rw [← chars_cut] at RA
  unfold spR
  rw [RA]
  cases hr : run (chars X) 0 cs0 with
  | inl k => exact .inl ⟨k, k, rfl, rfl⟩
  | inr S =>
    simp only
    cases hs : S.shut with
    | false =>
      have h23 : S.wh = 2 ∨ S.wh = 3 := by
        simp only [CS.shut, Bool.and_eq_false_iff, decide_eq_false_iff_not] at hs
        omega
      cases hh : has 34 M with
      | true =>
        cases hR : (match run ([(spc, false), (hsh, false)] ++ chars M) (0 + (chars X).length) S with
          | Sum.inl k => (Sum.inl (k : Int) : Int ⊕ List W3)
          | Sum.inr S => if S.shut = true then Sum.inr S.last.ws else Sum.inl S.wd.c) with
        | inl d => exact .inl ⟨S.wd.c, d, by simp, hR⟩
        | inr l => exact .inr (.inl ⟨S.wd.c, l, by simp, hR, rfl⟩)
      | false =>
        have nq : ∀ c, c ∈ ([(spc, false), (hsh, false)] ++ chars M) → c.1.toList ≠ [34] := fun c hc => by
          rcases List.mem_append.1 hc with e | e
          · simp only [List.mem_cons, List.not_mem_nil, or_false] at e
            rcases e with rfl | rfl
            · show spc.toList ≠ [34]
              rw [t32]; decide
            · show hsh.toList ≠ [34]
              rw [t35]; decide
          · exact no_quote hh _ _ c e
        rcases run_open ([(spc, false), (hsh, false)] ++ chars M) (0 + (chars X).length) S h23 nq with ⟨j, e⟩ | ⟨S', e, h'⟩
        · rw [e]
          exact .inl ⟨S.wd.c, j, by simp, rfl⟩
        · rw [e]
          have : S'.shut = false := by
            simp only [CS.shut, Bool.and_eq_false_iff, decide_eq_false_iff_not]
            omega
          exact .inl ⟨S.wd.c, S'.wd.c, by simp, by simp [this]⟩
    | true =>
      obtain ⟨S2, e2, h5, w2⟩ := run_sh hs (0 + (chars X).length)
      have RB := run_app [(spc, false), (hsh, false)] (chars M) (0 + (chars X).length) S
      rw [e2] at RB
      simp only at RB
      obtain ⟨a, b⟩ := run_rem5 (chars M) (0 + (chars X).length + [(spc, false), (hsh, false)].length) S2 h5
      cases ho : okc (chars M) with
      | true =>
        rw [a ho] at RB
        rw [RB]
        refine .inr (.inr (.inr ⟨S.last.ws, by simp, rfl, ?_⟩))
        have s2 : S2.shut = true := by
          simp only [CS.shut, Bool.and_eq_true, decide_eq_true_eq]
          omega
        simp only [s2, if_true]
        rw [CS.last, if_neg (by omega), w2]
      | false =>
        obtain ⟨j, hj, e⟩ := b ho
        rw [e] at RB
        rw [RB]
        exact .inr (.inr (.inl ⟨S.last.ws, j, by simp, rfl, rfl, by simp at hj; omega⟩))

end Go.Proofs.YtmehknhajoemgaaDoor.Wd
namespace Go.Proofs.YtmehknhajoemgaaDoor.Wd
open Go.ChangeShapes Go.WideShapes Go.ChangeAt Go.RowKit Go.Joins By
set_option linter.unusedVariables false
set_option linter.unusedSimpArgs false

theorem okc_cons {c : ByteArray × Bool} {l : List (ByteArray × Bool)} (h : okc (c :: l) = true) : c.2 = false ∧ okc l = true := by
  unfold okc at h ⊢
  rw [List.all_cons, Bool.and_eq_true] at h
  exact ⟨by simpa using h.1, h.2⟩
theorem okc_app (l m : List (ByteArray × Bool)) : okc (l ++ m) = (okc l && okc m) := by simp [okc]
theorem chL_appV {a b : ByteArray} : ∀ g i f, i ≤ a.size → a.size ≤ i + g → (a ++ b).size ≤ i + f → okc (chL a g i) = true → chL (a ++ b) f i = chL a g i ++ chars b
  | 0, i, f, hi, hg, hf, _ => by
    obtain rfl : i = a.size := by omega
    have := chL_shift a b f 0
    rw [Nat.add_zero] at this
    rw [this, chL, List.nil_append]
    exact chL_fuel b f b.size 0 (by rw [ByteArray.size_append] at hf; omega) (by omega)
  | g + 1, i, f, hi, hg, hf, ho => by
    by_cases h : i < a.size
    · have hs : i < (a ++ b).size := by rw [ByteArray.size_append]; omega
      obtain ⟨f', rfl⟩ : ∃ f', f = f' + 1 := ⟨f - 1, by omega⟩
      rw [chL_at _ g i h] at ho
      obtain ⟨hw, ho'⟩ := okc_cons ho
      obtain ⟨r1, r2⟩ := dec_app (b := b) h (.inr hw)
      have wl := cw_le a i h
      have wp := cw_pos a i
      rw [chL_at _ f' i hs, chL_at _ g i h]
      have e1 : ct (a ++ b) i = ct a i := by
        unfold ct
        rw [r2, ext_in wl]
      have e2 : wr1 (a ++ b) i = wr1 a i := by unfold wr1; rw [r1, r2]
      rw [e1, e2, r2, chL_appV g (i + cw a i) f' wl (by omega) (by omega) ho']
      rfl
    · obtain rfl : i = a.size := by omega
      have := chL_shift a b f 0
      rw [Nat.add_zero] at this
      rw [this, chL_end _ _ _ h, List.nil_append]
      exact chL_fuel b f b.size 0 (by rw [ByteArray.size_append] at hf; omega) (by omega)
theorem chars_valid {a b : ByteArray} (h : okc (chars a) = true) : chars (a ++ b) = chars a ++ chars b :=
  chL_appV a.size 0 (a ++ b).size (Nat.zero_le _) (by omega) (by omega) h
theorem decN_cut {n k r b0 b1 b2 b3 c1 c2 c3 : Nat} (e : Lib.decodeN n b0 b1 b2 b3 = (r, k)) (hv : ¬ (r = 65533 ∧ k = 1)) (h1 : 1 < k → c1 = b1) (h2 : 2 < k → c2 = b2) (h3 : 3 < k → c3 = b3) : Lib.decodeN k b0 c1 c2 c3 = (r, k) := by
  rcases Lib.decodeN_shape n b0 b1 b2 b3 with ⟨d0, e'⟩ | ⟨d1, d2, d3, dv, e'⟩ | ⟨d1, d2, d3, d4, dv, ds, e'⟩ | ⟨d1, d2, d3, d4, d5, dv, dw, e'⟩ | e'
  all_goals
    rw [e'] at e
    simp only [Prod.mk.injEq] at e
    obtain ⟨e1, e2⟩ := e
  · subst e1 e2
    unfold Lib.decodeN
    rw [if_pos d0]
  · subst e2
    have q1 := h1 (by omega)
    subst q1
    unfold Lib.decodeN
    rw [if_neg (by omega), if_pos ⟨by omega, by omega, by omega⟩, if_pos (by omega), e1]
  · subst e2
    have q1 := h1 (by omega)
    have q2 := h2 (by omega)
    subst q1 q2
    unfold Lib.decodeN
    rw [if_neg (by omega), if_neg (by omega), if_pos ⟨by omega, ⟨by omega, by omega⟩, by omega, by omega⟩, if_pos ⟨by omega, by omega⟩, e1]
  · subst e2
    have q1 := h1 (by omega)
    have q2 := h2 (by omega)
    have q3 := h3 (by omega)
    subst q1 q2 q3
    unfold Lib.decodeN
    rw [if_neg (by omega), if_neg (by omega), if_neg (by omega), if_pos ⟨by omega, ⟨by omega, by omega⟩, ⟨by omega, by omega⟩, by omega, by omega⟩, if_pos ⟨by omega, by omega⟩, e1]
  · exact absurd ⟨e1.symm, e2.symm⟩ hv
/-- a character alone. -/
theorem chars_one {s : ByteArray} {p : Nat} (h : p < s.size) (hw : wr1 s p = false) : chars (ct s p) = [(ct s p, false)] := by
  have wl := cw_le s p h
  have wp := cw_pos s p
  have sz : (ct s p).size = cw s p := by unfold ct; rw [ByteArray.size_extract]; omega
  have gx : ∀ j, j < cw s p → (ct s p).get! j = s.get! (p + j) := fun j hj => by
    rw [← Lib.getD_get!', ← Lib.getD_get!']
    unfold ct
    rw [Lib.extract_data, List.getD_eq_getElem?_getD, List.getElem?_take_of_lt (by omega), List.getElem?_drop, ← List.getD_eq_getElem?_getD]
  have key : Utf8.decode (ct s p) 0 = (cr s p, cw s p) := by
    have d := Lib.decode_at s p
    rw [Lib.decode_at, Nat.sub_zero, sz, Nat.zero_add, Nat.zero_add, Nat.zero_add, gx 0 wp, Nat.add_zero]
    refine decN_cut (d.symm.trans rfl) ?_ (fun q => by rw [gx 1 q]) (fun q => by rw [gx 2 q]) (fun q => by rw [gx 3 q])
    rintro ⟨x, y⟩
    have : wr1 s p = true := by rw [wr1, decide_eq_true x, decide_eq_true y]; rfl
    rw [this] at hw; cases hw
  have r1 : cr (ct s p) 0 = cr s p := by unfold cr; rw [key]; rfl
  have r2 : cw (ct s p) 0 = cw s p := by unfold cw; rw [key]; rfl
  unfold chars
  obtain ⟨f, hf⟩ : ∃ f, (ct s p).size = f + 1 := ⟨(ct s p).size - 1, by omega⟩
  rw [hf, chL_at _ f 0 (by omega), r2, chL_end _ _ _ (by omega)]
  have e1 : ct (ct s p) 0 = ct s p := by
    have e : ct (ct s p) 0 = (ct s p).extract 0 (ct s p).size := by
      show (ct s p).extract 0 (0 + cw (ct s p) 0) = _
      rw [r2, sz, Nat.zero_add]
    rw [e, ext_all']
  have e2 : wr1 (ct s p) 0 = false := by
    have : wr1 (ct s p) 0 = wr1 s p := by unfold wr1; rw [r1, r2]
    rw [this, hw]
  rw [e1, e2]

/-- a text with a byte 92 ahead of each byte 34 and 92. -/
def esc (u : ByteArray) : ByteArray := bs8 ((bn u).flatMap qOne)
theorem bs8_app (l m : List Nat) : bs8 (l ++ m) = bs8 l ++ bs8 m := by
  apply ba_ext
  simp [bs8]
theorem esc_app (a b : ByteArray) : esc (a ++ b) = esc a ++ esc b := by
  unfold esc
  rw [bn_app, List.flatMap_append, bs8_app]
theorem esc_plain {u : ByteArray} (h : ∀ x ∈ bn u, x ≠ 34 ∧ x ≠ 92) : esc u = u := by
  have e : ∀ l : List Nat, (∀ x ∈ l, x ≠ 34 ∧ x ≠ 92) → l.flatMap qOne = l := fun l => by
    induction l with
    | nil => intro _; rfl
    | cons x l ih =>
      intro h
      have hx := h x (List.mem_cons_self ..)
      rw [List.flatMap_cons, ih (fun y hy => h y (List.mem_cons_of_mem _ hy)), qOne, if_neg (by omega)]
      rfl
  unfold esc
  rw [e _ h, bs8_bn]
def bs92 : ByteArray := ⟨#[92]⟩
theorem bn_gn (s : ByteArray) (k : Nat) (h : k < s.size) : (bn s)[k]? = some (gn s k) := by
  unfold bn gn
  rw [List.getElem?_map, List.getD_eq_getElem?_getD, List.getElem?_eq_getElem (by rw [len_data]; exact h)]
  rfl
theorem qL_flat (s : ByteArray) : ∀ k, k ≤ s.size → qL s k = ((bn s).take k).flatMap qOne
  | 0, _ => rfl
  | k + 1, h => by
    rw [qL, qL_flat s k (by omega), List.take_add_one, bn_gn s k (by omega), List.flatMap_append]
    simp
theorem quo_esc (s : ByteArray) : quo s = q1 ++ esc s ++ q1 := by
  unfold quo esc
  rw [qL_flat s s.size (Nat.le_refl _), List.take_of_length_le (by rw [bn_len]; exact Nat.le_refl _)]
  apply ba_ext
  simp [bs8, q1]
theorem t92 : bs92.toList = [92] := by rw [ByteArray.toList_eq]; rfl
theorem tq1 : q1.toList = [34] := by rw [ByteArray.toList_eq]; rfl
set_option maxRecDepth 100000 in
theorem chars_92 : chars bs92 = [(bs92, false)] := by kernel_rfl
set_option maxRecDepth 100000 in
theorem chars_q1 : chars q1 = [(q1, false)] := by kernel_rfl
theorem byte_hi {s : ByteArray} {p : Nat} (h : p < s.size) (hw : wr1 s p = false) : (∀ x ∈ bn (ct s p), 128 ≤ x) ∨ ∃ x, x < 128 ∧ bn (ct s p) = [x] := by
  have e := encZ (cr s p : Int)
  rw [rb_ct h hw] at e
  have c := cr_le s p
  by_cases a : cr s p < 128
  · right
    refine ⟨cr s p, a, ?_⟩
    rw [Lib.encodeRuneZ_one (by omega) (by omega)] at e
    have := map_one (f := fun (x : Nat) => (x : Int)) (fun (a b : Nat) (e : (a : Int) = (b : Int)) => by omega) (bn (ct s p)) [cr s p] e
    exact this
  · left
    intro x hx
    have hm : (x : Int) ∈ Lib.encodeRuneZ (cr s p : Int) := by rw [← e]; exact List.mem_map_of_mem hx
    unfold Lib.encodeRuneZ at hm
    split at hm
    · omega
    · split at hm
      · simp at hm; omega
      · split at hm
        · simp at hm; omega
        · split at hm <;> (simp at hm; omega)
/-- a character with its 92 ahead. -/
def escC (c : ByteArray × Bool) : List (ByteArray × Bool) := if c.1.toList = [34] ∨ c.1.toList = [92] then [(bs92, false), c] else [c]
theorem esc_ct {s : ByteArray} {p : Nat} (h : p < s.size) (hw : wr1 s p = false) : chars (esc (ct s p)) = escC (ct s p, false) := by
  have tb : (ct s p).toList = [34] ↔ bn (ct s p) = [34] := by
    rw [ByteArray.toList_eq]
    constructor
    · intro e; unfold bn; rw [e]; rfl
    · intro e
      exact map_one (f := UInt8.toNat) (fun a b e => UInt8.toNat_inj.1 e) _ [34] e
  have tb2 : (ct s p).toList = [92] ↔ bn (ct s p) = [92] := by
    rw [ByteArray.toList_eq]
    constructor
    · intro e; unfold bn; rw [e]; rfl
    · intro e
      exact map_one (f := UInt8.toNat) (fun a b e => UInt8.toNat_inj.1 e) _ [92] e
  unfold escC
  simp only
  rcases byte_hi h hw with hh | ⟨x, hx, hb⟩
  · rw [if_neg (by
      rintro (e | e)
      · have := hh 34 (by rw [tb.1 e]; exact List.mem_singleton_self _); omega
      · have := hh 92 (by rw [tb2.1 e]; exact List.mem_singleton_self _); omega), esc_plain (fun x hx => by have := hh x hx; omega)]
    exact chars_one h hw
  · by_cases e : x = 34 ∨ x = 92
    · have ee : esc (ct s p) = bs92 ++ ct s p := by
        have e1 : esc (ct s p) = bs8 (qOne x) := by unfold esc; rw [hb]; simp
        have e2 : bs92 ++ ct s p = bs8 [92] ++ bs8 (bn (ct s p)) := by rw [bs8_bn]; rfl
        rw [e1, e2, hb, ← bs8_app, qOne, if_pos e]
        rfl
      rw [if_pos (e.imp (fun q => tb.2 (by rw [hb, q])) (fun q => tb2.2 (by rw [hb, q]))), ee, chars_valid (by rw [chars_92]; rfl), chars_92, chars_one h hw]
      rfl
    · rw [if_neg (by
        rintro (e' | e')
        · have := tb.1 e'
          rw [hb] at this
          simp at this
          exact e (.inl this)
        · have := tb2.1 e'
          rw [hb] at this
          simp at this
          exact e (.inr this)), esc_plain (fun y hy => by
        rw [hb] at hy
        have := List.mem_singleton.1 hy
        omega)]
      exact chars_one h hw
theorem okc_escC (c : ByteArray × Bool) (h : c.2 = false) : okc (escC c) = true := by
  unfold escC
  split <;> simp [okc, h]
/-- the characters of a text with its 92s. -/
theorem chars_esc (s : ByteArray) : ∀ g p, p ≤ s.size → s.size ≤ p + g → okc (chL s g p) = true → chars (esc (s.extract p s.size)) = (chL s g p).flatMap escC
  | 0, p, hp, hg, _ => by
    obtain rfl : p = s.size := by omega
    have e : s.extract s.size s.size = ⟨#[]⟩ := by
      apply ba_ext
      rw [Lib.extract_data, Nat.sub_self, List.take_zero]
    rw [e]
    rfl
  | g + 1, p, hp, hg, ho => by
    by_cases h : p < s.size
    · rw [chL_at s g p h] at ho ⊢
      obtain ⟨hw, ho'⟩ := okc_cons ho
      have wl := cw_le s p h
      have wp := cw_pos s p
      have hw' : wr1 s p = false := hw
      have sp : s.extract p s.size = ct s p ++ s.extract (p + cw s p) s.size := by
        apply ba_ext
        rw [app_data]
        unfold ct
        rw [Lib.extract_data, Lib.extract_data, Lib.extract_data]
        rw [show p + cw s p - p = cw s p from by omega, show s.size - p = cw s p + (s.size - (p + cw s p)) from by omega, List.take_add, List.drop_drop]
      rw [sp, esc_app, chars_valid (by rw [esc_ct h hw']; exact okc_escC _ rfl), esc_ct h hw', chars_esc s g (p + cw s p) wl (by omega) ho', List.flatMap_cons, hw']
    · obtain rfl : p = s.size := by omega
      have e : s.extract s.size s.size = ⟨#[]⟩ := by
        apply ba_ext
        rw [Lib.extract_data, Nat.sub_self, List.take_zero]
      rw [chL_end s _ _ h, e]
      rfl
theorem okc_flat : ∀ l : List (ByteArray × Bool), okc l = true → okc (l.flatMap escC) = true
  | [], _ => rfl
  | c :: l, h => by
    obtain ⟨h1, h2⟩ := okc_cons h
    rw [List.flatMap_cons, okc_app, okc_escC c h1, okc_flat l h2]
    rfl
theorem chars_quo {s : ByteArray} (h : okc (chars s) = true) : chars (quo s) = (q1, false) :: ((chars s).flatMap escC ++ [(q1, false)]) ∧ okc (chars (quo s)) = true := by
  have ce := chars_esc s s.size 0 (Nat.zero_le _) (by omega) h
  rw [ext_all'] at ce
  have ok1 : okc (chars (q1 ++ esc s)) = true := by
    rw [chars_valid (by rw [chars_q1]; rfl), okc_app, chars_q1, ce]
    show (true && okc ((chL s s.size 0).flatMap escC)) = true
    rw [Bool.true_and]
    exact okc_flat _ h
  have e : chars (quo s) = (q1, false) :: ((chars s).flatMap escC ++ [(q1, false)]) := by
    rw [quo_esc, chars_valid ok1, chars_valid (by rw [chars_q1]; rfl), chars_q1, ce]
    rfl
  refine ⟨e, ?_⟩
  rw [e]
  show okc ([(q1, false)] ++ ((chars s).flatMap escC ++ [(q1, false)])) = true
  rw [okc_app, okc_app, okc_flat _ h]
  rfl
/-- the texts of some characters, one behind the other. -/
def cat : List (ByteArray × Bool) → ByteArray
  | [] => emp
  | c :: l => c.1 ++ cat l
theorem emp_app (a : ByteArray) : emp ++ a = a := by apply ba_ext; simp [emp]
theorem app_emp (a : ByteArray) : a ++ emp = a := by apply ba_ext; simp [emp]
theorem cat_chL (s : ByteArray) : ∀ g p, p ≤ s.size → s.size ≤ p + g → cat (chL s g p) = s.extract p s.size
  | 0, p, hp, hg => by
    obtain rfl : p = s.size := by omega
    apply ba_ext
    rw [Lib.extract_data, Nat.sub_self, List.take_zero]
    rfl
  | g + 1, p, hp, hg => by
    by_cases h : p < s.size
    · have wl := cw_le s p h
      have wp := cw_pos s p
      rw [chL_at s g p h, cat, cat_chL s g (p + cw s p) wl (by omega)]
      apply ba_ext
      rw [app_data]
      show (ct s p).data.toList ++ _ = _
      unfold ct
      rw [Lib.extract_data, Lib.extract_data, Lib.extract_data]
      rw [show p + cw s p - p = cw s p from by omega, show s.size - p = cw s p + (s.size - (p + cw s p)) from by omega, List.take_add, List.drop_drop]
    · obtain rfl : p = s.size := by omega
      rw [chL_end s _ _ h]
      apply ba_ext
      rw [Lib.extract_data, Nat.sub_self, List.take_zero]
      rfl
theorem cat_chars (s : ByteArray) : cat (chars s) = s := by
  have := cat_chL s s.size 0 (Nat.zero_le _) (by omega)
  rw [ext_all'] at this
  exact this
theorem run_body : ∀ (l : List (ByteArray × Bool)) (k : Nat) (S : CS), okc l = true → S.wh = 2 → run (l.flatMap escC) k S = .inr ⟨2, S.ws, S.wd, S.tx ++ cat l⟩
  | [], k, S, _, h => by
    obtain ⟨wh, ws, wd, tx⟩ := S
    obtain rfl : wh = 2 := h
    show Sum.inr _ = Sum.inr _
    rw [cat, app_emp]
  | c :: l, k, S, ho, h => by
    obtain ⟨hc, ho'⟩ := okc_cons ho
    obtain ⟨wh, ws, wd, tx⟩ := S
    obtain rfl : wh = 2 := h
    rw [List.flatMap_cons]
    have fin : ∀ k, run (l.flatMap escC) k ⟨2, ws, wd, tx ++ c.1⟩ = .inr ⟨2, ws, wd, tx ++ cat (c :: l)⟩ := fun k => by
      rw [run_body l k ⟨2, ws, wd, tx ++ c.1⟩ ho' rfl, cat]
      show Sum.inr (⟨2, ws, wd, tx ++ c.1 ++ cat l⟩ : CS) = _
      rw [show tx ++ c.1 ++ cat l = tx ++ (c.1 ++ cat l) from ba_ext (by simp)]
    unfold escC
    by_cases e : c.1.toList = [34] ∨ c.1.toList = [92]
    · rw [if_pos e]
      show run ((bs92, false) :: (c :: l.flatMap escC)) k _ = _
      rw [run, if_neg Bool.false_ne_true, stp_2 rfl]
      simp only [CS.quot]
      rw [if_pos t92, run, if_neg (by rw [hc]; exact Bool.false_ne_true), stp_3 rfl]
      exact fin _
    · rw [if_neg e]
      show run (c :: l.flatMap escC) k _ = _
      rw [run, if_neg (by rw [hc]; exact Bool.false_ne_true), stp_2 rfl]
      simp only [CS.quot]
      rw [if_neg (fun h => e (.inr h)), if_neg (fun h => e (.inl h))]
      exact fin _
theorem run_blanks : ∀ (l : List (ByteArray × Bool)) (k : Nat) (S : CS), (∀ c, c ∈ l → c.2 = false ∧ bl1 c.1 = true) → S.wh = 0 → run l k S = .inr S
  | [], _, _, _, _ => rfl
  | c :: l, k, S, h, h0 => by
    obtain ⟨h1, h2⟩ := h c (List.mem_cons_self ..)
    rw [run, if_neg (by rw [h1]; exact Bool.false_ne_true), stp_0 h0]
    simp only [CS.first]
    rw [if_pos h2]
    exact run_blanks l (k + 1) S (fun d hd => h d (List.mem_cons_of_mem _ hd)) h0
/-- a line of quoted texts so far. -/
structure Ln (T : ByteArray) (ws : List W3) : Prop where
  ok : okc (chars T) = true
  st : ∃ S, run (chars T) 0 cs0 = .inr S ∧ S.ws = ws ∧ S.tx = emp ∧ (S.wh = 0 ∨ S.wh = 4)
theorem Ln.nil : Ln emp [] := ⟨rfl, cs0, rfl, rfl, rfl, .inl rfl⟩
/-- blanks: a text of blanks alone. -/
structure Bk (b : ByteArray) : Prop where
  all : ∀ c, c ∈ chars b → c.2 = false ∧ bl1 c.1 = true
  pos : 0 < (chars b).length
theorem Bk.ok {b : ByteArray} (h : Bk b) : okc (chars b) = true := by
  unfold okc
  rw [List.all_eq_true]
  intro c hc
  rw [(h.all c hc).1]
  rfl
theorem Ln.next {T b s : ByteArray} {ws : List W3} (h : Ln T ws) (hb : Bk b) (hs : okc (chars s) = true) :
    Ln (T ++ b ++ quo s) (ws ++ [⟨s, ((chars T).length + (chars b).length : Nat), true⟩]) ∧ (chars (T ++ b)).length = (chars T).length + (chars b).length ∧ (chars (T ++ b ++ quo s)).length = (chars T).length + (chars b).length + (chars (quo s)).length := by
  obtain ⟨ok, S, hr, h1, h2, h3⟩ := h
  obtain ⟨cq, okq⟩ := chars_quo hs
  have c1 : chars (T ++ b) = chars T ++ chars b := chars_valid ok
  have ok1 : okc (chars (T ++ b)) = true := by rw [c1, okc_app, ok, hb.ok]; rfl
  have c2 : chars (T ++ b ++ quo s) = chars (T ++ b) ++ chars (quo s) := chars_valid ok1
  refine ⟨⟨by rw [c2, okc_app, ok1, okq]; rfl, ?_⟩, by rw [c1, List.length_append], by rw [c2, c1, List.length_append, List.length_append]⟩
  -- the blanks
  have rb : ∃ S0, run (chars b) (0 + (chars T).length) S = .inr S0 ∧ S0.ws = ws ∧ S0.tx = emp ∧ S0.wh = 0 := by
    rcases h3 with h3 | h3
    · exact ⟨S, run_blanks _ _ S hb.all h3, h1, h2, h3⟩
    · have hp := hb.pos
      have hall := hb.all
      cases hl : chars b with
      | nil => rw [hl] at hp; simp at hp
      | cons c l =>
        rw [hl] at hall
        obtain ⟨q1', q2'⟩ := hall c (List.mem_cons_self ..)
        refine ⟨S.to 0, ?_, h1, h2, rfl⟩
        rw [run, if_neg (by rw [q1']; exact Bool.false_ne_true), stp_4 h3, if_pos q2']
        exact run_blanks l _ (S.to 0) (fun d hd => hall d (List.mem_cons_of_mem _ hd)) rfl
  obtain ⟨S0, r0, w0, x0, z0⟩ := rb
  have R1 := run_app (chars T) (chars b) 0 cs0
  rw [hr] at R1
  simp only at R1
  rw [r0] at R1
  have R2 := run_app (chars (T ++ b)) (chars (quo s)) 0 cs0
  rw [c1, R1] at R2
  simp only at R2
  rw [← c1] at R2
  rw [c2, R2]
  have kl : 0 + (chars (T ++ b)).length = (chars T).length + (chars b).length := by rw [c1, List.length_append]; omega
  rw [kl, cq, run, if_neg Bool.false_ne_true, stp_0 z0]
  simp only [CS.first]
  rw [if_neg (by rw [bl1, tq1]; decide), if_neg (by rw [tq1]; decide), if_pos tq1]
  have R3 := run_app ((chars s).flatMap escC) [(q1, false)] ((chars T).length + (chars b).length + 1) ((S0.beg ((chars T).length + (chars b).length) true).to 2)
  rw [run_body (chars s) _ _ hs rfl] at R3
  simp only at R3
  rw [R3, run, if_neg Bool.false_ne_true, stp_2 rfl]
  simp only [CS.quot]
  rw [if_neg (by rw [tq1]; decide), if_pos tq1]
  refine ⟨_, rfl, ?_, rfl, .inr rfl⟩
  show S0.ws ++ [⟨S0.tx ++ cat (chars s), _, true⟩] = _
  rw [w0, x0, cat_chars, emp_app]
  rfl
end Go.Proofs.YtmehknhajoemgaaDoor.Wd
