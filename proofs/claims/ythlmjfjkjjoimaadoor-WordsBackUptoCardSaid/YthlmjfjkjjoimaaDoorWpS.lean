/-
  The characters of two texts, one behind the other.
-/
import Derived.Test.YthlmjfjkjjoimaaDoorWpR
import Derived.Test.YthlmjfjkjjoimaaDoorShelfU
import Derived.Lib.ValidU
namespace Go.Proofs.YthlmjfjkjjoimaaDoor.Wd
open Go.ChangeShapes Go.WideShapes Go.ChangeAt Go.RowKit Go.Joins By
set_option linter.unusedVariables false
set_option linter.unusedSimpArgs false

theorem app_data (a b : ByteArray) : (a ++ b).data.toList = a.data.toList ++ b.data.toList := by simp
theorem len_data (a : ByteArray) : a.data.toList.length = a.size := by rw [Array.length_toList]; rfl
theorem get_left {a b : ByteArray} {i : Nat} (h : i < a.size) : (a ++ b).get! i = a.get! i := by
  rw [← Lib.getD_get!', ← Lib.getD_get!', app_data, List.getD_eq_getElem?_getD, List.getElem?_append_left (by rw [len_data]; exact h), ← List.getD_eq_getElem?_getD]
theorem get_right (a b : ByteArray) (i : Nat) : (a ++ b).get! (a.size + i) = b.get! i := by
  rw [← Lib.getD_get!', ← Lib.getD_get!', app_data, List.getD_eq_getElem?_getD, List.getElem?_append_right (by rw [len_data]; omega), len_data, show a.size + i - a.size = i from by omega, ← List.getD_eq_getElem?_getD]
theorem ba_ext {a b : ByteArray} (h : a.data.toList = b.data.toList) : a = b := ByteArray.ext (Array.toList_inj.1 h)
theorem ext_in {a b : ByteArray} {i j : Nat} (h : j ≤ a.size) : (a ++ b).extract i j = a.extract i j := by
  apply ba_ext
  rw [Lib.extract_data, Lib.extract_data, app_data]
  by_cases hij : i ≤ j
  · rw [List.drop_append_of_le_length (by rw [len_data]; omega), List.take_append_of_le_length (by rw [List.length_drop, len_data]; omega)]
  · rw [show j - i = 0 from by omega, List.take_zero, List.take_zero]
theorem ext_out (a b : ByteArray) (i j : Nat) : (a ++ b).extract (a.size + i) (a.size + j) = b.extract i j := by
  apply ba_ext
  rw [Lib.extract_data, Lib.extract_data, app_data]
  have e : (a.data.toList ++ b.data.toList).drop (a.size + i) = b.data.toList.drop i := by
    rw [← len_data a, ← List.drop_drop, List.drop_left]
  rw [e]
  congr 1
  omega

theorem ext_all' (s : ByteArray) : s.extract 0 s.size = s := by
  apply ba_ext
  rw [Lib.extract_data]
  simp only [List.drop_zero, Nat.sub_zero]
  rw [← len_data s]
  exact List.take_length
/-- what comes behind makes no difference, as long as it doesn't go on a character. -/
theorem decN_same {n n' b0 b1 b2 b3 c1 c2 c3 : Nat} (hn : 1 ≤ n) (hle : n ≤ n') (h1 : 1 < n → c1 = b1) (h2 : 2 < n → c2 = b2) (h3 : 3 < n → c3 = b3)
    (e1 : n = 1 → n' = 1 ∨ c1 < 128) (e2 : n = 2 → n' = 2 ∨ c2 < 128) (e3 : n = 3 → n' = 3 ∨ c3 < 128) : Lib.decodeN n' b0 c1 c2 c3 = Lib.decodeN n b0 b1 b2 b3 := by
  by_cases a1 : n = 1
  · subst a1
    have f1 : ¬ (1 < n' ∧ c1 / 64 = 2) := by have := e1 rfl; omega
    unfold Lib.decodeN
    simp only [f1, show ¬ (1 < 1) from by omega, false_and, and_false, if_false]
  · have q1 := h1 (by omega)
    subst q1
    by_cases a2 : n = 2
    · subst a2
      have f2 : ¬ (2 < n' ∧ c2 / 64 = 2) := by have := e2 rfl; omega
      have g1 : (1 < n') = (1 < 2) := by rw [eq_true (show 1 < n' by omega), eq_true (show 1 < 2 by omega)]
      unfold Lib.decodeN
      simp only [f2, g1, show ¬ (2 < 2) from by omega, false_and, and_false, if_false]
    · have q2 := h2 (by omega)
      subst q2
      by_cases a3 : n = 3
      · subst a3
        have f3 : ¬ (3 < n' ∧ c3 / 64 = 2) := by have := e3 rfl; omega
        have g1 : (1 < n') = (1 < 3) := by rw [eq_true (show 1 < n' by omega), eq_true (show 1 < 3 by omega)]
        have g2 : (2 < n') = (2 < 3) := by rw [eq_true (show 2 < n' by omega), eq_true (show 2 < 3 by omega)]
        unfold Lib.decodeN
        simp only [f3, g1, g2, show ¬ (3 < 3) from by omega, false_and, and_false, if_false]
      · have q3 := h3 (by omega)
        subst q3
        have g1 : (1 < n') = (1 < n) := by rw [eq_true (show 1 < n' by omega), eq_true (show 1 < n by omega)]
        have g2 : (2 < n') = (2 < n) := by rw [eq_true (show 2 < n' by omega), eq_true (show 2 < n by omega)]
        have g3 : (3 < n') = (3 < n) := by rw [eq_true (show 3 < n' by omega), eq_true (show 3 < n by omega)]
        unfold Lib.decodeN
        simp only [g1, g2, g3]
theorem decN_valid {n n' b0 b1 b2 b3 c1 c2 c3 : Nat} (hle : n ≤ n') (h1 : 1 < n → c1 = b1) (h2 : 2 < n → c2 = b2) (h3 : 3 < n → c3 = b3) (hv : ¬ ((Lib.decodeN n b0 b1 b2 b3).1 = 65533 ∧ (Lib.decodeN n b0 b1 b2 b3).2 = 1)) :
    Lib.decodeN n' b0 c1 c2 c3 = Lib.decodeN n b0 b1 b2 b3 := by
  rcases Lib.decodeN_shape n b0 b1 b2 b3 with ⟨d0, e⟩ | ⟨d1, d2, d3, dv, e⟩ | ⟨d1, d2, d3, d4, dv, ds, e⟩ | ⟨d1, d2, d3, d4, d5, dv, dw, e⟩ | e
  · rw [e]
    unfold Lib.decodeN
    rw [if_pos d0]
  · rw [e]
    have q1 := h1 (by omega)
    subst q1
    unfold Lib.decodeN
    rw [if_neg (by omega), if_pos ⟨by omega, by omega, by omega⟩, if_pos (by omega)]
  · rw [e]
    have q1 := h1 (by omega)
    have q2 := h2 (by omega)
    subst q1 q2
    unfold Lib.decodeN
    rw [if_neg (by omega), if_neg (by omega), if_pos ⟨by omega, ⟨by omega, by omega⟩, by omega, by omega⟩, if_pos ⟨by omega, by omega⟩]
  · rw [e]
    have q1 := h1 (by omega)
    have q2 := h2 (by omega)
    have q3 := h3 (by omega)
    subst q1 q2 q3
    unfold Lib.decodeN
    rw [if_neg (by omega), if_neg (by omega), if_neg (by omega), if_pos ⟨by omega, ⟨by omega, by omega⟩, ⟨by omega, by omega⟩, by omega, by omega⟩, if_pos ⟨by omega, by omega⟩]
  · rw [e] at hv
    exact absurd ⟨rfl, rfl⟩ hv
/-- b does not go on a character of a at i. -/
def apart (a b : ByteArray) (i : Nat) : Prop := (b.size = 0 ∨ (b.get! 0).toNat < 128) ∨ wr1 a i = false
theorem dec_app {a b : ByteArray} {i : Nat} (hi : i < a.size) (h : apart a b i) : cr (a ++ b) i = cr a i ∧ cw (a ++ b) i = cw a i := by
  have key : Utf8.decode (a ++ b) i = Utf8.decode a i := by
    rw [Lib.decode_at, Lib.decode_at, get_left hi, ByteArray.size_append]
    have gk : ∀ k, k < a.size - i → (a ++ b).get! (i + k) = a.get! (i + k) := fun k hk => get_left (by omega)
    rcases h with h | h
    · have at' : ∀ k, k = a.size - i → a.size + b.size - i = k ∨ ((a ++ b).get! (i + k)).toNat < 128 := fun k hk => by
        rcases h with h | h
        · left; omega
        · right
          have := get_right a b 0
          rw [Nat.add_zero] at this
          rw [show i + k = a.size from by omega, this]
          exact h
      exact decN_same (by omega) (by omega) (fun q => by rw [gk 1 q]) (fun q => by rw [gk 2 q]) (fun q => by rw [gk 3 q])
        (fun q => (at' 1 q.symm).imp (fun z => z) id) (fun q => (at' 2 q.symm).imp (fun z => z) id) (fun q => (at' 3 q.symm).imp (fun z => z) id)
    · refine decN_valid (by omega) (fun q => by rw [gk 1 q]) (fun q => by rw [gk 2 q]) (fun q => by rw [gk 3 q]) ?_
      rw [← Lib.decode_at]
      rintro ⟨x, y⟩
      have : wr1 a i = true := by rw [wr1, decide_eq_true (show cr a i = 65533 from x), decide_eq_true (show cw a i = 1 from y)]; rfl
      rw [this] at h; cases h
  unfold cr cw
  rw [key]
  exact ⟨rfl, rfl⟩
theorem chL_fuel (s : ByteArray) : ∀ f g i, s.size ≤ i + f → s.size ≤ i + g → chL s f i = chL s g i
  | 0, g, i, hf, _ => by rw [chL_end s g i (by omega)]; rfl
  | f + 1, 0, i, _, hg => by rw [chL_end s (f + 1) i (by omega)]; rfl
  | f + 1, g + 1, i, hf, hg => by
    by_cases h : i < s.size
    · have := cw_pos s i
      rw [chL_at s f i h, chL_at s g i h, chL_fuel s f g (i + cw s i) (by omega) (by omega)]
    · rw [chL_end s _ i h, chL_end s _ i h]
theorem chL_shift (a b : ByteArray) : ∀ f i, chL (a ++ b) f (a.size + i) = chL b f i
  | 0, _ => rfl
  | f + 1, i => by
    have td := Lib.tail_decode (a ++ b) a.size i
    have e : (a ++ b).extract a.size (a ++ b).size = b := by
      have := ext_out a b 0 b.size
      rw [Nat.add_zero] at this
      rw [ByteArray.size_append, this, ext_all']
    rw [e] at td
    have r1 : cr (a ++ b) (a.size + i) = cr b i := by unfold cr; rw [td]
    have r2 : cw (a ++ b) (a.size + i) = cw b i := by unfold cw; rw [td]
    by_cases h : i < b.size
    · rw [chL_at _ f _ (by rw [ByteArray.size_append]; omega), chL_at _ f _ h]
      have e1 : ct (a ++ b) (a.size + i) = ct b i := by
        unfold ct
        rw [r2, Nat.add_assoc, ext_out]
      have e2 : wr1 (a ++ b) (a.size + i) = wr1 b i := by unfold wr1; rw [r1, r2]
      rw [e1, e2, r2, Nat.add_assoc, chL_shift a b f]
    · rw [chL_end _ _ _ (by rw [ByteArray.size_append]; omega), chL_end _ _ _ h]
theorem chL_app {a b : ByteArray} (hap : ∀ i, i < a.size → apart a b i) : ∀ g i f, i ≤ a.size → a.size ≤ i + g → (a ++ b).size ≤ i + f → chL (a ++ b) f i = chL a g i ++ chars b
  | 0, i, f, hi, hg, hf => by
    obtain rfl : i = a.size := by omega
    have := chL_shift a b f 0
    rw [Nat.add_zero] at this
    rw [this, chL, List.nil_append]
    exact chL_fuel b f b.size 0 (by rw [ByteArray.size_append] at hf; omega) (by omega)
  | g + 1, i, f, hi, hg, hf => by
    by_cases h : i < a.size
    · have hs : i < (a ++ b).size := by rw [ByteArray.size_append]; omega
      obtain ⟨f', rfl⟩ : ∃ f', f = f' + 1 := ⟨f - 1, by omega⟩
      obtain ⟨r1, r2⟩ := dec_app h (hap i h)
      have wl := cw_le a i h
      have wp := cw_pos a i
      rw [chL_at _ f' i hs, chL_at _ g i h]
      have e1 : ct (a ++ b) i = ct a i := by
        unfold ct
        rw [r2, ext_in wl]
      have e2 : wr1 (a ++ b) i = wr1 a i := by unfold wr1; rw [r1, r2]
      rw [e1, e2, r2, chL_app hap g (i + cw a i) f' wl (by omega) (by omega)]
      rfl
    · obtain rfl : i = a.size := by omega
      have := chL_shift a b f 0
      rw [Nat.add_zero] at this
      rw [this, chL_end _ _ _ h, List.nil_append]
      exact chL_fuel b f b.size 0 (by rw [ByteArray.size_append] at hf; omega) (by omega)
theorem chars_app {a b : ByteArray} (hap : ∀ i, i < a.size → apart a b i) : chars (a ++ b) = chars a ++ chars b :=
  chL_app hap a.size 0 (a ++ b).size (Nat.zero_le _) (by omega) (by omega)
theorem chars_ascii {a b : ByteArray} (h : b.size = 0 ∨ (b.get! 0).toNat < 128) : chars (a ++ b) = chars a ++ chars b := chars_app fun i _ => .inl h
/-- how many characters. -/
theorem count_len (s : ByteArray) : ∀ f i, Lib.runeCountFrom s f i = (chL s f i).length
  | 0, _ => rfl
  | f + 1, i => by
    rw [Lib.runeCountFrom]
    by_cases h : i < s.size
    · rw [if_pos h, chL_at s f i h, List.length_cons, count_len s f]
      show 1 + (chL s f (i + cw s i)).length = _
      omega
    · rw [if_neg h, chL_end s _ i h]
      rfl
theorem count_chars (s : ByteArray) : Lib.runeCount s = (chars s).length := count_len s s.size 0
/-- no byte is wrong. -/
def okc (l : List (ByteArray × Bool)) : Bool := l.all fun c => !c.2
theorem tl_drop (s : ByteArray) (i k : Nat) : (tl s i).drop k = tl s (i + k) := by rw [tl_eq, tl_eq, List.drop_drop]
theorem valid_len (s : ByteArray) : ∀ f i, Lib.validGoD f (tl s i) = okc (chL s f i)
  | 0, _ => rfl
  | f + 1, i => by
    rw [Lib.validGoD]
    by_cases h : i < s.size
    · rw [if_neg (tl_ne h), chL_at s f i h, decL, tl_drop, valid_len s f]
      unfold okc
      rw [List.all_cons]
      by_cases hw : cr s i = 65533 ∧ cw s i = 1
      · rw [if_pos hw]
        have : wr1 s i = true := by rw [wr1, decide_eq_true hw.1, decide_eq_true hw.2]; rfl
        rw [this]
        rfl
      · rw [if_neg hw]
        have : wr1 s i = false := by
          unfold wr1
          by_cases x : cr s i = 65533
          · rw [decide_eq_true x, decide_eq_false (fun y => hw ⟨x, y⟩)]; rfl
          · rw [decide_eq_false x]; rfl
        rw [this]
        rfl
    · rw [chL_end s _ i h, if_pos (by rw [tl_eq, List.drop_eq_nil_of_le (by rw [len_data]; omega)])]
      rfl
theorem valid_chars (s : ByteArray) : Lib.validD s.data.toList = okc (chars s) := by
  have h := valid_len s s.size 0
  rw [tl_eq, List.drop_zero] at h
  unfold Lib.validD
  rw [len_data]
  exact h
end Go.Proofs.YthlmjfjkjjoimaaDoor.Wd
