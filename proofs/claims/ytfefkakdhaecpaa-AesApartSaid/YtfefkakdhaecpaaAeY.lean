/-
  Enciphering is one to one on blocks, in numbers.
  Conditions: none.
-/
import Derived.Test.YtfefkakdhaecpaaAeX
namespace Go.Proofs.Ytfefkakdhaecpaa.Ae
open Go.RowKit By
set_option linter.unusedVariables false
set_option linter.unusedSimpArgs false

theorem xor_cancel {a b k : Nat} (h : a ^^^ k = b ^^^ k) : a = b := by
  have := congrArg (· ^^^ k) h
  simpa [Nat.xor_assoc] using this
def isL : List Nat := [82, 9, 106, 213, 48, 54, 165, 56, 191, 64, 163, 158, 129, 243, 215, 251, 124, 227, 57, 130, 155, 47, 255, 135, 52, 142, 67, 68, 196, 222, 233, 203, 84, 123, 148, 50, 166, 194, 35, 61, 238, 76, 149, 11, 66, 250, 195, 78, 8, 46, 161, 102, 40, 217, 36, 178, 118, 91, 162, 73, 109, 139, 209, 37, 114, 248, 246, 100, 134, 104, 152, 22, 212, 164, 92, 204, 93, 101, 182, 146, 108, 112, 72, 80, 253, 237, 185, 218, 94, 21, 70, 87, 167, 141, 157, 132, 144, 216, 171, 0, 140, 188, 211, 10, 247, 228, 88, 5, 184, 179, 69, 6, 208, 44, 30, 143, 202, 63, 15, 2, 193, 175, 189, 3, 1, 19, 138, 107, 58, 145, 17, 65, 79, 103, 220, 234, 151, 242, 207, 206, 240, 180, 230, 115, 150, 172, 116, 34, 231, 173, 53, 133, 226, 249, 55, 232, 28, 117, 223, 110, 71, 241, 26, 113, 29, 41, 197, 137, 111, 183, 98, 14, 170, 24, 190, 27, 252, 86, 62, 75, 198, 210, 121, 32, 154, 219, 192, 254, 120, 205, 90, 244, 31, 221, 168, 51, 136, 7, 199, 49, 177, 18, 16, 89, 39, 128, 236, 95, 96, 81, 127, 169, 25, 181, 74, 13, 45, 229, 122, 159, 147, 201, 156, 239, 160, 224, 59, 77, 174, 42, 245, 176, 200, 235, 187, 60, 131, 83, 153, 97, 23, 43, 4, 126, 186, 119, 214, 38, 225, 105, 20, 99, 85, 33, 12, 125]
theorem is_s : ∀ a, a < 256 → gl isL (sbox a) = a := by decide +kernel
theorem sbox_inj {a b : Nat} (ha : a < 256) (hb : b < 256) (h : sbox a = sbox b) : a = b := by
  rw [← is_s a ha, h, is_s b hb]
theorem mv_inj {s t : Nat → Nat} (hs : ∀ i, i < 16 → s i < 256) (ht : ∀ i, i < 16 → t i < 256) (h : ∀ i, i < 16 → mv s i = mv t i) : ∀ j, j < 16 → s j = t j := by
  intro j hj
  have e := h (j % 4 + 4 * ((j / 4 + 4 - j % 4) % 4)) (by omega)
  unfold mv at e
  rw [show (j % 4 + 4 * ((j / 4 + 4 - j % 4) % 4)) % 4 + 4 * (((j % 4 + 4 * ((j / 4 + 4 - j % 4) % 4)) / 4 + (j % 4 + 4 * ((j / 4 + 4 - j % 4) % 4)) % 4) % 4) = j from by omega] at e
  exact sbox_inj (hs j hj) (ht j hj) e
theorem tA_xor {a b : Nat} (ha : a < 256) (hb : b < 256) : ∀ i, tA (a ^^^ b) i = tA a i ^^^ tA b i
  | 0 => rfl
  | i + 1 => by
    show xt (tA (a ^^^ b) i) = xt (tA a i) ^^^ xt (tA b i)
    rw [tA_xor ha hb i, xt_xor _ (tA_lt ha i) _ (tA_lt hb i)]
theorem tO_xor {a b : Nat} (ha : a < 256) (hb : b < 256) (e : Nat) : ∀ i, tO (a ^^^ b) e i = tO a e i ^^^ tO b e i
  | 0 => by simp [tO]
  | i + 1 => by
    simp only [tO]
    rw [tO_xor ha hb e i, tA_xor ha hb i]
    split
    · ac_rfl
    · rfl
theorem gm_xor {a b : Nat} (ha : a < 256) (hb : b < 256) (e : Nat) : gm (a ^^^ b) e = gm a e ^^^ gm b e := tO_xor ha hb e 8
theorem gm_xor4 {a b c d : Nat} (ha : a < 256) (hb : b < 256) (hc : c < 256) (hd : d < 256) (e : Nat) : gm (a ^^^ b ^^^ c ^^^ d) e = gm a e ^^^ gm b e ^^^ gm c e ^^^ gm d e := by
  rw [gm_xor (lt_xor8 (lt_xor8 ha hb) hc) hd, gm_xor (lt_xor8 ha hb) hc, gm_xor ha hb]
theorem I0 : ∀ a, a < 256 → gm (xt a) 14 ^^^ gm a 11 ^^^ gm a 13 ^^^ gm (xt a ^^^ a) 9 = a := by decide +kernel
theorem I1 : ∀ a, a < 256 → gm (xt a ^^^ a) 14 ^^^ gm (xt a) 11 ^^^ gm a 13 ^^^ gm a 9 = 0 := by decide +kernel
theorem I2 : ∀ a, a < 256 → gm a 14 ^^^ gm (xt a ^^^ a) 11 ^^^ gm (xt a) 13 ^^^ gm a 9 = 0 := by decide +kernel
theorem I3 : ∀ a, a < 256 → gm a 14 ^^^ gm a 11 ^^^ gm (xt a ^^^ a) 13 ^^^ gm (xt a) 9 = 0 := by decide +kernel
/-- the first byte of a column that is mixed. -/
def cm (a b c d : Nat) : Nat := xt a ^^^ (xt b ^^^ b) ^^^ c ^^^ d
theorem sum16 (a1 a2 a3 a4 b1 b2 b3 b4 c1 c2 c3 c4 d1 d2 d3 d4 : Nat) :
    (a1 ^^^ b1 ^^^ c1 ^^^ d1) ^^^ (b2 ^^^ c2 ^^^ d2 ^^^ a2) ^^^ (c3 ^^^ d3 ^^^ a3 ^^^ b3) ^^^ (d4 ^^^ a4 ^^^ b4 ^^^ c4) = (a1 ^^^ a2 ^^^ a3 ^^^ a4) ^^^ ((b1 ^^^ b2 ^^^ b3 ^^^ b4) ^^^ ((c1 ^^^ c2 ^^^ c3 ^^^ c4) ^^^ (d1 ^^^ d2 ^^^ d3 ^^^ d4))) := by ac_rfl
theorem cm_inv {a b c d : Nat} (ha : a < 256) (hb : b < 256) (hc : c < 256) (hd : d < 256) :
    gm (cm a b c d) 14 ^^^ gm (cm b c d a) 11 ^^^ gm (cm c d a b) 13 ^^^ gm (cm d a b c) 9 = a := by
  have xa := xt_lt ha
  have xb := xt_lt hb
  have xc := xt_lt hc
  have xd := xt_lt hd
  unfold cm
  rw [gm_xor4 xa (lt_xor8 xb hb) hc hd, gm_xor4 xb (lt_xor8 xc hc) hd ha, gm_xor4 xc (lt_xor8 xd hd) ha hb, gm_xor4 xd (lt_xor8 xa ha) hb hc, sum16, I0 a ha, I1 b hb, I2 c hc, I3 d hd]
  simp
theorem mx_cm (f : Nat → Nat) (hf : ∀ i, i < 16 → f i < 256) (c : Nat) (hc : c < 4) :
    mx f (4 * c) = cm (f (4 * c)) (f (4 * c + 1)) (f (4 * c + 2)) (f (4 * c + 3)) ∧
    mx f (4 * c + 1) = cm (f (4 * c + 1)) (f (4 * c + 2)) (f (4 * c + 3)) (f (4 * c)) ∧
    mx f (4 * c + 2) = cm (f (4 * c + 2)) (f (4 * c + 3)) (f (4 * c)) (f (4 * c + 1)) ∧
    mx f (4 * c + 3) = cm (f (4 * c + 3)) (f (4 * c)) (f (4 * c + 1)) (f (4 * c + 2)) := by
  obtain ⟨e0, e1, e2, e3⟩ := mx_col f hf c hc
  unfold cm
  refine ⟨e0, e1.trans ?_, e2.trans ?_, e3.trans ?_⟩ <;> ac_rfl
theorem mx_inj {f g : Nat → Nat} (hf : ∀ i, i < 16 → f i < 256) (hg : ∀ i, i < 16 → g i < 256) (h : ∀ i, i < 16 → mx f i = mx g i) : ∀ j, j < 16 → f j = g j := by
  have col : ∀ c, c < 4 → f (4 * c) = g (4 * c) ∧ f (4 * c + 1) = g (4 * c + 1) ∧ f (4 * c + 2) = g (4 * c + 2) ∧ f (4 * c + 3) = g (4 * c + 3) := by
    intro c hc
    obtain ⟨a0, a1, a2, a3⟩ := mx_cm f hf c hc
    obtain ⟨b0, b1, b2, b3⟩ := mx_cm g hg c hc
    rw [h _ (by omega)] at a0 a1 a2 a3
    have c0 := a0.symm.trans b0
    have c1 := a1.symm.trans b1
    have c2 := a2.symm.trans b2
    have c3 := a3.symm.trans b3
    have f0 := hf (4 * c) (by omega)
    have f1 := hf (4 * c + 1) (by omega)
    have f2 := hf (4 * c + 2) (by omega)
    have f3 := hf (4 * c + 3) (by omega)
    have g0 := hg (4 * c) (by omega)
    have g1 := hg (4 * c + 1) (by omega)
    have g2 := hg (4 * c + 2) (by omega)
    have g3 := hg (4 * c + 3) (by omega)
    refine ⟨?_, ?_, ?_, ?_⟩
    · rw [← cm_inv f0 f1 f2 f3, c0, c1, c2, c3, cm_inv g0 g1 g2 g3]
    · rw [← cm_inv f1 f2 f3 f0, c0, c1, c2, c3, cm_inv g1 g2 g3 g0]
    · rw [← cm_inv f2 f3 f0 f1, c0, c1, c2, c3, cm_inv g2 g3 g0 g1]
    · rw [← cm_inv f3 f0 f1 f2, c0, c1, c2, c3, cm_inv g3 g0 g1 g2]
  intro j hj
  obtain ⟨k0, k1, k2, k3⟩ := col (j / 4) (by omega)
  have hr : j = 4 * (j / 4) ∨ j = 4 * (j / 4) + 1 ∨ j = 4 * (j / 4) + 2 ∨ j = 4 * (j / 4) + 3 := by omega
  rcases hr with e | e | e | e
  · rw [e]; exact k0
  · rw [e]; exact k1
  · rw [e]; exact k2
  · rw [e]; exact k3
theorem cip_inj {W X Y : Nat → Nat} (hW : ∀ i, W i < 256) (hX : ∀ i, X i < 256) (hY : ∀ i, Y i < 256) : ∀ r, (∀ i, i < 16 → cip W X r i = cip W Y r i) → ∀ i, i < 16 → X i = Y i
  | 0, h => fun i hi => xor_cancel (h i hi)
  | r + 1, h => by
    have e : ∀ i, i < 16 → mx (mv (cip W X r)) i = mx (mv (cip W Y r)) i := fun i hi => xor_cancel (h i hi)
    have e2 := mx_inj (fun i _ => mv_lt _ i) (fun i _ => mv_lt _ i) e
    have e3 := mv_inj (fun i _ => cip_all hW hX r i) (fun i _ => cip_all hW hY r i) e2
    exact cip_inj hW hX hY r e3
theorem enc_inj {W X Y : Nat → Nat} (hW : ∀ i, W i < 256) (hX : ∀ i, X i < 256) (hY : ∀ i, Y i < 256) (h : ∀ i, i < 16 → enc W X i = enc W Y i) : ∀ i, i < 16 → X i = Y i := by
  have e : ∀ i, i < 16 → mv (cip W X 9) i = mv (cip W Y 9) i := fun i hi => xor_cancel (h i hi)
  have e3 := mv_inj (fun i _ => cip_all hW hX 9 i) (fun i _ => cip_all hW hY 9 i) e
  exact cip_inj hW hX hY 9 e3
theorem bl_inj {f g : Nat → Nat} {n : Nat} (h : bl f n = bl g n) : ∀ i, i < n → f i = g i := by
  intro i hi
  have := congrArg (fun l : List Nat => l.getD i 0) h
  simpa [bl, hi] using this
theorem bl_byte {f : Nat → Nat} (hf : ∀ i, f i < 256) (n : Nat) : ∀ x ∈ bl f n, x < 256 := by
  intro x hx
  simp only [bl, List.mem_map] at hx
  obtain ⟨i, _, rfl⟩ := hx
  exact hf i
theorem toList_ne {t s : ByteArray} (k : ¬ t = s) : (t.toList == s.toList) = false := by
  rw [beq_eq_false_iff_ne]
  intro e
  rw [ByteArray.toList_eq, ByteArray.toList_eq] at e
  exact k (ByteArray.ext (Array.toList_inj.1 e))
/-- two blocks are the same just if what they are enciphered to is. -/
theorem enc_same {W X Y : Nat → Nat} (hW : ∀ i, W i < 256) (hX : ∀ i, X i < 256) (hY : ∀ i, Y i < 256) :
    ((bs8 (bl X 16)).toList == (bs8 (bl Y 16)).toList) = ((bs8 (bl (enc W X) 16)).toList == (bs8 (bl (enc W Y) 16)).toList) := by
  by_cases c : bs8 (bl X 16) = bs8 (bl Y 16)
  · have e := bl_inj (bs8_inj (bl_byte hX 16) (bl_byte hY 16) c)
    have e2 : bl (enc W X) 16 = bl (enc W Y) 16 := bl_congr (fun i hi => enc_congr (fun _ _ => rfl) e i hi)
    rw [c, e2, beq_self_eq_true, beq_self_eq_true]
  · have c2 : ¬ bs8 (bl (enc W X) 16) = bs8 (bl (enc W Y) 16) := fun h => c (by
      have e := bl_inj (bs8_inj (bl_byte (enc_all hW) 16) (bl_byte (enc_all hW) 16) h)
      rw [bl_congr (enc_inj hW hX hY e)])
    rw [toList_ne c, toList_ne c2]
end Go.Proofs.Ytfefkakdhaecpaa.Ae
