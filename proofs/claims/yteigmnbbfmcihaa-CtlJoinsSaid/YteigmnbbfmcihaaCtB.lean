/-
  Frames as lists of bytes: what they are, and that they are one to one with their bytes.
  Conditions: none.
-/
import Derived.Test.YteigmnbbfmcihaaCtA
namespace Go.Proofs.Yteigmnbbfmcihaa.Ct
open Go.RowKit Go.ChangeShapes Go.WideShapes Go.ChangeAt Go.Joins By
set_option linter.unusedVariables false
set_option linter.unusedSimpArgs false

/-- a frame. -/
structure Fr where
  ver : Int
  resp : Bool
  er : Bool
  more : Bool
  op : Int
  seq : Int
  st : Int
  asc : Int
  off : Int
  dat : List Nat
def fr0 : Fr := ⟨0, false, false, false, 0, 0, 0, 0, 0, []⟩
def btw (n a b : Int) : Bool := decide (a ≤ n) && decide (n ≤ b)
theorem btw_iff {n a b : Int} : btw n a b = true ↔ a ≤ n ∧ n ≤ b := by simp [btw]
/-- a right frame. -/
def okFr (f : Fr) : Bool := btw f.ver 1 4 && btw f.op 0 31 && btw f.seq 0 65535 && btw f.st 0 65535 && btw f.asc 0 65535 && btw f.off 0 65535 && decide (f.dat.length ≤ 468)
theorem okFr_cut {f : Fr} (h : okFr f = true) : (1 ≤ f.ver ∧ f.ver ≤ 4) ∧ (0 ≤ f.op ∧ f.op ≤ 31) ∧ (0 ≤ f.seq ∧ f.seq ≤ 65535) ∧ (0 ≤ f.st ∧ f.st ≤ 65535) ∧ (0 ≤ f.asc ∧ f.asc ≤ 65535) ∧ (0 ≤ f.off ∧ f.off ≤ 65535) ∧ f.dat.length ≤ 468 := by
  simp [okFr, btw] at h
  omega
def bt (b : Bool) : Nat := if b then 1 else 0
theorem bt_le (b : Bool) : bt b ≤ 1 := by cases b <;> simp [bt]
/-- a number in two bytes. -/
def b2 (n : Nat) : List Nat := [n / 256, n % 256]
def fst (f : Fr) : Nat := f.ver.toNat * 8 + 6
def snd (f : Fr) : Nat := bt f.resp * 128 + bt f.er * 64 + bt f.more * 32 + f.op.toNat
def pad (n : Nat) : Nat := (4 - n % 4) % 4
def nums (f : Fr) : List Nat := [f.seq.toNat, f.st.toNat, f.asc.toNat, f.off.toNat, f.dat.length]
/-- what stands ahead of the data. -/
def front (f : Fr) : List Nat := [fst f, snd f] ++ (nums f).flatMap b2
def enc (f : Fr) : List Nat := front f ++ f.dat ++ List.replicate (pad f.dat.length) 0
theorem front_eq (f : Fr) : front f = [fst f, snd f, f.seq.toNat / 256, f.seq.toNat % 256, f.st.toNat / 256, f.st.toNat % 256, f.asc.toNat / 256, f.asc.toNat % 256, f.off.toNat / 256, f.off.toNat % 256, f.dat.length / 256, f.dat.length % 256] := rfl
theorem front_len (f : Fr) : (front f).length = 12 := by rw [front_eq]; rfl
theorem pad_len (n : Nat) : n + pad n = (n + 3) / 4 * 4 := by unfold pad; omega
theorem enc_len (f : Fr) : (enc f).length = 12 + (f.dat.length + 3) / 4 * 4 := by
  have := pad_len f.dat.length
  simp only [enc, List.length_append, front_len, List.length_replicate]
  omega
theorem front_byte {f : Fr} (h : okFr f = true) : ∀ x ∈ front f, x < 256 := by
  obtain ⟨h1, h2, h3, h4, h5, h6, h7⟩ := okFr_cut h
  have r1 := bt_le f.resp
  have r2 := bt_le f.er
  have r3 := bt_le f.more
  rw [front_eq]
  intro x hx
  simp only [List.mem_cons, List.not_mem_nil, or_false, fst, snd] at hx
  omega
theorem enc_byte {f : Fr} (h : okFr f = true) (hd : ∀ x ∈ f.dat, x < 256) : ∀ x ∈ enc f, x < 256 := by
  intro x hx
  simp only [enc, List.mem_append] at hx
  rcases hx with (hx | hx) | hx
  · exact front_byte h x hx
  · exact hd x hx
  · rw [(List.mem_replicate.1 hx).2]; omega

/-- a number of two bytes. -/
def tw (f : Nat → Nat) (a : Nat) : Nat := f a * 256 + f (a + 1)
/-- bytes 0 alone. -/
def zs (f : Nat → Nat) : Nat → Nat → Bool
  | _, 0 => true
  | a, m + 1 => f a == 0 && zs f (a + 1) m
theorem zs_iff {f : Nat → Nat} : ∀ (m a : Nat), zs f a m = true ↔ ∀ i, i < m → f (a + i) = 0
  | 0, a => by simp [zs]
  | m + 1, a => by
    rw [zs, Bool.and_eq_true, zs_iff m (a + 1), beq_iff_eq]
    constructor
    · rintro ⟨h1, h2⟩ i hi
      cases i with
      | zero => exact h1
      | succ j => have := h2 j (by omega); rwa [show a + 1 + j = a + (j + 1) by omega] at this
    · intro h
      refine ⟨by have := h 0 (by omega); simpa using this, fun i hi => ?_⟩
      have := h (i + 1) (by omega)
      rwa [show a + (i + 1) = a + 1 + i by omega] at this
/-- what the twelve bytes at the front say, and the data. -/
def frAt (f : Nat → Nat) : Fr := ⟨((f 0 / 8 % 8 : Nat) : Int), decide (128 ≤ f 1), decide (f 1 / 64 % 2 = 1), decide (f 1 / 32 % 2 = 1), ((f 1 % 32 : Nat) : Int), ((tw f 2 : Nat) : Int), ((tw f 4 : Nat) : Int), ((tw f 6 : Nat) : Int), ((tw f 8 : Nat) : Int), bl (fun i => f (12 + i)) (tw f 10)⟩
/-- the error of n bytes. -/
def derr (f : Nat → Nat) (n : Nat) : Int :=
  if n < 12 ∨ n % 4 ≠ 0 then 20 else if f 0 % 8 ≠ 6 then 24 else if ¬ (1 ≤ f 0 / 8 % 8 ∧ f 0 / 8 % 8 ≤ 4) then 22 else
  if 64 ≤ f 0 ∨ 468 < tw f 10 ∨ n ≠ 12 + (tw f 10 + 3) / 4 * 4 then 3 else if zs f (12 + tw f 10) (n - (12 + tw f 10)) = false then 3 else 0
/-- the frame of n bytes. -/
def dfr (f : Nat → Nat) (n : Nat) : Fr := if derr f n = 0 then frAt f else fr0
theorem derr_zero {f : Nat → Nat} {n : Nat} (h : derr f n = 0) : (12 ≤ n ∧ n % 4 = 0) ∧ f 0 % 8 = 6 ∧ (1 ≤ f 0 / 8 % 8 ∧ f 0 / 8 % 8 ≤ 4) ∧ f 0 < 64 ∧ tw f 10 ≤ 468 ∧ n = 12 + (tw f 10 + 3) / 4 * 4 ∧ ∀ i, i < n - (12 + tw f 10) → f (12 + tw f 10 + i) = 0 := by
  unfold derr at h
  by_cases a1 : n < 12 ∨ n % 4 ≠ 0
  · rw [if_pos a1] at h; cases h
  rw [if_neg a1] at h
  by_cases a2 : f 0 % 8 ≠ 6
  · rw [if_pos a2] at h; cases h
  rw [if_neg a2] at h
  by_cases a3 : ¬ (1 ≤ f 0 / 8 % 8 ∧ f 0 / 8 % 8 ≤ 4)
  · rw [if_pos a3] at h; cases h
  rw [if_neg a3] at h
  by_cases a4 : 64 ≤ f 0 ∨ 468 < tw f 10 ∨ n ≠ 12 + (tw f 10 + 3) / 4 * 4
  · rw [if_pos a4] at h; cases h
  rw [if_neg a4] at h
  by_cases a5 : zs f (12 + tw f 10) (n - (12 + tw f 10)) = false
  · rw [if_pos a5] at h; cases h
  rw [Bool.not_eq_false, zs_iff] at a5
  exact ⟨by omega, by omega, by omega, by omega, by omega, by omega, a5⟩
theorem derr_cases (f : Nat → Nat) (n : Nat) : derr f n = 0 ∨ derr f n = 20 ∨ derr f n = 24 ∨ derr f n = 22 ∨ derr f n = 3 := by
  unfold derr
  repeat' split
  all_goals simp

/-- behind Encode: Decode of it is the frame. -/
theorem dec_enc {f : Fr} (h : okFr f = true) : derr (fun i => (enc f).getD i 0) (enc f).length = 0 ∧ dfr (fun i => (enc f).getD i 0) (enc f).length = f := by
  obtain ⟨h1, h2, h3, h4, h5, h6, h7⟩ := okFr_cut h
  have r1 := bt_le f.resp
  have r2 := bt_le f.er
  have r3 := bt_le f.more
  obtain ⟨g, hg⟩ : ∃ g : Nat → Nat, g = fun i => (enc f).getD i 0 := ⟨_, rfl⟩
  have hl := enc_len f
  have e : enc f = fst f :: snd f :: f.seq.toNat / 256 :: f.seq.toNat % 256 :: f.st.toNat / 256 :: f.st.toNat % 256 :: f.asc.toNat / 256 :: f.asc.toNat % 256 :: f.off.toNat / 256 :: f.off.toNat % 256 :: f.dat.length / 256 :: f.dat.length % 256 :: (f.dat ++ List.replicate (pad f.dat.length) 0) := by
    unfold enc; rw [front_eq]; simp
  have g0 : g 0 = fst f := by rw [hg, e]; rfl
  have g1 : g 1 = snd f := by rw [hg, e]; rfl
  have g2 : g 2 = f.seq.toNat / 256 := by rw [hg, e]; rfl
  have g3 : g 3 = f.seq.toNat % 256 := by rw [hg, e]; rfl
  have g4 : g 4 = f.st.toNat / 256 := by rw [hg, e]; rfl
  have g5 : g 5 = f.st.toNat % 256 := by rw [hg, e]; rfl
  have g6 : g 6 = f.asc.toNat / 256 := by rw [hg, e]; rfl
  have g7 : g 7 = f.asc.toNat % 256 := by rw [hg, e]; rfl
  have g8 : g 8 = f.off.toNat / 256 := by rw [hg, e]; rfl
  have g9 : g 9 = f.off.toNat % 256 := by rw [hg, e]; rfl
  have g10 : g 10 = f.dat.length / 256 := by rw [hg, e]; rfl
  have g11 : g 11 = f.dat.length % 256 := by rw [hg, e]; rfl
  have gd : ∀ i, g (12 + i) = (f.dat ++ List.replicate (pad f.dat.length) 0).getD i 0 := fun i => by
    rw [hg]
    show (enc f).getD (12 + i) 0 = _
    rw [e, show 12 + i = i + 1 + 1 + 1 + 1 + 1 + 1 + 1 + 1 + 1 + 1 + 1 + 1 by omega]
    simp only [List.getD_eq_getElem?_getD, List.getElem?_cons_succ]
  have t2 : tw g 2 = f.seq.toNat := by unfold tw; rw [g2, g3]; omega
  have t4 : tw g 4 = f.st.toNat := by unfold tw; rw [g4, g5]; omega
  have t6 : tw g 6 = f.asc.toNat := by unfold tw; rw [g6, g7]; omega
  have t8 : tw g 8 = f.off.toNat := by unfold tw; rw [g8, g9]; omega
  have t10 : tw g 10 = f.dat.length := by unfold tw; rw [g10, g11]; omega
  have d : derr g (enc f).length = 0 := by
    unfold derr
    rw [t10, hl, if_neg (by omega), g0, if_neg (by unfold fst; omega), if_neg (by unfold fst; omega), if_neg (by unfold fst; omega), if_neg]
    rw [Bool.not_eq_false, zs_iff]
    intro i hi
    rw [show 12 + f.dat.length + i = 12 + (f.dat.length + i) by omega, gd, List.getD_eq_getElem?_getD, List.getElem?_append_right (by omega)]
    cases q : (List.replicate (pad f.dat.length) 0)[f.dat.length + i - f.dat.length]? with
    | none => rfl
    | some x => have := List.mem_of_getElem? q; rw [(List.mem_replicate.1 this).2]; rfl
  rw [← hg]
  refine ⟨d, ?_⟩
  unfold dfr
  rw [if_pos d]
  unfold frAt
  rw [t2, t4, t6, t8, t10, g0, g1]
  have hd : bl (fun i => g (12 + i)) f.dat.length = f.dat := by
    apply List.ext_getElem?
    intro i
    by_cases hi : i < f.dat.length
    · simp [bl, hi, gd, List.getD_eq_getElem?_getD, List.getElem?_append_left]
    · rw [List.getElem?_eq_none (by rw [bl_len]; omega), List.getElem?_eq_none (by omega)]
  rw [hd]
  have s1 : decide (128 ≤ snd f) = f.resp := by
    cases q : f.resp <;> simp [snd, q, bt] <;> cases f.er <;> cases f.more <;> simp <;> omega
  have s2 : decide (snd f / 64 % 2 = 1) = f.er := by
    cases q : f.er <;> simp [snd, q, bt] <;> cases f.resp <;> cases f.more <;> simp <;> omega
  have s3 : decide (snd f / 32 % 2 = 1) = f.more := by
    cases q : f.more <;> simp [snd, q, bt] <;> cases f.resp <;> cases f.er <;> simp <;> omega
  have s4 : snd f % 32 = f.op.toNat := by unfold snd; omega
  have s5 : fst f / 8 % 8 = f.ver.toNat := by unfold fst; omega
  rw [s1, s2, s3, s4, s5, Int.toNat_of_nonneg (by omega), Int.toNat_of_nonneg (by omega), Int.toNat_of_nonneg (by omega), Int.toNat_of_nonneg (by omega), Int.toNat_of_nonneg (by omega), Int.toNat_of_nonneg (by omega)]
/-- behind Decode: Encode of it is the bytes. -/
theorem enc_dec {f : Nat → Nat} (hf : ∀ i, f i < 256) {n : Nat} (h : derr f n = 0) : okFr (frAt f) = true ∧ enc (frAt f) = bl f n ∧ (frAt f).dat.length = tw f 10 ∧ tw f 10 ≤ 468 ∧ ∀ x ∈ (frAt f).dat, x < 256 := by
  obtain ⟨h1, h2, h3, h4, h5, h6, h7⟩ := derr_zero h
  have b : ∀ i, f i ≤ 255 := fun i => by have := hf i; omega
  have hl : (frAt f).dat.length = tw f 10 := by show (bl _ _).length = _; rw [bl_len]
  have ht : ∀ a, tw f a ≤ 65535 := fun a => by have := b a; have := b (a + 1); unfold tw; omega
  refine ⟨?_, ?_, hl, h5, fun x hx => bl_byte (fun i _ => hf _) x hx⟩
  · have c1 := b 1
    have k2 := ht 2
    have k4 := ht 4
    have k6 := ht 6
    have k8 := ht 8
    unfold okFr
    rw [hl]
    simp only [frAt, Bool.and_eq_true, decide_eq_true_eq, btw_iff]
    omega
  · have b1 := b 1
    have b2' := b 2
    have b3 := b 3
    have b4 := b 4
    have b5 := b 5
    have b6 := b 6
    have b7 := b 7
    have b8 := b 8
    have b9 := b 9
    have b10 := b 10
    have b11 := b 11
    have e0 : fst (frAt f) = f 0 := by show ((f 0 / 8 % 8 : Nat) : Int).toNat * 8 + 6 = f 0; rw [Int.toNat_natCast]; omega
    have e1 : snd (frAt f) = f 1 := by
      show bt (decide (128 ≤ f 1)) * 128 + bt (decide (f 1 / 64 % 2 = 1)) * 64 + bt (decide (f 1 / 32 % 2 = 1)) * 32 + ((f 1 % 32 : Nat) : Int).toNat = f 1
      rw [Int.toNat_natCast]
      unfold bt
      by_cases c1 : 128 ≤ f 1 <;> by_cases c2 : f 1 / 64 % 2 = 1 <;> by_cases c3 : f 1 / 32 % 2 = 1 <;> simp [c1, c2, c3] <;> omega
    have e2 : (frAt f).seq.toNat = f 2 * 256 + f 3 := Int.toNat_natCast _
    have e3 : (frAt f).st.toNat = f 4 * 256 + f 5 := Int.toNat_natCast _
    have e4 : (frAt f).asc.toNat = f 6 * 256 + f 7 := Int.toNat_natCast _
    have e5 : (frAt f).off.toNat = f 8 * 256 + f 9 := Int.toNat_natCast _
    have e6 : tw f 10 = f 10 * 256 + f 11 := rfl
    have F : front (frAt f) = bl f 12 := by
      rw [front_eq, hl, e0, e1, e2, e3, e4, e5, e6]
      rw [show (f 2 * 256 + f 3) / 256 = f 2 by omega, show (f 2 * 256 + f 3) % 256 = f 3 by omega, show (f 4 * 256 + f 5) / 256 = f 4 by omega, show (f 4 * 256 + f 5) % 256 = f 5 by omega, show (f 6 * 256 + f 7) / 256 = f 6 by omega, show (f 6 * 256 + f 7) % 256 = f 7 by omega, show (f 8 * 256 + f 9) / 256 = f 8 by omega, show (f 8 * 256 + f 9) % 256 = f 9 by omega, show (f 10 * 256 + f 11) / 256 = f 10 by omega, show (f 10 * 256 + f 11) % 256 = f 11 by omega]
      rfl
    unfold enc
    rw [F, hl]
    have Z : List.replicate (pad (tw f 10)) 0 = bl (fun i => f (12 + tw f 10 + i)) (pad (tw f 10)) := by
      apply List.ext_getElem?
      intro i
      by_cases hi : i < pad (tw f 10)
      · have := h7 i (by have := pad_len (tw f 10); omega)
        simp [bl, hi, this]
      · rw [List.getElem?_eq_none (by simp; omega), List.getElem?_eq_none (by rw [bl_len]; omega)]
    rw [Z, show n = 12 + tw f 10 + pad (tw f 10) by have := pad_len (tw f 10); omega, bl_add f (12 + tw f 10), bl_add f 12]
    rfl
theorem dfr_no {f : Nat → Nat} {n : Nat} (h : ¬ derr f n = 0) : dfr f n = fr0 := if_neg h
theorem dfr_yes {f : Nat → Nat} {n : Nat} (h : derr f n = 0) : dfr f n = frAt f := if_pos h
end Go.Proofs.Yteigmnbbfmcihaa.Ct
