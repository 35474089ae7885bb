/-
  The contracts of sundialref05.xor, doubled and moved.
  Conditions: rows of sixteen bytes are handed in.
-/
import Derived.Test.YtfefkakdhaecpaaAeB
namespace Go.Proofs.Ytfefkakdhaecpaa.Ae
open Go.RowKit By
set_option linter.unusedVariables false
set_option linter.unusedSimpArgs false

/-- a slice of the call's own that holds n bytes, some. -/
theorem OwnB {w : World} {base : Nat} {v : Value} {f : Nat → Nat} {n : Nat} (h : Own w base v (bl f n)) (hn : 0 < n) (hf : ∀ i, f i < 256) : ∃ g cap, v = .slice (some ⟨g, 0, none⟩) n cap ∧ base ≤ g ∧ Bs w g 0 n f ∧ n ≤ cap ∧ cap ≤ 9223372036854775807 :=
  h.bsF (fun e => by
    subst e
    have := h.2
    rcases this with ⟨_, h0⟩ | ⟨g, cap, cur, e, _⟩
    · rw [bl_len] at h0; omega
    · cases e) hf
def xr (f g : Nat → Nat) (i : Nat) : Nat := f i ^^^ g i
theorem xr_lt {f g : Nat → Nat} (hf : ∀ i, f i < 256) (hg : ∀ i, g i < 256) (i : Nat) : xr f g i < 256 := lt_xor8 (hf i) (hg i)

set_option maxRecDepth 100000 in
set_option maxHeartbeats 4000000 in
theorem rxor_c (b1 o1 n1 c1 b2 o2 n2 c2 : Nat) (f g : Nat → Nat) (w : World) (B1 : Bs w b1 o1 16 f) (B2 : Bs w b2 o2 16 g) (h1 : 16 ≤ n1) (h2 : 16 ≤ n2) (m1 : n1 ≤ 9223372036854775807) (m2 : n2 ≤ 9223372036854775807) :
    Calls Try.prog 24 #[.slice (some ⟨b1, o1, none⟩) n1 c1, .slice (some ⟨b2, o2, none⟩) n2 c2] w fun e w' => (∃ v, e = .returned v ∧ Own w' w.heap.size v (bl (xr f g) 16)) ∧ Below w.heap.size w w' := by
  have HB1 := Lib.hid B1
  have HB2 := Lib.hid B2
  have L1 := B1.1
  have L2 := B2.1
  clear B1 B2
  have i1 : (16 : Int) ≤ (n1 : Int) := by omega
  have i2 : (16 : Int) ≤ (n2 : Int) := by omega
  have i3 : (n1 : Int) ≤ 9223372036854775807 := by omega
  have i4 : (n2 : Int) ≤ 9223372036854775807 := by omega
  go_enter Try.func24, Try.ntmps24
  go_wp2_with fail
  go_loopw [5, 6] (fun v i wr => ∃ k : Nat, k ≤ 16 ∧ i = .int .i64 k ∧ Own wr w.heap.size v (bl (xr f g) k) ∧ Below w.heap.size w wr) (fun _ i _ => 16 - (intOf i).toNat)
  case atStart => exact ⟨0, by omega, rfl, Own.nil _ _, Below.refl _ _⟩
  case round =>
    obtain ⟨k, hk, rfl, own, hb⟩ := hrel
    rename World => wr
    by_cases c : k < 16
    · have e0 : decide ((k : Int) < 16) = true := by rw [decide_eq_true_iff]; omega
      have g1 := (HB1.out.below hb).2.2 k c
      have g2 := (HB2.out.below hb).2.2 k c
      have s1 := hb.size
      have f1 := HB1.out.2.1 k
      have f2 := HB2.out.2.1 k
      have XO := xor8 (f k) (g k) f1 f2
      obtain ⟨v2, w2, hr, ho, hb2, hs2⟩ := app1 (w := wr.drew) (World.ownsRow.drew own) (f k ^^^ g k) hb.size (by rw [bl_len]; omega) 22
      have HR : Hid ((Builtin.append_ #[22, 22] 22 #[_, .slice (some ⟨wr.heap.size, 0, none⟩) 1 1]).run Try.prog (wr.drew.alloc (.cells #[.int .u8 ((f k ^^^ g k : Nat) : Int)] 5)) = .ok v2 w2) := Lib.hid hr
      have HO : Hid (Own w2 w.heap.size v2 (bl (xr f g) (k + 1))) := Lib.hid (by rw [bl_succ]; exact ho)
      have HB3 := Lib.hid ((hb.trans (bdrew1 _ _)).trans hb2)
      have HC2 : Hid (w2.cell? ⟨b1, o1 + k, none⟩ = some (.int .u8 (f k : Int)) ∧ w2.cell? ⟨b2, o2 + k, none⟩ = some (.int .u8 (g k : Int))) := Lib.hid ⟨(hb2.cell (p := ⟨b1, o1 + k, none⟩) L1).trans g1, (hb2.cell (p := ⟨b2, o2 + k, none⟩) L2).trans g2⟩
      have KP : Hid (∀ w' : World, Below wr.heap.size wr w' → w'.cell? ⟨b1, o1 + k, none⟩ = some (.int .u8 (f k : Int)) ∧ w'.cell? ⟨b2, o2 + k, none⟩ = some (.int .u8 (g k : Int))) := Lib.hid fun w' D => ⟨(D.cell (p := ⟨b1, o1 + k, none⟩) (Nat.lt_of_lt_of_le L1 s1)).trans g1, (D.cell (p := ⟨b2, o2 + k, none⟩) (Nat.lt_of_lt_of_le L2 s1)).trans g2⟩
      clear hr ho hb2 hs2 own hb
      generalize f k ^^^ g k = z at *
      generalize f k = x at *
      generalize g k = y at *
      have c0 : (0 : Int) ≤ (k : Int) := by omega
      have c1 : (k : Int) < 16 := by omega
      have c2' : (k : Int) < (n1 : Int) := by omega
      have c3 : (k : Int) < (n2 : Int) := by omega
      go_wp2_with fail
      go_region_held3 (fun w' => w'.cell? ⟨b1, o1 + k, none⟩ = some (.int .u8 (x : Int)) ∧ w'.cell? ⟨b2, o2 + k, none⟩ = some (.int .u8 (y : Int)))
        (first | exact HC2.out | (refine KP.out _ ?_; repeat (first | exact brefl _ | refine balloc ?_ _ | refine bdr ?_)))
        (first | (refine step_append_eq rfl (.tmp 11) (.tmp 21) 22 rfl _ _ v2 w2 rfl rfl HR.out ?_))
      go_wp2_with fail
      go_roundw
      case rel => exact ⟨k + 1, by omega, by go_num, HO.out, HB3.out⟩
      case measure => simp [intOf]; omega
    · have e0 : decide ((k : Int) < 16) = false := by rw [decide_eq_false_iff_not]; omega
      obtain rfl : k = 16 := by omega
      have HO := Lib.hid own
      have HB := Lib.hid hb
      clear own hb
      go_wp2_with fail
      go_ret
      exact ⟨⟨_, rfl, HO.out⟩, HB.out⟩

/-- shifted by one bit, byte i. -/
def dbl (f : Nat → Nat) (i : Nat) : Nat := if i < 15 then (f i * 2 % 256) ||| (f (i + 1) / 128) else if 128 ≤ f 0 then (f i * 2 % 256) ^^^ 135 else f i * 2 % 256
theorem dbl_lt {f : Nat → Nat} (hf : ∀ i, f i < 256) (i : Nat) : dbl f i < 256 := by
  unfold dbl
  split
  · exact Nat.or_lt_two_pow (n := 8) (by omega) (by have := hf (i + 1); omega)
  · split
    · exact lt_xor8 (by omega) (by omega)
    · omega

set_option maxRecDepth 100000 in
set_option maxHeartbeats 4000000 in
theorem rdoubled_c (b o n cap : Nat) (f : Nat → Nat) (w : World) (B : Bs w b o 16 f) (h : 16 ≤ n) (m : n ≤ 9223372036854775807) :
    Calls Try.prog 23 #[.slice (some ⟨b, o, none⟩) n cap] w fun e w' => (∃ v, e = .returned v ∧ Own w' w.heap.size v (bl (dbl f) 16)) ∧ Below w.heap.size w w' := by
  have HB := Lib.hid B
  clear B
  have i1 : (16 : Int) ≤ (n : Int) := by omega
  have i3 : (n : Int) ≤ 9223372036854775807 := by omega
  go_enter Try.func23, Try.ntmps23
  go_wp2_with fail
  go_loopw [3, 4] (fun v i wr => ∃ k : Nat, k ≤ 16 ∧ i = .int .i64 k ∧ Own wr w.heap.size v (bl (dbl f) k) ∧ Below w.heap.size w wr) (fun _ i _ => 16 - (intOf i).toNat)
  case atStart => exact ⟨0, by omega, rfl, Own.nil _ _, Below.refl _ _⟩
  case round =>
    obtain ⟨k, hk, rfl, own, hb⟩ := hrel
    rename World => wr
    by_cases c : k < 16
    · have e0 : decide ((k : Int) < 16) = true := by rw [decide_eq_true_iff]; omega
      have g1 := (HB.out.below hb).2.2 k c
      have f1 := HB.out.2.1 k
      obtain ⟨v2, w2, hr, ho, hb2, hs2⟩ := app1 own (dbl f k) hb.size (by rw [bl_len]; omega) 22
      have HR := Lib.hid hr
      have HO : Hid (Own w2 w.heap.size v2 (bl (dbl f) (k + 1))) := Lib.hid (by rw [bl_succ]; exact ho)
      have HB3 := Lib.hid (hb.trans hb2)
      have D : Hid (dbl f k = if k < 15 then (f k * 2 % 256) ||| (f (k + 1) / 128) else if 128 ≤ f 0 then (f k * 2 % 256) ^^^ 135 else f k * 2 % 256) := rfl
      have c0 : (0 : Int) ≤ (k : Int) := by omega
      have c1 : (k : Int) < 16 := by omega
      have c2' : (k : Int) < (n : Int) := by omega
      by_cases c15 : k < 15
      · have e1 : decide ((k : Int) < 15) = true := by rw [decide_eq_true_iff]; omega
        have e2 : ((k : Int) == 15) = false := by simp; omega
        have g2 := (HB.out.below hb).2.2 (k + 1) (by omega)
        have f2 := HB.out.2.1 (k + 1)
        have OR := or8 (f k * 2 % 256) (f (k + 1) / 128) (by omega) (by omega)
        have DE := D.out
        rw [if_pos c15] at DE
        rw [← DE] at OR
        have HDE := Lib.hid DE
        clear DE D hr ho hb2 hs2 own hb
        rw [show ((f k * 2 % 256 : Nat) : Int) = (f k : Int) * 2 % 256 from by omega, show ((f (k + 1) / 128 : Nat) : Int) = (f (k + 1) : Int) / 128 from by omega] at OR
        generalize f (k + 1) = y at *
        generalize f k = x at *
        generalize dbl f k = z at *
        have c3 : (k : Int) + 1 < (n : Int) := by omega
        go_wp2_with (first | (at_builtin; refine wpList_append_eq rfl _ _ 22 rfl _ _ v2 w2 rfl rfl HR.out ?_))
        go_roundw
        case rel => exact ⟨k + 1, by omega, by go_num, HO.out, HB3.out⟩
        case measure => simp [intOf]; omega
      · obtain rfl : k = 15 := by omega
        have e1 : decide (((15 : Nat) : Int) < 15) = false := by decide
        have g2 := (HB.out.below hb).2.2 0 (by omega)
        rw [Nat.add_zero] at g2
        have f2 := HB.out.2.1 0
        have DE := D.out
        rw [if_neg c15] at DE
        have XO := xor8 (f 15 * 2 % 256) 135 (by omega) (by omega)
        rw [show ((135 : Nat) : Int) = 135 from rfl, show ((f 15 * 2 % 256 : Nat) : Int) = (f 15 : Int) * 2 % 256 from by omega] at XO
        by_cases cx : 128 ≤ f 0
        · rw [if_pos cx] at DE
          rw [← DE] at XO
          have tx : decide ((128 : Int) ≤ (f 0 : Int)) = true := by rw [decide_eq_true_iff]; omega
          have HDE := Lib.hid DE
          clear DE D hr ho hb2 hs2 own hb
          generalize f 15 = x at *
          generalize f 0 = y at *
          generalize dbl f 15 = z at *
          go_wp2_with (first | (at_builtin; refine wpList_append_eq rfl _ _ 22 rfl _ _ v2 w2 rfl rfl HR.out ?_))
          go_roundw
          case rel => exact ⟨16, by omega, by go_num, HO.out, HB3.out⟩
          case measure => simp [intOf]
        · rw [if_neg cx] at DE
          have tx : decide ((128 : Int) ≤ (f 0 : Int)) = false := by rw [decide_eq_false_iff_not]; omega
          have DI : ((dbl f 15 : Nat) : Int) = (f 15 : Int) * 2 % 256 := by rw [DE]; omega
          rw [DI] at HR
          clear DE DI D XO hr ho hb2 hs2 own hb
          generalize f 15 = x at *
          generalize f 0 = y at *
          go_wp2_with (first | (at_builtin; refine wpList_append_eq rfl _ _ 22 rfl _ _ v2 w2 rfl rfl HR.out ?_))
          go_roundw
          case rel => exact ⟨16, by omega, by go_num, HO.out, HB3.out⟩
          case measure => simp [intOf]
    · have e0 : decide ((k : Int) < 16) = false := by rw [decide_eq_false_iff_not]; omega
      obtain rfl : k = 16 := by omega
      have HO := Lib.hid own
      have HB2 := Lib.hid hb
      clear own hb
      go_wp2_with fail
      go_ret
      exact ⟨⟨_, rfl, HO.out⟩, HB2.out⟩
end Go.Proofs.Ytfefkakdhaecpaa.Ae
