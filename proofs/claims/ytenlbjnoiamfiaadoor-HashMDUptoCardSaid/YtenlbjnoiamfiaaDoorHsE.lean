/-
  The contract of sundialref04.pad: bytes padded to blocks, in a slice of the call's own.
  Conditions: no more than 2^47 - 4096 bytes.
-/
import Derived.Test.YtenlbjnoiamfiaaDoorHsD
namespace Go.Proofs.YtenlbjnoiamfiaaDoor.Hs
open Go.RowKit
set_option linter.unusedVariables false
set_option linter.unusedSimpArgs false

set_option maxRecDepth 100000 in
set_option maxHeartbeats 2000000 in
theorem rpad_low (a : Option Addr) (n cap : Nat) (f : Nat → Nat) (w : World) (hn : n ≤ 140737488351232)
    (HA : Hid (∀ ty, ∃ v' w', (Builtin.append_ #[22, 22] ty #[.slice none 0 0, .slice a n cap]).run Tryd.prog w = .ok v' w' ∧ Own w' w.heap.size v' (bl f n) ∧ Below w.heap.size w w' ∧ w.heap.size ≤ w'.heap.size)) :
    Calls Tryd.prog 21 #[.slice a n cap, .bool true] w fun e w' => (∃ v, e = .returned v ∧ Own w' w.heap.size v (pd true f n)) ∧ Below w.heap.size w w' := by
  obtain ⟨v1, w1, r1, o1, b1, s1⟩ := HA.out 22
  obtain ⟨v2, w2, r2, o2, b2, s2⟩ := app1 o1 128 s1 (by rw [bl_len]; omega) 22
  have O2 := Lib.hid o2
  have B2 := Lib.hid (bstepB b1 b2)
  have S2 := Lib.hid (Nat.le_trans s1 s2)
  have Z := Lib.hid (zz_at n)
  clear HA o1 b1 s1 o2 b2 s2
  have n1 : (n : Int) ≤ 140737488351232 := by omega
  rw [show ((128 : Nat) : Int) = 128 from rfl] at r2
  go_enter Tryd.func21, Tryd.ntmps21
  go_wp2_with (first | (at_builtin; refine wpList_append_eq rfl _ _ 22 rfl _ _ v1 w1 rfl rfl r1 ?_) | (at_builtin; refine wpList_append_eq rfl _ _ 22 rfl _ _ v2 w2 rfl rfl r2 ?_))
  clear r1 r2
  go_loopw [5] (fun v wr => ∃ k : Nat, k ≤ zz n ∧ Own wr w.heap.size v (bl f n ++ [128] ++ List.replicate k 0) ∧ Below w.heap.size w wr ∧ w.heap.size ≤ wr.heap.size) (fun v _ => n + 1 + zz n - sl v)
  case atStart => exact ⟨0, Nat.zero_le _, by simpa using O2.out, B2.out, S2.out⟩
  case round =>
    obtain ⟨k, hk, ho, hb, hs⟩ := hrel
    have le : (bl f n ++ [128] ++ List.replicate k 0).length = n + 1 + k := plen f n k
    have kz : k ≤ 63 := Nat.le_trans hk Z.out.2
    obtain ⟨v3, w3, r3, o3, b3, s3⟩ := app1 ho 0 hs (by rw [le]; omega) 22
    obtain ⟨g, cp, rfl, g1, g2, g3⟩ := ho.form (by rw [le]; omega)
    rw [le] at r3 g3 ho
    rw [le]
    have O3 : Hid (Own w3 w.heap.size v3 (bl f n ++ [128] ++ List.replicate (k + 1) 0)) := Lib.hid (by rw [List.replicate_succ']; simpa using o3)
    have HO := Lib.hid ho
    have HB := Lib.hid hb
    have B3 := Lib.hid (bstepB hb b3)
    have S3 := Lib.hid (Nat.le_trans hs s3)
    have HS := Lib.hid hs
    clear o3 b3 s3 ho hb hs
    have q : ((n : Int) + 1 + (k : Int)).tmod 64 = (((n + 1 + k) % 64 : Nat) : Int) := by rw [Int.tmod_eq_emod_of_nonneg (by omega)]; omega
    have k1 : (k : Int) ≤ 63 := by omega
    by_cases c : k < zz n
    · have t : ((((n + 1 + k) % 64 : Nat) : Int) != 56) = true := by have := zz_ahead c; simp; omega
      rw [show ((0 : Nat) : Int) = 0 from rfl] at r3
      have LV : Hid (sl v3 = n + 1 + (k + 1)) := Lib.hid (by obtain ⟨g', c', e', _⟩ := O3.out.form (by rw [plen]; omega); rw [e', plen]; rfl)
      go_wp2_with (first | (at_builtin; refine wpList_append_eq rfl _ _ 22 rfl _ _ v3 w3 rfl rfl r3 ?_))
      go_roundw
      case rel => exact ⟨k + 1, by omega, O3.out, B3.out, S3.out⟩
      case measure => rw [LV.out]; simp [sl]; omega
    · obtain rfl : k = zz n := by omega
      have t : ((n : Int) + 1 + (zz n : Int)).tmod 64 = 56 := by have := Z.out.1; rw [Int.tmod_eq_emod_of_nonneg (by omega)]; omega
      clear q
      clear r3 O3 B3 S3
      go_wp2_with fail
      clear t
      go_loopw [5, 7] (fun v i w5 => ∃ k : Nat, k ≤ 8 ∧ i = .int .i64 k ∧ Own w5 w.heap.size v (bl f n ++ [128] ++ List.replicate (zz n) 0 ++ lb true n k) ∧ Below w.heap.size w w5 ∧ w.heap.size ≤ w5.heap.size) (fun _ i _ => 8 - (intOf i).toNat)
      case atStart => exact ⟨0, by omega, rfl, by rw [show lb true n 0 = [] from rfl, List.append_nil]; exact HO.out, HB.out, HS.out⟩
      case round =>
        clear HO HB HS
        obtain ⟨k, hk, rfl, ho, hb, hs⟩ := hrel
        by_cases c : k < 8
        · have e0 : decide ((k : Int) < 8) = true := by rw [decide_eq_true_iff]; omega
          have le : (bl f n ++ [128] ++ List.replicate (zz n) 0 ++ lb true n k).length = n + 1 + zz n + k := by rw [List.length_append, plen, lb_len]
          obtain ⟨v4, w4, r4, o4, b4, s4⟩ := app1 ho (lbAt true n k) hs (by rw [le]; omega) 22
          rw [List.append_assoc, ← lb_succ] at o4
          have O4 := Lib.hid o4
          have B4 := Lib.hid (bstepB hb b4)
          have S4 := Lib.hid (Nat.le_trans hs s4)
          clear o4 b4 s4 ho hb hs
          have e4 : ((lbAt true n k : Nat) : Int) = (n : Int) * 8 / 2 ^ (8 * k) % 256 := by unfold lbAt; simp
          rw [e4] at r4
          have k0 : (0 : Int) ≤ (k : Int) := by omega
          have k7 : (k : Int) ≤ 7 := by omega
          have n0 : (0 : Int) ≤ (n : Int) := by omega
          go_wp2_with (first | (at_builtin; refine wpList_append_eq rfl _ _ 22 rfl _ _ v4 w4 rfl rfl r4 ?_))
          go_roundw
          case rel => exact ⟨k + 1, by omega, by go_num, O4.out, B4.out, S4.out⟩
          case measure => simp [intOf]; omega
        · have e0 : decide ((k : Int) < 8) = false := by rw [decide_eq_false_iff_not]; omega
          obtain rfl : k = 8 := by omega
          have HO := Lib.hid ho
          have HB := Lib.hid hb
          clear ho hb hs
          go_wp2_with fail
          go_ret
          exact ⟨⟨_, rfl, HO.out⟩, HB.out⟩

set_option maxRecDepth 100000 in
set_option maxHeartbeats 2000000 in
theorem rpad_high (a : Option Addr) (n cap : Nat) (f : Nat → Nat) (w : World) (hn : n ≤ 140737488351232)
    (HA : Hid (∀ ty, ∃ v' w', (Builtin.append_ #[22, 22] ty #[.slice none 0 0, .slice a n cap]).run Tryd.prog w = .ok v' w' ∧ Own w' w.heap.size v' (bl f n) ∧ Below w.heap.size w w' ∧ w.heap.size ≤ w'.heap.size)) :
    Calls Tryd.prog 21 #[.slice a n cap, .bool false] w fun e w' => (∃ v, e = .returned v ∧ Own w' w.heap.size v (pd false f n)) ∧ Below w.heap.size w w' := by
  obtain ⟨v1, w1, r1, o1, b1, s1⟩ := HA.out 22
  obtain ⟨v2, w2, r2, o2, b2, s2⟩ := app1 o1 128 s1 (by rw [bl_len]; omega) 22
  have O2 := Lib.hid o2
  have B2 := Lib.hid (bstepB b1 b2)
  have S2 := Lib.hid (Nat.le_trans s1 s2)
  have Z := Lib.hid (zz_at n)
  clear HA o1 b1 s1 o2 b2 s2
  have n1 : (n : Int) ≤ 140737488351232 := by omega
  rw [show ((128 : Nat) : Int) = 128 from rfl] at r2
  go_enter Tryd.func21, Tryd.ntmps21
  go_wp2_with (first | (at_builtin; refine wpList_append_eq rfl _ _ 22 rfl _ _ v1 w1 rfl rfl r1 ?_) | (at_builtin; refine wpList_append_eq rfl _ _ 22 rfl _ _ v2 w2 rfl rfl r2 ?_))
  clear r1 r2
  go_loopw [5] (fun v wr => ∃ k : Nat, k ≤ zz n ∧ Own wr w.heap.size v (bl f n ++ [128] ++ List.replicate k 0) ∧ Below w.heap.size w wr ∧ w.heap.size ≤ wr.heap.size) (fun v _ => n + 1 + zz n - sl v)
  case atStart => exact ⟨0, Nat.zero_le _, by simpa using O2.out, B2.out, S2.out⟩
  case round =>
    obtain ⟨k, hk, ho, hb, hs⟩ := hrel
    have le : (bl f n ++ [128] ++ List.replicate k 0).length = n + 1 + k := plen f n k
    have kz : k ≤ 63 := Nat.le_trans hk Z.out.2
    obtain ⟨v3, w3, r3, o3, b3, s3⟩ := app1 ho 0 hs (by rw [le]; omega) 22
    obtain ⟨g, cp, rfl, g1, g2, g3⟩ := ho.form (by rw [le]; omega)
    rw [le] at r3 g3 ho
    rw [le]
    have O3 : Hid (Own w3 w.heap.size v3 (bl f n ++ [128] ++ List.replicate (k + 1) 0)) := Lib.hid (by rw [List.replicate_succ']; simpa using o3)
    have HO := Lib.hid ho
    have HB := Lib.hid hb
    have B3 := Lib.hid (bstepB hb b3)
    have S3 := Lib.hid (Nat.le_trans hs s3)
    have HS := Lib.hid hs
    clear o3 b3 s3 ho hb hs
    have q : ((n : Int) + 1 + (k : Int)).tmod 64 = (((n + 1 + k) % 64 : Nat) : Int) := by rw [Int.tmod_eq_emod_of_nonneg (by omega)]; omega
    have k1 : (k : Int) ≤ 63 := by omega
    by_cases c : k < zz n
    · have t : ((((n + 1 + k) % 64 : Nat) : Int) != 56) = true := by have := zz_ahead c; simp; omega
      rw [show ((0 : Nat) : Int) = 0 from rfl] at r3
      have LV : Hid (sl v3 = n + 1 + (k + 1)) := Lib.hid (by obtain ⟨g', c', e', _⟩ := O3.out.form (by rw [plen]; omega); rw [e', plen]; rfl)
      go_wp2_with (first | (at_builtin; refine wpList_append_eq rfl _ _ 22 rfl _ _ v3 w3 rfl rfl r3 ?_))
      go_roundw
      case rel => exact ⟨k + 1, by omega, O3.out, B3.out, S3.out⟩
      case measure => rw [LV.out]; simp [sl]; omega
    · obtain rfl : k = zz n := by omega
      have t : ((n : Int) + 1 + (zz n : Int)).tmod 64 = 56 := by have := Z.out.1; rw [Int.tmod_eq_emod_of_nonneg (by omega)]; omega
      clear q
      clear r3 O3 B3 S3
      go_wp2_with fail
      clear t
      go_loopw [5, 7] (fun v i w5 => ∃ k : Nat, k ≤ 8 ∧ i = .int .i64 k ∧ Own w5 w.heap.size v (bl f n ++ [128] ++ List.replicate (zz n) 0 ++ lb false n k) ∧ Below w.heap.size w w5 ∧ w.heap.size ≤ w5.heap.size) (fun _ i _ => 8 - (intOf i).toNat)
      case atStart => exact ⟨0, by omega, rfl, by rw [show lb false n 0 = [] from rfl, List.append_nil]; exact HO.out, HB.out, HS.out⟩
      case round =>
        clear HO HB HS
        obtain ⟨k, hk, rfl, ho, hb, hs⟩ := hrel
        by_cases c : k < 8
        · have e0 : decide ((k : Int) < 8) = true := by rw [decide_eq_true_iff]; omega
          have le : (bl f n ++ [128] ++ List.replicate (zz n) 0 ++ lb false n k).length = n + 1 + zz n + k := by rw [List.length_append, plen, lb_len]
          obtain ⟨v4, w4, r4, o4, b4, s4⟩ := app1 ho (lbAt false n k) hs (by rw [le]; omega) 22
          rw [List.append_assoc, ← lb_succ] at o4
          have O4 := Lib.hid o4
          have B4 := Lib.hid (bstepB hb b4)
          have S4 := Lib.hid (Nat.le_trans hs s4)
          clear o4 b4 s4 ho hb hs
          have e4 : ((lbAt false n k : Nat) : Int) = (n : Int) * 8 / 2 ^ (56 - 8 * k) % 256 := by unfold lbAt; simp
          rw [e4] at r4
          have k0 : (0 : Int) ≤ (k : Int) := by omega
          have k7 : (k : Int) ≤ 7 := by omega
          have n0 : (0 : Int) ≤ (n : Int) := by omega
          go_wp2_with (first | (at_builtin; refine wpList_append_eq rfl _ _ 22 rfl _ _ v4 w4 rfl rfl r4 ?_))
          go_roundw
          case rel => exact ⟨k + 1, by omega, by go_num, O4.out, B4.out, S4.out⟩
          case measure => simp [intOf]; omega
        · have e0 : decide ((k : Int) < 8) = false := by rw [decide_eq_false_iff_not]; omega
          obtain rfl : k = 8 := by omega
          have HO := Lib.hid ho
          have HB := Lib.hid hb
          clear ho hb hs
          go_wp2_with fail
          go_ret
          exact ⟨⟨_, rfl, HO.out⟩, HB.out⟩
end Go.Proofs.YtenlbjnoiamfiaaDoor.Hs
