/-
  Small contracts of Decode.
  Conditions: none.
-/
import Derived.Deep.RegionHeld3
import Derived.Test.YteigmnbbfmcihaaCtF
namespace Go.Proofs.Yteigmnbbfmcihaa.Ct
open Go.RowKit Go.ChangeShapes Go.WideShapes Go.ChangeAt Go.Joins By
set_option linter.unusedVariables false
set_option linter.unusedSimpArgs false

theorem tdraw (w : World) (n m : Nat) : ∃ k, (w.drewN n).drewN m = w.drewN k := ⟨n + m, by rw [World.drewN_drewN]⟩
theorem number_c {w : World} {b o n : Nat} {f : Nat → Nat} (cap : Nat) (h : Bs w b o n f) (hn : 2 ≤ n) : Calls Try.prog 42 #[.slice (some ⟨b, o, none⟩) n cap] w fun e w' => e = .returned (.int .i64 (tw f 0 : Nat)) ∧ ∃ m, w' = w.drewN m := by
  have c0 := h.2.2 0 (by omega)
  have c1 := h.2.2 1 (by omega)
  have k0 := h.2.1 0
  have k1 := h.2.1 1
  have T : Hid (tw f 0 = f 0 * 256 + f 1) := Lib.hid rfl
  have O := or64 (f 0) (f 1) k0 k1
  rw [Nat.add_zero] at c0
  generalize f 0 = x at *
  generalize f 1 = y at *
  have d0 : (0 : Int) ≤ (x : Int) := by omega
  have d1 : (x : Int) < 256 := by omega
  have d2 : (0 : Int) ≤ (y : Int) := by omega
  have d3 : (y : Int) < 256 := by omega
  have n1 : (1 : Int) < (n : Int) := by omega
  have n0 : (0 : Int) < (n : Int) := by omega
  go_enter Try.func42, Try.ntmps42
  go_upto_region 1 with fail
  go_quiet (fail)
  go_wp2_with fail
  go_ret
  exact ⟨by rw [T.out]; simp, _, rfl⟩
theorem two_c {w : World} {b o n : Nat} {f : Nat → Nat} (cap : Nat) (h : Bs w b o n f) (a : Nat) (ha : a + 2 ≤ n) (hn : n ≤ 140737488351232) : Calls Try.prog 30 #[.slice (some ⟨b, o, none⟩) n cap, .int .i64 (a : Int)] w fun e w' => e = .returned (.int .i64 (tw f a : Nat)) ∧ ∃ m, w' = w.drewN m := by
  have c0 := h.2.2 a (by omega)
  have c1 := h.2.2 (a + 1) (by omega)
  have k0 := h.2.1 a
  have k1 := h.2.1 (a + 1)
  have T : Hid (tw f a = f a * 256 + f (a + 1)) := Lib.hid rfl
  generalize f a = x at *
  generalize f (a + 1) = y at *
  have d0 : (0 : Int) ≤ (x : Int) := by omega
  have d1 : (x : Int) < 256 := by omega
  have d2 : (0 : Int) ≤ (y : Int) := by omega
  have d3 : (y : Int) < 256 := by omega
  have n0 : (0 : Int) ≤ (a : Int) := by omega
  have n1 : (a : Int) < (n : Int) := by omega
  have n2 : (a : Int) + 1 < (n : Int) := by omega
  have n3 : (n : Int) ≤ 140737488351232 := by omega
  go_enter Try.func30, Try.ntmps30
  go_upto_region 1 with fail
  go_quiet (fail)
  go_wp2_with fail
  go_ret
  exact ⟨by rw [T.out]; simp, _, rfl⟩
theorem version_c {w : World} {b o n : Nat} {f : Nat → Nat} (cap : Nat) (h : Bs w b o n f) (hn : 0 < n) : Calls Try.prog 24 #[.slice (some ⟨b, o, none⟩) n cap] w fun e w' => e = .returned (.int .i64 (f 0 / 8 % 8 : Nat)) ∧ w' = w := by
  have c0 := h.2.2 0 hn
  have k := h.2.1 0
  rw [Nat.add_zero] at c0
  generalize f 0 = x at *
  have k0 : (0 : Int) ≤ (x : Int) := by omega
  have k1 : (x : Int) < 256 := by omega
  have n1 : (0 : Int) < (n : Int) := by omega
  go_enter Try.func24, Try.ntmps24
  go_wp2_with fail
  go_ret
  exact ⟨rfl, rfl⟩
theorem tw_shift (f : Nat → Nat) (a : Nat) : tw (fun i => f (a + i)) 0 = tw f a := rfl
theorem dataLength_c {w : World} {b o n cap : Nat} {f : Nat → Nat} (h : Bs w b o n f) (hn : 12 ≤ n) (hc : n ≤ cap) (hc2 : cap ≤ 9223372036854775807) : Calls Try.prog 25 #[.slice (some ⟨b, o, none⟩) n cap] w fun e w' => e = .returned (.int .i64 (tw f 10 : Nat)) ∧ ∃ m, w' = w.drewN m := by
  have N := number_c (cap - 10) (h.part 10 2 (by omega)) (Nat.le_refl _)
  rw [tw_shift] at N
  have N := Lib.hid N
  have k0 : (12 : Int) ≤ (cap : Int) := by omega
  have k1 : (cap : Int) ≤ 9223372036854775807 := by omega
  have k2 : ¬ cap = 10 := by omega
  go_enter Try.func25, Try.ntmps25
  go_wp2_with fail
  refine N.out.mono ?_
  rintro e w1 ⟨rfl, m, rfl⟩
  go_wp2_with fail
  go_ret
  exact ⟨rfl, m, rfl⟩
theorem frameLength_c (m : Nat) (hm : m ≤ 65535) (w : World) : Calls Try.prog 26 #[.int .i64 (m : Int)] w fun e w' => e = .returned (.int .i64 ((12 + (m + 3) / 4 * 4 : Nat) : Int)) ∧ w' = w := by
  have k0 : (0 : Int) ≤ (m : Int) := by omega
  have k1 : (m : Int) ≤ 65535 := by omega
  have q : ((m : Int) + 4 - 1).tdiv 4 = (((m + 3) / 4 : Nat) : Int) := by rw [Int.tdiv_eq_ediv_of_nonneg (by omega)]; omega
  have q' : ((m : Int) + 3).tdiv 4 = (((m + 3) / 4 : Nat) : Int) := by rw [Int.tdiv_eq_ediv_of_nonneg (by omega)]; omega
  have z0 : ((m + 3) / 4 : Nat) ≤ 20000 := by omega
  have E : Hid (12 + (m + 3) / 4 * 4 = 12 + (m + 3) / 4 * 4) := Lib.hid rfl
  generalize (m + 3) / 4 = y at *
  have z1 : (0 : Int) ≤ (y : Int) := by omega
  have z2 : (y : Int) ≤ 20000 := by omega
  go_enter Try.func26, Try.ntmps26
  go_wp2_with fail
  go_ret
  exact ⟨by simp, rfl⟩
theorem zs_snoc (f : Nat → Nat) (a : Nat) : ∀ m, zs f a (m + 1) = (zs f a m && f (a + m) == 0) := fun m => by
  rw [Bool.eq_iff_iff, Bool.and_eq_true, zs_iff, zs_iff, beq_iff_eq]
  constructor
  · intro h; exact ⟨fun i hi => h i (by omega), h m (by omega)⟩
  · rintro ⟨h1, h2⟩ i hi
    by_cases c : i = m
    · rw [c]; exact h2
    · exact h1 i (by omega)
theorem zs_later {f : Nat → Nat} {a m k : Nat} (hk : k < m) (h : f (a + k) ≠ 0) : zs f a m = false := by
  cases c : zs f a m with
  | false => rfl
  | true => exact absurd ((zs_iff _ _).1 c k hk) h
set_option maxHeartbeats 1000000 in
theorem areNoughts_c {w : World} {ad : Option Addr} {n cap : Nat} {f : Nat → Nat} (hf : ∀ i, f i < 256) (h : 0 < n → ∃ b o, ad = some ⟨b, o, none⟩ ∧ Bs w b o n f) (hn : n ≤ 140737488351232) : Calls Try.prog 27 #[.slice ad n cap] w fun e w' => e = .returned (.bool (zs f 0 n)) ∧ w' = w := by
  have H := Lib.hid h
  have n0 : (0 : Int) ≤ (n : Int) := by omega
  have n9 : (n : Int) ≤ 140737488351232 := by omega
  clear h
  go_enter Try.func27, Try.ntmps27
  go_wp2_with fail
  go_loopw [7] (fun iv wr => ∃ k : Nat, k ≤ n ∧ iv = .int .i64 k ∧ wr = w ∧ zs f 0 k = true) (fun iv _ => n - (intOf iv).toNat)
  case atStart => exact ⟨0, Nat.zero_le _, rfl, rfl, rfl⟩
  case round =>
    obtain ⟨k, hk, rfl, rfl, hz⟩ := hrel
    have HZ := Lib.hid hz
    clear hz
    by_cases c : k < n
    · have e1 : decide ((k : Int) < (n : Int)) = true := decide_eq_true (by omega)
      have k1 : (k : Int) < (n : Int) := by omega
      obtain ⟨b, o, rfl, B⟩ := H.out (by omega)
      have ck := B.2.2 k c
      have hx := hf k
      have ZN := Lib.hid (zs_snoc f 0 k)
      have ZL := Lib.hid (@zs_later f 0 n k c)
      rw [Nat.zero_add] at ZN ZL
      clear B
      generalize f k = x at *
      by_cases d : x = 0
      · have e2 : ((x : Int) != 0) = false := by simp; omega
        subst d
        go_wp2_with fail
        exact ⟨⟨k + 1, by omega, by go_num, by first | rfl | trivial, by rw [ZN.out, HZ.out]; rfl⟩, by simp [intOf]; omega⟩
      · have e2 : ((x : Int) != 0) = true := by simp; omega
        have DD := Lib.hid d
        clear d
        go_wp2_with fail
        go_ret
        exact ⟨by rw [ZL.out DD.out]; rfl, rfl⟩
    · have e1 : decide ((k : Int) < (n : Int)) = false := decide_eq_false (by omega)
      obtain rfl : k = n := by omega
      go_wp2_with fail
      go_ret
      exact ⟨by rw [HZ.out]; rfl, rfl⟩
theorem in_nil (w : World) (d : Nat) (a : Option Addr) (l c : Nat) : (Op.equalIn (d + 1) 22 (.slice a l c) (.slice none 0 0)).run Try.prog w = .ok a.isNone w := by
  cases a <;> simp [Op.equalIn, run_underlying Try.underlying22]
theorem at_nil (w : World) (a : Option Addr) (l c : Nat) : (Op.equal 22 (.slice a l c) (.slice none 0 0)).run Try.prog w = .ok a.isNone w := in_nil w 9999 a l c
theorem some_nil (b o n c : Nat) (w : World) : (binOp .eql 22 (.slice (some ⟨b, o, none⟩) n c) (.slice none 0 0)).run Try.prog w = .ok (.bool false) w := by
  simp [binOp, at_nil w]
theorem none_nil (n c : Nat) (w : World) : (binOp .eql 22 (.slice none n c) (.slice none 0 0)).run Try.prog w = .ok (.bool true) w := by
  simp [binOp, at_nil w]
set_option maxHeartbeats 1000000 in
theorem Clone_c {w : World} {b o n cap : Nat} {f : Nat → Nat} (S : Sl w (.slice (some ⟨b, o, none⟩) n cap) (bl f n)) : Calls Try.prog 29 #[.slice (some ⟨b, o, none⟩) n cap] w fun e w' => (∃ v, e = .returned v ∧ Own w' w.heap.size v (bl f n) ∧ v ≠ .slice none 0 0) ∧ Below w.heap.size w w' := by
  have BA := balloc (brefl w) (.cells #[] 5)
  obtain ⟨v2, w2, r2, o2, b2, s2, nn2⟩ := S.app BA (own0 w w.heap.size (Nat.le_refl _)) (by simp) (by have := S.1; simpa using (by omega : (bl f n).length ≤ 140737488355328)) 22
  rw [List.nil_append] at o2
  have BB := Lib.hid (BA.trans b2)
  have O2 := Lib.hid o2
  have NN := Lib.hid (nn2 (by simp))
  clear S o2 b2 s2 nn2 BA
  have EQ := some_nil b o n cap w
  go_enter Try.func29, Try.ntmps29
  go_wp2_with (first | (at_builtin; refine wpList_append_eq rfl _ _ 22 rfl _ _ v2 w2 rfl rfl r2 ?_))
  go_ret
  exact ⟨⟨_, rfl, O2.out, NN.out⟩, BB.out⟩
end Go.Proofs.Yteigmnbbfmcihaa.Ct
