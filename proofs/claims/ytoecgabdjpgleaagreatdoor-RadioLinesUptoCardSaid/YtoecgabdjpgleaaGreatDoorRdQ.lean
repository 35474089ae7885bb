/-
  The document's body of a NMEA line: sundialref13.body.
  Conditions: the line has no more than 2^61 bytes.
-/
import Derived.Test.YtoecgabdjpgleaaGreatDoorRdP
import Derived.Deep.RegionHeld3
namespace Go.Proofs.YtoecgabdjpgleaaGreatDoor.Rd
open Go.RowKit Cv
set_option linter.unusedVariables false
set_option linter.unusedSimpArgs false

def rbE (s : ByteArray) : Ending := if okL s then .returned (.tuple #[.string (bodyL s), .bool (decide (sumT (bodyL s) = sumL s)), .int .i64 0]) else .returned (.tuple #[.string ⟨#[]⟩, .bool false, .int .i64 4])
set_option maxRecDepth 100000 in
set_option maxHeartbeats 4000000 in
theorem rbody_c (s : ByteArray) (w : World) (hs : s.size ≤ 2305843009213693952) :
    Calls Tryz.prog 20 #[.string s] w fun e w' => e = rbE s ∧ Below w.heap.size w w' := by
  have NB : Hid (¬ okL s → rbE s = .returned (.tuple #[.string ⟨#[]⟩, .bool false, .int .i64 4])) := Lib.hid (fun h => if_neg h)
  have YB : Hid (okL s → rbE s = .returned (.tuple #[.string (bodyL s), .bool (decide (sumT (bodyL s) = sumL s)), .int .i64 0])) := Lib.hid (fun h => if_pos h)
  have OK : Hid (okL s ↔ (4 ≤ s.size ∧ Wd.gn s 0 = 36 ∧ Wd.gn s (s.size - 3) = 42 ∧ hxd (Wd.gn s (s.size - 2)) = true ∧ hxd (Wd.gn s (s.size - 1)) = true ∧ ∀ i, 1 ≤ i → i < s.size - 3 → okc (Wd.gn s i) = true ∧ Wd.gn s i ≠ 42)) := Lib.hid Iff.rfl
  generalize okL s = OL at *
  generalize rbE s = E at *
  by_cases n4 : s.size < 4
  · have e0 : decide ((s.size : Int) < 4) = true := decide_eq_true (by omega)
    have N := Lib.hid (NB.out fun q => by have := (OK.out.1 q).1; omega)
    go_enter Tryz.func20, Tryz.ntmps20
    go_wp2_with fail
    exact bodyPost_ret (v := .tuple #[.string ⟨#[]⟩, .bool false, .int .i64 4]) (by simp [results, Tryz.results20, go_sem]) rfl ⟨N.out.symm, brefl _⟩
  · have e0 : decide ((s.size : Int) < 4) = false := decide_eq_false (by omega)
    have g0 := Wd.gn_at s 0 (by omega)
    have g3 := Wd.gn_at s (s.size - 3) (by omega)
    have g2 := Wd.gn_at s (s.size - 2) (by omega)
    have g1 := Wd.gn_at s (s.size - 1) (by omega)
    have l3 := Wd.gn_lt s (s.size - 2)
    have l4 := Wd.gn_lt s (s.size - 1)
    have i3 : ((s.size : Int) - 3).toNat = s.size - 3 := by omega
    have i2 : ((s.size : Int) - 2).toNat = s.size - 2 := by omega
    have i1 : ((s.size : Int) - 1).toNat = s.size - 1 := by omega
    have X2 := Lib.hid (fun w => hex_c (Wd.gn s (s.size - 2)) l3 w)
    have X1 := Lib.hid (fun w => hex_c (Wd.gn s (s.size - 1)) l4 w)
    have K0 := Lib.hid (fun (h : ¬ Wd.gn s 0 = 36) => NB.out fun q => h (OK.out.1 q).2.1)
    have K3 := Lib.hid (fun (h : ¬ Wd.gn s (s.size - 3) = 42) => NB.out fun q => h (OK.out.1 q).2.2.1)
    have K2 := Lib.hid (fun (h : hxd (Wd.gn s (s.size - 2)) = false) => NB.out fun q => by have := (OK.out.1 q).2.2.2.1; rw [h] at this; cases this)
    have K1 := Lib.hid (fun (h : hxd (Wd.gn s (s.size - 1)) = false) => NB.out fun q => by have := (OK.out.1 q).2.2.2.2.1; rw [h] at this; cases this)
    have bz : (bodyL s).size = s.size - 4 := by rw [bodyL, size_ext _ _ _ (by omega)]; omega
    have bg : Hid (∀ i, i < s.size - 4 → Wd.gn (bodyL s) i = Wd.gn s (i + 1)) := Lib.hid fun i hi => by rw [bodyL, gn_ext (by omega), Nat.add_comm]
    have K9 := Lib.hid (fun (k : Nat) (h : k < s.size - 4) (h2 : okc (Wd.gn (bodyL s) k) = false ∨ Wd.gn (bodyL s) k = 42) => NB.out fun q => by
      have := (OK.out.1 q).2.2.2.2.2 (k + 1) (by omega) (by omega)
      rw [bg.out k h] at h2
      rcases h2 with h2 | h2
      · rw [h2] at this; cases this.1
      · exact this.2 h2)
    have Y9 := Lib.hid (fun (h0 : Wd.gn s 0 = 36) (h3 : Wd.gn s (s.size - 3) = 42) (h2 : hxd (Wd.gn s (s.size - 2)) = true) (h1 : hxd (Wd.gn s (s.size - 1)) = true) (h : ∀ i, i < s.size - 4 → okc (Wd.gn (bodyL s) i) = true ∧ Wd.gn (bodyL s) i ≠ 42) => YB.out (OK.out.2 ⟨by omega, h0, h3, h2, h1, fun i a b => by
      have := h (i - 1) (by omega)
      rw [bg.out _ (by omega), show i - 1 + 1 = i by omega] at this
      exact this⟩))
    have HB : Hid (s.extract 1 (s.size - 3) = bodyL s) := Lib.hid rfl
    have HS : Hid (s.extract (s.size - 2) s.size = sumL s) := Lib.hid rfl
    have SU := Lib.hid (fun w => rSum_c (bodyL s) w (by omega))
    clear NB YB OK bg
    generalize bodyL s = B at *
    generalize sumL s = C at *
    generalize hx0 : Wd.gn s 0 = x0 at *
    generalize hx3 : Wd.gn s (s.size - 3) = x3 at *
    generalize hx2 : Wd.gn s (s.size - 2) = x2 at *
    generalize hx1 : Wd.gn s (s.size - 1) = x1 at *
    clear hx0 hx3 hx2 hx1
    generalize hxd x2 = b2 at *
    generalize hxd x1 = b1 at *
    by_cases c0 : x0 = 36
    · have e1 : ((x0 : Int) != 36) = false := by simp; omega
      by_cases c3 : x3 = 42
      · have e2 : ((x3 : Int) != 42) = false := by simp; omega
        cases b2 with
        | false =>
          have N := Lib.hid (K2.out rfl)
          go_enter Tryz.func20, Tryz.ntmps20
          go_wp2_with fail
          refine (X2.out _).mono ?_
          rintro e w' ⟨rfl, rfl⟩
          go_wp2_with fail
          exact bodyPost_ret (v := .tuple #[.string ⟨#[]⟩, .bool false, .int .i64 4]) (by simp [results, Tryz.results20, go_sem]) rfl ⟨N.out.symm, brefl _⟩
        | true =>
          cases b1 with
          | false =>
            have N := Lib.hid (K1.out rfl)
            go_enter Tryz.func20, Tryz.ntmps20
            go_wp2_with fail
            refine (X2.out _).mono ?_
            rintro e w' ⟨rfl, rfl⟩
            go_wp2_with fail
            refine (X1.out _).mono ?_
            rintro e w' ⟨rfl, rfl⟩
            go_wp2_with fail
            exact bodyPost_ret (v := .tuple #[.string ⟨#[]⟩, .bool false, .int .i64 4]) (by simp [results, Tryz.results20, go_sem]) rfl ⟨N.out.symm, brefl _⟩
          | true =>
            have Y := Lib.hid (Y9.out c0 c3 rfl rfl)
            clear Y9 K0 K1 K2 K3
            go_enter Tryz.func20, Tryz.ntmps20
            go_wp2_with fail
            refine (X2.out _).mono ?_
            rintro e w' ⟨rfl, rfl⟩
            go_wp2_with fail
            refine (X1.out _).mono ?_
            rintro e w' ⟨rfl, rfl⟩
            have hb := HB.out
            have hcs := HS.out
            have j1 : (0 : Int) ≤ (s.size : Int) - 3 := by omega
            have j2 : (1 : Int) ≤ (s.size : Int) - 3 := by omega
            have j3 : (s.size : Int) - 3 ≤ (s.size : Int) := by omega
            go_wp2_with fail
            have j4 : (0 : Int) ≤ (s.size : Int) - 2 := by omega
            have j5 : (s.size : Int) - 2 ≤ (s.size : Int) := by omega
            have j6 : (2 : Int) ≤ (s.size : Int) := by omega
            have j7 : IntKind.i64.wrap ((s.size : Int) - 2) = (s.size : Int) - 2 := By.wrap_in (by omega) (by omega)
            have SL : ∀ w, (Instr.slice 9 (.string s) (some (.int .i64 ((s.size : Int) - 2))) none none).run Tryz.prog w = .ok (.string C) w := by
              intro w
              simp [go_sem, j4, j5, j6, i2, hcs, Tryz.underlying9]
            clear X1 X2 HB HS g0 g1 g2 g3
            rename World => wz
            go_loopw [7] (fun i wr => ∃ k : Nat, k ≤ B.size ∧ i = .int .i64 k ∧ (∀ j, j < k → okc (Wd.gn B j) = true ∧ Wd.gn B j ≠ 42) ∧ wr = wz) (fun i _ => B.size - (intOf i).toNat)
            case atStart => exact ⟨0, Nat.zero_le _, rfl, fun j hj => absurd hj (Nat.not_lt_zero _), rfl⟩
            case round =>
              obtain ⟨k, hk, rfl, hno, rfl⟩ := hrel
              have NO := Lib.hid hno
              clear hno
              by_cases c : k < B.size
              · have e3 : decide ((k : Int) < (B.size : Int)) = true := by rw [decide_eq_true_iff]; omega
                have ga := Wd.gn_at B k c
                have gl := Wd.gn_lt B k
                have HD : Hid (okc (Wd.gn B k) = (decide (32 ≤ Wd.gn B k) && decide (Wd.gn B k ≤ 126) && !decide (Wd.gn B k = 36))) := Lib.hid rfl
                have NX : Hid (okc (Wd.gn B k) = true → Wd.gn B k ≠ 42 → ∀ j, j < k + 1 → okc (Wd.gn B j) = true ∧ Wd.gn B j ≠ 42) := Lib.hid (fun h h2 j hj => by
                  by_cases e : j = k
                  · subst e; exact ⟨h, h2⟩
                  · exact NO.out j (by omega))
                have NK := Lib.hid (K9.out k (by omega))
                generalize hx : Wd.gn B k = x at *
                clear hx Y SU K9 NO
                by_cases d1 : x < 32
                · have e4 : decide ((x : Int) < 32) = true := by rw [decide_eq_true_iff]; omega
                  have N := Lib.hid (NK.out (.inl (by rw [HD.out, decide_eq_false (show ¬ 32 ≤ x by omega)]; rfl)))
                  go_wp2_with fail
                  exact bodyPost_ret (v := .tuple #[.string ⟨#[]⟩, .bool false, .int .i64 4]) (by simp [results, Tryz.results20, go_sem]) rfl ⟨N.out.symm, brefl _⟩
                · have e4 : decide ((x : Int) < 32) = false := by rw [decide_eq_false_iff_not]; omega
                  by_cases d2 : 126 < x
                  · have e5 : decide (126 < (x : Int)) = true := by rw [decide_eq_true_iff]; omega
                    have N := Lib.hid (NK.out (.inl (by rw [HD.out, decide_eq_false (show ¬ x ≤ 126 by omega), Bool.and_false]; rfl)))
                    go_wp2_with fail
                    exact bodyPost_ret (v := .tuple #[.string ⟨#[]⟩, .bool false, .int .i64 4]) (by simp [results, Tryz.results20, go_sem]) rfl ⟨N.out.symm, brefl _⟩
                  · have e5 : decide (126 < (x : Int)) = false := by rw [decide_eq_false_iff_not]; omega
                    by_cases d3 : x = 36
                    · have N := Lib.hid (NK.out (.inl (by rw [HD.out, decide_eq_true d3, Bool.not_true, Bool.and_false])))
                      have e6 : ((x : Int) == 36) = true := by simp; omega
                      go_wp2_with fail
                      exact bodyPost_ret (v := .tuple #[.string ⟨#[]⟩, .bool false, .int .i64 4]) (by simp [results, Tryz.results20, go_sem]) rfl ⟨N.out.symm, brefl _⟩
                    · have e6 : ((x : Int) == 36) = false := by simp; omega
                      by_cases d4 : x = 42
                      · have N := Lib.hid (NK.out (.inr d4))
                        have e7 : ((x : Int) == 42) = true := by simp; omega
                        go_wp2_with fail
                        exact bodyPost_ret (v := .tuple #[.string ⟨#[]⟩, .bool false, .int .i64 4]) (by simp [results, Tryz.results20, go_sem]) rfl ⟨N.out.symm, brefl _⟩
                      · have e7 : ((x : Int) == 42) = false := by simp; omega
                        have NY := Lib.hid (NX.out (by rw [HD.out, decide_eq_true (show 32 ≤ x by omega), decide_eq_true (show x ≤ 126 by omega), decide_eq_false d3]; rfl) d4)
                        go_wp2_with fail
                        go_roundw
                        case rel => exact ⟨k + 1, by omega, by go_num, NY.out, trivial⟩
                        case measure => simp [intOf]; omega
              · have e3 : decide ((k : Int) < (B.size : Int)) = false := by rw [decide_eq_false_iff_not]; omega
                have YE := Lib.hid (Y.out fun i hi => NO.out i (by omega))
                clear Y NO K9
                have EQ := eqB (sumT B) C
                generalize decide (sumT B = C) = eq at *
                generalize sumT B = sc at *
                go_wp2_with fail
                rename World => wy
                have hb0 : Below wy.heap.size wy wy.drew := (brefl wy).drew
                go_region_held3 (fun _ => True)
                  (first | trivial)
                  (first | (go_at_call 10; (with_reducible refine (SU.out _).mono ?_); rintro e w' ⟨rfl, hb⟩; replace hb := bstep (w := wy) (by assumption) hb))
                all_goals (go_wp2_with fail)
                all_goals exact bodyPost_ret (v := .tuple #[.string B, .bool eq, .int .i64 0]) (by simp [results, Tryz.results20, go_sem]) rfl ⟨YE.out.symm, by assumption⟩
      · have e2 : ((x3 : Int) != 42) = true := by simp; omega
        have N := Lib.hid (K3.out c3)
        go_enter Tryz.func20, Tryz.ntmps20
        go_wp2_with fail
        exact bodyPost_ret (v := .tuple #[.string ⟨#[]⟩, .bool false, .int .i64 4]) (by simp [results, Tryz.results20, go_sem]) rfl ⟨N.out.symm, brefl _⟩
    · have e1 : ((x0 : Int) != 36) = true := by simp; omega
      have N := Lib.hid (K0.out c0)
      go_enter Tryz.func20, Tryz.ntmps20
      go_wp2_with fail
      exact bodyPost_ret (v := .tuple #[.string ⟨#[]⟩, .bool false, .int .i64 4]) (by simp [results, Tryz.results20, go_sem]) rfl ⟨N.out.symm, brefl _⟩
end Go.Proofs.YtoecgabdjpgleaaGreatDoor.Rd
