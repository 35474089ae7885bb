/-
  HullSure: However the faulty sources lie, the hull holds the truth as long as they are no more than the budget. The law returns true for every input, and the input reads as it did.
  Conditions: none.
-/
import Derived.Test.YtppflfodkhhfhaaRows
import Derived.Test.YtppflfodkhhfhaaHuZ
import Derived.SizedLaws
import Derived.Lib.SmallJoins
namespace Go.Proofs.Ytppflfodkhhfhaa.hullSure
open Go.ChangeShapes Go.WideShapes Go.ChangeAt Go.RowKit Go.Joins Fl Hu
set_option linter.unusedVariables false
set_option linter.unusedSimpArgs false

theorem own : ownKnob Try.prog.godebug = none := by kernel_rfl
theorem laidOut : laidOutB Try.prog = true := by kernel_rfl

theorem he_ok {L : List Sn} {t : Int} (h : okL L) (k : okT t) : heE L t = .returned (.tuple #[.int .i64 (cnt L t : Nat), .int .i64 0]) := by unfold heE; rw [if_pos ⟨h, k⟩, if_pos h, if_pos k]
theorem he_range {L : List Sn} {t : Int} (h : okL L) (k : ¬ okT t) : heE L t = .returned (.tuple #[.int .i64 0, .int .i64 2]) := by unfold heE; rw [if_neg (fun q => k q.2), if_pos h, if_neg k]
theorem he_shape {L : List Sn} {t : Int} (h : ¬ okL L) : heE L t = .returned (.tuple #[.int .i64 0, .int .i64 3]) := by unfold heE; rw [if_neg (fun q => h q.1), if_neg h]
set_option maxRecDepth 100000 in
set_option maxHeartbeats 8000000 in
theorem walk (pc : PC) (v : Value) (L : List Sn) (f t : Int) (w : World) (g0 : Hs w v L ∧ (∀ s ∈ L, i64N s) ∧ L.length * 16 ≤ 140737488351232) (g1 : Lit.wf (.int .i64 f) = true) (g2 : Lit.wf (.int .i64 t) = true) :
    Calls Try.prog 4 #[v, .int .i64 f, .int .i64 t] w fun e w' => e = .returned (.bool true) ∧ Below w.heap.size w w' := by
  obtain ⟨hS, _, hN⟩ := g0
  have hN' : L.length ≤ 8796093022208 := by omega
  have fb := bounds_i64 g1
  have AW := Lib.hid (awake15_c pc)
  have P1 := Lib.hid (fun w' (q : Below w.heap.size w w') => pc.hull w' v L f (hS.below q) hN' fb)
  have P2 := Lib.hid (fun w' (q : Below w.heap.size w w') => pc.held w' v L t (hS.below q) hN')
  obtain ⟨a, cap, rfl, _⟩ := hS
  obtain ⟨m, hm⟩ : ∃ m, L.length = m := ⟨_, rfl⟩
  rw [hm] at hN' P1 P2 ⊢
  clear pc hN g1 g2
  have m0 : (0 : Int) ≤ (m : Int) := by omega
  have m1 : (m : Int) ≤ 8796093022208 := by omega
  by_cases d1 : t < -2305843009213693952
  · have d2 := decide_eq_true d1
    have nt : ¬ okT t := fun q => by unfold okT at q; omega
    by_cases ok : okL L
    · by_cases fn : f < 0
      · have AE := huA_range ok fn
        have HE := he_range ok nt
        rw [huE_at AE] at P1
        rw [HE] at P2
        clear AE HE
        go_enter Try.func4, Try.ntmps4
        go_wp2_with fail
        refine (AW.out _).mono ?_
        rintro e w1 ⟨rfl, hb⟩
        have B1 := Lib.hid hb
        clear hb AW
        go_wp2_with fail
        refine (P1.out _ B1.out).mono ?_
        rintro e w2 ⟨rfl, hb⟩
        have hb2 := balloc hb (.cells #[.int .i64 0, .int .i64 0] 25)
        have B2 := Lib.hid (bstep B1.out hb2)
        have M2 := Lib.hid (new2 w2 0 0 25)
        clear hb hb2 B1 P1
        go_wp2_with fail
        refine (P2.out _ B2.out).mono ?_
        rintro e w3 ⟨rfl, hb⟩
        have B3 := Lib.hid (bstep B2.out hb)
        obtain ⟨z0, z1⟩ := blk2 M2.out hb
        clear hb B2 M2 P2
        go_wp2_with fail
        go_ret
        exact ⟨rfl, B3.out⟩
      · by_cases fl : (L.length : Int) ≤ f
        · have AE := huA_bound ok fn fl
          have HE := he_range ok nt
          rw [huE_at AE] at P1
          rw [HE] at P2
          clear AE HE
          go_enter Try.func4, Try.ntmps4
          go_wp2_with fail
          refine (AW.out _).mono ?_
          rintro e w1 ⟨rfl, hb⟩
          have B1 := Lib.hid hb
          clear hb AW
          go_wp2_with fail
          refine (P1.out _ B1.out).mono ?_
          rintro e w2 ⟨rfl, hb⟩
          have hb2 := balloc hb (.cells #[.int .i64 0, .int .i64 0] 25)
          have B2 := Lib.hid (bstep B1.out hb2)
          have M2 := Lib.hid (new2 w2 0 0 25)
          clear hb hb2 B1 P1
          go_wp2_with fail
          refine (P2.out _ B2.out).mono ?_
          rintro e w3 ⟨rfl, hb⟩
          have B3 := Lib.hid (bstep B2.out hb)
          obtain ⟨z0, z1⟩ := blk2 M2.out hb
          clear hb B2 M2 P2
          go_wp2_with fail
          go_ret
          exact ⟨rfl, B3.out⟩
        · obtain ⟨g, rfl⟩ := Int.eq_ofNat_of_zero_le (show 0 ≤ f by omega)
          have gl : g < L.length := by omega
          cases hv : huV L g with
          | none =>
            have AE := huA_none ok gl (huV_nil gl hv)
            have HE := he_range ok nt
            rw [huE_at AE] at P1
            rw [HE] at P2
            clear AE HE
            go_enter Try.func4, Try.ntmps4
            go_wp2_with fail
            refine (AW.out _).mono ?_
            rintro e w1 ⟨rfl, hb⟩
            have B1 := Lib.hid hb
            clear hb AW
            go_wp2_with fail
            refine (P1.out _ B1.out).mono ?_
            rintro e w2 ⟨rfl, hb⟩
            have hb2 := balloc hb (.cells #[.int .i64 0, .int .i64 0] 25)
            have B2 := Lib.hid (bstep B1.out hb2)
            have M2 := Lib.hid (new2 w2 0 0 25)
            clear hb hb2 B1 P1
            go_wp2_with fail
            refine (P2.out _ B2.out).mono ?_
            rintro e w3 ⟨rfl, hb⟩
            have B3 := Lib.hid (bstep B2.out hb)
            obtain ⟨z0, z1⟩ := blk2 M2.out hb
            clear hb B2 M2 P2
            go_wp2_with fail
            go_ret
            exact ⟨rfl, B3.out⟩
          | some p =>
            obtain ⟨lo, hi⟩ := p
            have HU := huV_hull hv
            have AE := huA_some ok gl HU
            have HE := he_range ok nt
            rw [huE_at AE] at P1
            rw [HE] at P2
            clear AE HE
            go_enter Try.func4, Try.ntmps4
            go_wp2_with fail
            refine (AW.out _).mono ?_
            rintro e w1 ⟨rfl, hb⟩
            have B1 := Lib.hid hb
            clear hb AW
            go_wp2_with fail
            refine (P1.out _ B1.out).mono ?_
            rintro e w2 ⟨rfl, hb⟩
            have hb2 := balloc hb (.cells #[.int .i64 lo, .int .i64 hi] 25)
            have B2 := Lib.hid (bstep B1.out hb2)
            have M2 := Lib.hid (new2 w2 lo hi 25)
            clear hb hb2 B1 P1
            go_wp2_with fail
            refine (P2.out _ B2.out).mono ?_
            rintro e w3 ⟨rfl, hb⟩
            have B3 := Lib.hid (bstep B2.out hb)
            obtain ⟨z0, z1⟩ := blk2 M2.out hb
            clear hb B2 M2 P2
            go_wp2_with fail
            go_ret
            exact ⟨rfl, B3.out⟩
    · have AE := huA_shape (f := f) ok
      have HE := he_shape (t := t) ok
      rw [huE_at AE] at P1
      rw [HE] at P2
      clear AE HE
      go_enter Try.func4, Try.ntmps4
      go_wp2_with fail
      refine (AW.out _).mono ?_
      rintro e w1 ⟨rfl, hb⟩
      have B1 := Lib.hid hb
      clear hb AW
      go_wp2_with fail
      refine (P1.out _ B1.out).mono ?_
      rintro e w2 ⟨rfl, hb⟩
      have hb2 := balloc hb (.cells #[.int .i64 0, .int .i64 0] 25)
      have B2 := Lib.hid (bstep B1.out hb2)
      have M2 := Lib.hid (new2 w2 0 0 25)
      clear hb hb2 B1 P1
      go_wp2_with fail
      refine (P2.out _ B2.out).mono ?_
      rintro e w3 ⟨rfl, hb⟩
      have B3 := Lib.hid (bstep B2.out hb)
      obtain ⟨z0, z1⟩ := blk2 M2.out hb
      clear hb B2 M2 P2
      go_wp2_with fail
      go_ret
      exact ⟨rfl, B3.out⟩
  · have d2 := decide_eq_false d1
    by_cases d3 : 2305843009213693952 < t
    · have d4 := decide_eq_true d3
      have nt : ¬ okT t := fun q => by unfold okT at q; omega
      by_cases ok : okL L
      · by_cases fn : f < 0
        · have AE := huA_range ok fn
          have HE := he_range ok nt
          rw [huE_at AE] at P1
          rw [HE] at P2
          clear AE HE
          go_enter Try.func4, Try.ntmps4
          go_wp2_with fail
          refine (AW.out _).mono ?_
          rintro e w1 ⟨rfl, hb⟩
          have B1 := Lib.hid hb
          clear hb AW
          go_wp2_with fail
          refine (P1.out _ B1.out).mono ?_
          rintro e w2 ⟨rfl, hb⟩
          have hb2 := balloc hb (.cells #[.int .i64 0, .int .i64 0] 25)
          have B2 := Lib.hid (bstep B1.out hb2)
          have M2 := Lib.hid (new2 w2 0 0 25)
          clear hb hb2 B1 P1
          go_wp2_with fail
          refine (P2.out _ B2.out).mono ?_
          rintro e w3 ⟨rfl, hb⟩
          have B3 := Lib.hid (bstep B2.out hb)
          obtain ⟨z0, z1⟩ := blk2 M2.out hb
          clear hb B2 M2 P2
          go_wp2_with fail
          go_ret
          exact ⟨rfl, B3.out⟩
        · by_cases fl : (L.length : Int) ≤ f
          · have AE := huA_bound ok fn fl
            have HE := he_range ok nt
            rw [huE_at AE] at P1
            rw [HE] at P2
            clear AE HE
            go_enter Try.func4, Try.ntmps4
            go_wp2_with fail
            refine (AW.out _).mono ?_
            rintro e w1 ⟨rfl, hb⟩
            have B1 := Lib.hid hb
            clear hb AW
            go_wp2_with fail
            refine (P1.out _ B1.out).mono ?_
            rintro e w2 ⟨rfl, hb⟩
            have hb2 := balloc hb (.cells #[.int .i64 0, .int .i64 0] 25)
            have B2 := Lib.hid (bstep B1.out hb2)
            have M2 := Lib.hid (new2 w2 0 0 25)
            clear hb hb2 B1 P1
            go_wp2_with fail
            refine (P2.out _ B2.out).mono ?_
            rintro e w3 ⟨rfl, hb⟩
            have B3 := Lib.hid (bstep B2.out hb)
            obtain ⟨z0, z1⟩ := blk2 M2.out hb
            clear hb B2 M2 P2
            go_wp2_with fail
            go_ret
            exact ⟨rfl, B3.out⟩
          · obtain ⟨g, rfl⟩ := Int.eq_ofNat_of_zero_le (show 0 ≤ f by omega)
            have gl : g < L.length := by omega
            cases hv : huV L g with
            | none =>
              have AE := huA_none ok gl (huV_nil gl hv)
              have HE := he_range ok nt
              rw [huE_at AE] at P1
              rw [HE] at P2
              clear AE HE
              go_enter Try.func4, Try.ntmps4
              go_wp2_with fail
              refine (AW.out _).mono ?_
              rintro e w1 ⟨rfl, hb⟩
              have B1 := Lib.hid hb
              clear hb AW
              go_wp2_with fail
              refine (P1.out _ B1.out).mono ?_
              rintro e w2 ⟨rfl, hb⟩
              have hb2 := balloc hb (.cells #[.int .i64 0, .int .i64 0] 25)
              have B2 := Lib.hid (bstep B1.out hb2)
              have M2 := Lib.hid (new2 w2 0 0 25)
              clear hb hb2 B1 P1
              go_wp2_with fail
              refine (P2.out _ B2.out).mono ?_
              rintro e w3 ⟨rfl, hb⟩
              have B3 := Lib.hid (bstep B2.out hb)
              obtain ⟨z0, z1⟩ := blk2 M2.out hb
              clear hb B2 M2 P2
              go_wp2_with fail
              go_ret
              exact ⟨rfl, B3.out⟩
            | some p =>
              obtain ⟨lo, hi⟩ := p
              have HU := huV_hull hv
              have AE := huA_some ok gl HU
              have HE := he_range ok nt
              rw [huE_at AE] at P1
              rw [HE] at P2
              clear AE HE
              go_enter Try.func4, Try.ntmps4
              go_wp2_with fail
              refine (AW.out _).mono ?_
              rintro e w1 ⟨rfl, hb⟩
              have B1 := Lib.hid hb
              clear hb AW
              go_wp2_with fail
              refine (P1.out _ B1.out).mono ?_
              rintro e w2 ⟨rfl, hb⟩
              have hb2 := balloc hb (.cells #[.int .i64 lo, .int .i64 hi] 25)
              have B2 := Lib.hid (bstep B1.out hb2)
              have M2 := Lib.hid (new2 w2 lo hi 25)
              clear hb hb2 B1 P1
              go_wp2_with fail
              refine (P2.out _ B2.out).mono ?_
              rintro e w3 ⟨rfl, hb⟩
              have B3 := Lib.hid (bstep B2.out hb)
              obtain ⟨z0, z1⟩ := blk2 M2.out hb
              clear hb B2 M2 P2
              go_wp2_with fail
              go_ret
              exact ⟨rfl, B3.out⟩
      · have AE := huA_shape (f := f) ok
        have HE := he_shape (t := t) ok
        rw [huE_at AE] at P1
        rw [HE] at P2
        clear AE HE
        go_enter Try.func4, Try.ntmps4
        go_wp2_with fail
        refine (AW.out _).mono ?_
        rintro e w1 ⟨rfl, hb⟩
        have B1 := Lib.hid hb
        clear hb AW
        go_wp2_with fail
        refine (P1.out _ B1.out).mono ?_
        rintro e w2 ⟨rfl, hb⟩
        have hb2 := balloc hb (.cells #[.int .i64 0, .int .i64 0] 25)
        have B2 := Lib.hid (bstep B1.out hb2)
        have M2 := Lib.hid (new2 w2 0 0 25)
        clear hb hb2 B1 P1
        go_wp2_with fail
        refine (P2.out _ B2.out).mono ?_
        rintro e w3 ⟨rfl, hb⟩
        have B3 := Lib.hid (bstep B2.out hb)
        obtain ⟨z0, z1⟩ := blk2 M2.out hb
        clear hb B2 M2 P2
        go_wp2_with fail
        go_ret
        exact ⟨rfl, B3.out⟩
    · have d4 := decide_eq_false d3
      have nt : okT t := ⟨by omega, by omega⟩
      by_cases ok : okL L
      · by_cases fn : f < 0
        · have AE := huA_range ok fn
          have HE := he_ok ok nt
          rw [huE_at AE] at P1
          rw [HE] at P2
          clear AE HE
          go_enter Try.func4, Try.ntmps4
          go_wp2_with fail
          refine (AW.out _).mono ?_
          rintro e w1 ⟨rfl, hb⟩
          have B1 := Lib.hid hb
          clear hb AW
          go_wp2_with fail
          refine (P1.out _ B1.out).mono ?_
          rintro e w2 ⟨rfl, hb⟩
          have hb2 := balloc hb (.cells #[.int .i64 0, .int .i64 0] 25)
          have B2 := Lib.hid (bstep B1.out hb2)
          have M2 := Lib.hid (new2 w2 0 0 25)
          clear hb hb2 B1 P1
          go_wp2_with fail
          refine (P2.out _ B2.out).mono ?_
          rintro e w3 ⟨rfl, hb⟩
          have B3 := Lib.hid (bstep B2.out hb)
          obtain ⟨z0, z1⟩ := blk2 M2.out hb
          clear hb B2 M2 P2
          go_wp2_with fail
          go_ret
          exact ⟨rfl, B3.out⟩
        · by_cases fl : (L.length : Int) ≤ f
          · have AE := huA_bound ok fn fl
            have HE := he_ok ok nt
            rw [huE_at AE] at P1
            rw [HE] at P2
            clear AE HE
            go_enter Try.func4, Try.ntmps4
            go_wp2_with fail
            refine (AW.out _).mono ?_
            rintro e w1 ⟨rfl, hb⟩
            have B1 := Lib.hid hb
            clear hb AW
            go_wp2_with fail
            refine (P1.out _ B1.out).mono ?_
            rintro e w2 ⟨rfl, hb⟩
            have hb2 := balloc hb (.cells #[.int .i64 0, .int .i64 0] 25)
            have B2 := Lib.hid (bstep B1.out hb2)
            have M2 := Lib.hid (new2 w2 0 0 25)
            clear hb hb2 B1 P1
            go_wp2_with fail
            refine (P2.out _ B2.out).mono ?_
            rintro e w3 ⟨rfl, hb⟩
            have B3 := Lib.hid (bstep B2.out hb)
            obtain ⟨z0, z1⟩ := blk2 M2.out hb
            clear hb B2 M2 P2
            go_wp2_with fail
            go_ret
            exact ⟨rfl, B3.out⟩
          · obtain ⟨g, rfl⟩ := Int.eq_ofNat_of_zero_le (show 0 ≤ f by omega)
            have gl : g < L.length := by omega
            cases hv : huV L g with
            | none =>
              have AE := huA_none ok gl (huV_nil gl hv)
              have HE := he_ok ok nt
              have ce : ¬ Enough L g t ↔ ((cnt L t : Nat) : Int) < (m : Int) - (g : Int) := by unfold Enough; rw [hm]; omega
              have cm := cnt_le L t
              rw [hm] at cm gl
              have wg : IntKind.i64.wrap ((m : Int) - (g : Int)) = (m : Int) - (g : Int) := wrap_in (by omega) (by omega)
              have d5 : decide (((cnt L t : Nat) : Int) < (m : Int) - (g : Int)) = true := decide_eq_true (ce.1 (huV_nil (by omega) hv t))
              generalize cnt L t = n at *
              rw [huE_at AE] at P1
              rw [HE] at P2
              clear AE HE
              go_enter Try.func4, Try.ntmps4
              go_wp2_with fail
              refine (AW.out _).mono ?_
              rintro e w1 ⟨rfl, hb⟩
              have B1 := Lib.hid hb
              clear hb AW
              go_wp2_with fail
              refine (P1.out _ B1.out).mono ?_
              rintro e w2 ⟨rfl, hb⟩
              have hb2 := balloc hb (.cells #[.int .i64 0, .int .i64 0] 25)
              have B2 := Lib.hid (bstep B1.out hb2)
              have M2 := Lib.hid (new2 w2 0 0 25)
              clear hb hb2 B1 P1
              go_wp2_with fail
              refine (P2.out _ B2.out).mono ?_
              rintro e w3 ⟨rfl, hb⟩
              have B3 := Lib.hid (bstep B2.out hb)
              obtain ⟨z0, z1⟩ := blk2 M2.out hb
              clear hb B2 M2 P2
              go_wp2_with fail
              go_ret
              exact ⟨rfl, B3.out⟩
            | some p =>
              obtain ⟨lo, hi⟩ := p
              have HU := huV_hull hv
              have AE := huA_some ok gl HU
              have HE := he_ok ok nt
              have ce : ¬ Enough L g t ↔ ((cnt L t : Nat) : Int) < (m : Int) - (g : Int) := by unfold Enough; rw [hm]; omega
              have cm := cnt_le L t
              rw [hm] at cm gl
              have wg : IntKind.i64.wrap ((m : Int) - (g : Int)) = (m : Int) - (g : Int) := wrap_in (by omega) (by omega)
              by_cases en : Enough L g t
              · have d5 : decide (((cnt L t : Nat) : Int) < (m : Int) - (g : Int)) = false := decide_eq_false (fun q => ce.2 q en)
                obtain ⟨q1, q2⟩ := HU.2.2 t en
                have d6 := decide_eq_true q1
                have d7 := decide_eq_true q2
                clear HU hv en ce
                generalize cnt L t = n at *
                rw [huE_at AE] at P1
                rw [HE] at P2
                clear AE HE
                go_enter Try.func4, Try.ntmps4
                go_wp2_with fail
                refine (AW.out _).mono ?_
                rintro e w1 ⟨rfl, hb⟩
                have B1 := Lib.hid hb
                clear hb AW
                go_wp2_with fail
                refine (P1.out _ B1.out).mono ?_
                rintro e w2 ⟨rfl, hb⟩
                have hb2 := balloc hb (.cells #[.int .i64 lo, .int .i64 hi] 25)
                have B2 := Lib.hid (bstep B1.out hb2)
                have M2 := Lib.hid (new2 w2 lo hi 25)
                clear hb hb2 B1 P1
                go_wp2_with fail
                refine (P2.out _ B2.out).mono ?_
                rintro e w3 ⟨rfl, hb⟩
                have B3 := Lib.hid (bstep B2.out hb)
                obtain ⟨z0, z1⟩ := blk2 M2.out hb
                clear hb B2 M2 P2
                go_wp2_with fail
                go_ret
                exact ⟨rfl, B3.out⟩
              · have d5 : decide (((cnt L t : Nat) : Int) < (m : Int) - (g : Int)) = true := decide_eq_true (ce.1 en)
                clear HU hv en ce
                generalize cnt L t = n at *
                rw [huE_at AE] at P1
                rw [HE] at P2
                clear AE HE
                go_enter Try.func4, Try.ntmps4
                go_wp2_with fail
                refine (AW.out _).mono ?_
                rintro e w1 ⟨rfl, hb⟩
                have B1 := Lib.hid hb
                clear hb AW
                go_wp2_with fail
                refine (P1.out _ B1.out).mono ?_
                rintro e w2 ⟨rfl, hb⟩
                have hb2 := balloc hb (.cells #[.int .i64 lo, .int .i64 hi] 25)
                have B2 := Lib.hid (bstep B1.out hb2)
                have M2 := Lib.hid (new2 w2 lo hi 25)
                clear hb hb2 B1 P1
                go_wp2_with fail
                refine (P2.out _ B2.out).mono ?_
                rintro e w3 ⟨rfl, hb⟩
                have B3 := Lib.hid (bstep B2.out hb)
                obtain ⟨z0, z1⟩ := blk2 M2.out hb
                clear hb B2 M2 P2
                go_wp2_with fail
                go_ret
                exact ⟨rfl, B3.out⟩
      · have AE := huA_shape (f := f) ok
        have HE := he_shape (t := t) ok
        rw [huE_at AE] at P1
        rw [HE] at P2
        clear AE HE
        go_enter Try.func4, Try.ntmps4
        go_wp2_with fail
        refine (AW.out _).mono ?_
        rintro e w1 ⟨rfl, hb⟩
        have B1 := Lib.hid hb
        clear hb AW
        go_wp2_with fail
        refine (P1.out _ B1.out).mono ?_
        rintro e w2 ⟨rfl, hb⟩
        have hb2 := balloc hb (.cells #[.int .i64 0, .int .i64 0] 25)
        have B2 := Lib.hid (bstep B1.out hb2)
        have M2 := Lib.hid (new2 w2 0 0 25)
        clear hb hb2 B1 P1
        go_wp2_with fail
        refine (P2.out _ B2.out).mono ?_
        rintro e w3 ⟨rfl, hb⟩
        have B3 := Lib.hid (bstep B2.out hb)
        obtain ⟨z0, z1⟩ := blk2 M2.out hb
        clear hb B2 M2 P2
        go_wp2_with fail
        go_ret
        exact ⟨rfl, B3.out⟩
set_option maxRecDepth 100000 in
theorem lifted (os : Os) (started : os.Started) (H : Type) (enc : TypeId × Value → H) :
    ReturnsInHanded {} Try.checked os 4 .any (Rows.hullSureSpec.pre6 enc Try.prog Try.f4 Rows.hullSureRow.domain false) (Rows.hullSureSpec.post enc Try.prog Try.f4 false true false false) := by
  refine returnsInHanded_of_change_sized (C := Try.checked) own started (by kernel_rfl) Try.func4
    (ChangeSpec.witness6 (enc := enc) (C := Try.checked) false ⟨#[], #[.slice none 0 0, .int .i64 0, .int .i64 0], []⟩ 8 (by kernel_rfl) (by kernel_rfl) (by kernel_rfl) (by kernel_rfl)) ?_
  intro W base args ds gs before hval0 hW hcnd hsz0 _
  have hsz : (DataW.weightsEach Try.prog (Try.f4.params.toList ++ Rows.hullSureSpec.plain.varTypes Try.prog) (ds ++ gs)).all (· ≤ reachBytes) = true := hsz0
  have hval : ∀ (j : Nat) t v, Try.f4.params[j]? = some t → args[j]? = some v → Value.okWide Try.prog W .any base t v := hval0
  have hW' := hW
  obtain ⟨p, q, hA0, hV, rfl, hfz, hnd⟩ := hW
  have hA : DataW.TrodAll enc Try.prog W 0 (fun _ => true) true Try.f4.params.toList args.toList ds p := hA0
  rw [Try.params4] at hA hval hsz
  obtain ⟨v0, vs0, d0, ds0, p0, q0, hargs, rfl, rfl, h0, r0⟩ := trodAll_cons hA
  obtain ⟨v1, vs1, d1, ds1, p1, q1, rfl, rfl, rfl, h1, r1⟩ := trodAll_cons r0
  obtain ⟨v2, vs2, d2, ds2, p2, q2, rfl, rfl, rfl, h2, r2⟩ := trodAll_cons r1
  obtain ⟨rfl, rfl, rfl⟩ := trodAll_nil r2
  obtain rfl : args = #[v0, v1, v2] := by cases args; simp_all
  obtain ⟨rfl, rfl⟩ := trodVars_none hV
  have h0k := h0
  have hlt0 : ∀ x ∈ p0, x.block < W.heap.size := fun x hx => by have := hW'.lt x (by simp [hx]); simpa using this
  have hb0 : ∀ es sp, d0 = .slice es sp → (es.length + sp.length) * Try.prog.bytesOf 25 ≤ reachBytes := by
    intro es sp he
    exact sized_slice hsz (j := 0) (t := 22) (e := 25) rfl (by rw [he]; rfl) Try.underlying22
  have h1k := h1
  have hlt1 : ∀ x ∈ p1, x.block < W.heap.size := fun x hx => by have := hW'.lt x (by simp [hx]); simpa using this
  have h2k := h2
  have hlt2 : ∀ x ∈ p2, x.block < W.heap.size := fun x hx => by have := hW'.lt x (by simp [hx]); simpa using this
  obtain ⟨L0, g0⟩ := open_sns (hval 0 22 v0 rfl rfl) h0 hb0
  obtain ⟨z1, rfl, _, _, g1⟩ := open_int Try.underlying3 (hval 1 3 v1 rfl rfl) h1
  obtain ⟨z2, rfl, _, _, g2⟩ := open_int Try.underlying23 (hval 2 23 v2 rfl rfl) h2
  clear hA0 hval0
  simp only [List.append_nil] at hW'
  refine (walk pc v0 L0 z1 z2 W g0 g1 g2).mono fun e W' ⟨he, hg⟩ => ?_
  subst he
  exact ⟨_, rfl, _, _, _, [], _, [], hW', trodAll_cons_mk (shut_bool Try.underlying4 _) trodAll_mk0,
    (trodAll_cons_mk (Below.trod laidOut (by kernel_rfl) (of_decide_eq_true (by kernel_rfl)) h0k hg hlt0) (trodAll_cons_mk (Below.trod laidOut (by kernel_rfl) (of_decide_eq_true (by kernel_rfl)) h1k hg hlt1) (trodAll_cons_mk (Below.trod laidOut (by kernel_rfl) (of_decide_eq_true (by kernel_rfl)) h2k hg hlt2) trodAll_mk0))), rfl, hg.frame _, fun h => nomatch h⟩

theorem over : Rows.hullSureRow.holds Try.pinned (OpenSpec.ofChange Rows.hullSureSpec) :=
  OpenClaim.holds_of_wide 4 Try.f4 rfl rfl rfl rfl rfl rfl rfl ⟨rfl, rfl, rfl, rfl, rfl⟩ rfl rfl rfl rfl rfl (by kernel_rfl) Try.func4 (by kernel_rfl)
    (of_decide_eq_true (by kernel_rfl)) (by unfold Func.isWrapper; first | (rw [if_pos (by decide +kernel)]; kernel_rfl) | (rw [if_neg (by decide +kernel)]; exact ⟨rfl, rfl⟩))
    (fun os started H enc _ => lifted os started H enc)

theorem proved : Rows.HullSureSaid :=
  over
end Go.Proofs.Ytppflfodkhhfhaa.hullSure
