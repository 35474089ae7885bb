/-
  HullGrows: A greater budget makes the hull no less, its ends are held by enough sources, and one more source that holds it all changes nothing. The law returns true for every input, and the input reads as it did.
  Conditions: none.
-/
import Derived.Test.YtppflfodkhhfhaaRows
import Derived.Test.YtppflfodkhhfhaaHuZ
import Derived.Test.YtppflfodkhhfhaaHuJ
import Derived.SizedLaws
import Derived.Deep.RegionHeld3
import Derived.Deep.CutRange
import Derived.Deep.MidRow
import Derived.Lib.SmallJoins
namespace Go.Proofs.Ytppflfodkhhfhaa.hullGrows
open Go.ChangeShapes Go.WideShapes Go.ChangeAt Go.RowKit Go.Joins Fl Hu
set_option linter.unusedVariables false
set_option linter.unusedSimpArgs false

theorem own : ownKnob Try.prog.godebug = none := by kernel_rfl
theorem laidOut : laidOutB Try.prog = true := by kernel_rfl

theorem turn32 (z : Int) : ∃ (q : Int) (t : Nat), z.tmod 32 = q ∧ IntKind.i64.wrap q = q ∧ IntKind.i64.wrap (q + 32) = q + 32 ∧ (q + 32).tmod 32 = (t : Int) ∧ IntKind.i64.wrap (t : Int) = (t : Int) ∧ t < 32 := by
  have a1 := Int.tmod_lt_of_pos z (show (0 : Int) < 32 by decide)
  have a2 := Int.lt_tmod_of_pos z (show (0 : Int) < 32 by decide)
  have b1 := Int.tmod_nonneg 32 (show 0 ≤ z.tmod 32 + 32 by omega)
  have b2 := Int.tmod_lt_of_pos (z.tmod 32 + 32) (show (0 : Int) < 32 by decide)
  exact ⟨_, ((z.tmod 32 + 32).tmod 32).toNat, rfl, wrap_in (by omega) (by omega), wrap_in (by omega) (by omega), by omega, wrap_in (by omega) (by omega), by omega⟩
set_option maxRecDepth 100000 in
set_option maxHeartbeats 16000000 in
theorem walk (pc : PC) (v : Value) (L : List Sn) (f : Int) (w : World) (g0 : Hs w v L ∧ (∀ s ∈ L, i64N s) ∧ L.length * 16 ≤ 140737488351232) (g1 : Lit.wf (.int .i64 f) = true) :
    Calls Try.prog 5 #[v, .int .i64 f] w fun e w' => e = .returned (.bool true) ∧ Below w.heap.size w w' := by
  obtain ⟨hS, _, hN⟩ := g0
  have hN' : L.length ≤ 8796093022208 := by omega
  have fb := bounds_i64 g1
  have AW := Lib.hid (awake15_c pc)
  obtain ⟨q, g, k1, k2, k3, k4, k5, k6⟩ := turn32 f
  have g0 : (0 : Int) ≤ (g : Int) := by omega
  have g32 : (g : Int) < 32 := by omega
  have wg1 : IntKind.i64.wrap ((g : Int) + 1) = (g : Int) + 1 := wrap_in (by omega) (by omega)
  have P1 := Lib.hid (fun w' (b : Below w.heap.size w w') => pc.hull w' v L (g : Int) (hS.below b) hN' (by omega))
  have P2 := Lib.hid (fun w' (b : Below w.heap.size w w') t => pc.held w' v L t (hS.below b) hN')
  have P3 := Lib.hid (fun w' (b : Below w.heap.size w w') => pc.hull w' v L ((g : Int) + 1) (hS.below b) hN' (by omega))
  have PM := Lib.hid (fun w' v' M (h : Hs w' v' M) (hl : M.length ≤ 8796093022208) => pc.hull w' v' M (g : Int) h hl (by omega))
  have HS := Lib.hid hS
  obtain ⟨a, cap, rfl, c1, c2, _⟩ := hS
  obtain ⟨m, hm⟩ : ∃ m, L.length = m := ⟨_, rfl⟩
  have HM := Lib.hid hm
  rcases hA : huA L (g : Int) with ⟨⟨lo, hi⟩, e0⟩
  rw [huE_at hA] at P1
  rw [hm] at HS P1 P2 P3 c1 hN hN' ⊢
  have m0 : (0 : Int) ≤ (m : Int) := by omega
  have m1 : (m : Int) ≤ 8796093022208 := by omega
  have m2 : (m : Int) ≤ (cap : Int) := by omega
  have m3 : (cap : Int) ≤ 9223372036854775807 := by omega
  clear pc g1 hm
  go_enter Try.func5, Try.ntmps5
  go_wp2_with fail
  refine (AW.out _).mono ?_
  rintro e w1 ⟨rfl, hb⟩
  have B1 := Lib.hid hb
  clear hb AW
  go_wp2_with fail
  refine (P1.out _ B1.out).mono ?_
  rintro e w2 ⟨rfl, hb⟩
  have hb2 := balloc hb (.cells #[.int .i64 lo, .int .i64 hi] 25)
  have B2 := Lib.hid (bstep B1.out hb2)
  have M2 := Lib.hid (new2 w2 lo hi 25)
  clear hb hb2 B1 P1
  by_cases ez : e0 = 0
  · subst ez
    obtain ⟨ok, gl, HU⟩ := huA_zero hA
    have OK := Lib.hid ok
    have GL := Lib.hid gl
    have HH := Lib.hid HU
    have GR := Lib.hid (grown ok gl HU)
    obtain ⟨⟨n1, hn1, x1, x2⟩, ⟨n2, hn2, y1, y2⟩⟩ := ends_held ok gl HU
    have HE1 := Lib.hid (fun w' b => P2.out w' b lo)
    have HE2 := Lib.hid (fun w' b => P2.out w' b hi)
    rw [hn1] at HE1
    rw [hn2] at HE2
    rw [HM.out] at x1 x2 y1 y2 gl
    have wg : IntKind.i64.wrap ((m : Int) - (g : Int)) = (m : Int) - (g : Int) := wrap_in (by omega) (by omega)
    have d1 : decide ((n1 : Int) < (m : Int) - (g : Int)) = false := decide_eq_false (by omega)
    have d2 : decide ((n2 : Int) < (m : Int) - (g : Int)) = false := decide_eq_false (by omega)
    clear P2 ok HU hA hn1 hn2
    obtain ⟨b5, hb5⟩ : ∃ b, w2.heap.size = b := ⟨_, rfl⟩
    rw [hb5] at M2
    go_upto_region 7 with fail
    try rw [hb5]
    clear hb5
    generalize w2.alloc (.cells #[.int .i64 lo, .int .i64 hi] 25) = w3 at *
    obtain ⟨z0, z1⟩ := blk2 M2.out (brefl w3)
    go_wp2_with fail
    refine (HE1.out _ B2.out).mono ?_
    rintro e w4 ⟨rfl, hb⟩
    have B4 := Lib.hid (bstep B2.out hb)
    have M4 := Lib.hid (M2.out.below hb)
    clear hb z0 z1 B2 M2 HE1
    obtain ⟨z0, z1⟩ := blk2 M4.out (brefl w4)
    go_wp2_with fail
    refine (HE2.out _ B4.out).mono ?_
    rintro e w5 ⟨rfl, hb⟩
    have B5 := Lib.hid (bstep B4.out hb)
    have M5 := Lib.hid (M4.out.below hb)
    clear hb z0 z1 B4 M4 HE2
    obtain ⟨ma, mb, me, hG, hC⟩ := GR.out
    rw [huE_at hG] at P3
    clear hG GR
    go_wp2_with fail
    refine (P3.out _ B5.out).mono ?_
    rintro e w6 ⟨rfl, hb⟩
    have hb2 := balloc hb (.cells #[.int .i64 ma, .int .i64 mb] 25)
    have B6 := Lib.hid (bstep B5.out hb2)
    have M6 := Lib.hid (M5.out.below hb2)
    have N6 := Lib.hid (new2 w6 ma mb 25)
    obtain ⟨b11, hb11⟩ : ∃ b, w6.heap.size = b := ⟨_, rfl⟩
    rw [hb11] at N6
    clear hb hb2 B5 M5 P3
    go_upto_region 12 with fail
    try rw [hb11]
    clear hb11
    generalize w6.alloc (.cells #[.int .i64 ma, .int .i64 mb] 25) = w7 at *
    obtain ⟨z0, z1⟩ := blk2 M6.out (brefl w7)
    obtain ⟨y0, y1'⟩ := blk2 N6.out (brefl w7)
    go_cut [100] from 77 to 100 (fun bv wx => bv = .bool false ∧ wx = w7)
    case first =>
      rcases hC with ⟨rfl, ha, hb⟩ | rfl
      · have d3 : decide (lo < ma) = false := decide_eq_false (by omega)
        have d4 : decide (mb < hi) = false := decide_eq_false (by omega)
        clear ha hb
        go_wp2_with fail
        go_meet
        exact ⟨rfl, rfl⟩
      · go_wp2_with fail
        go_meet
        exact ⟨rfl, rfl⟩
    obtain ⟨rfl, rfl⟩ := hcut
    rename World => w7
    clear z0 z1 y0 y1' hC N6
    by_cases c32 : m = 32
    · subst c32
      go_wp2_with fail
      go_ret
      exact ⟨rfl, B6.out⟩
    · have c33 : ((m : Int) == 32) = false := by rw [beq_eq_false_iff_ne]; omega
      have n32 : m < 32 := by
        have := OK.out.2
        rw [HM.out] at this
        omega
      have SA := Lib.hid (same_hull OK.out GL.out HH.out (by rw [HM.out]; exact n32))
      have WI := Lib.hid (wide_hull OK.out GL.out HH.out (by rw [HM.out]; exact n32))
      obtain ⟨bl, ol, rfl, hLh⟩ : ∃ b off, a = some ⟨b, off, none⟩ ∧ Lh w b off L := by
        obtain ⟨a', cap', e, _, _, h3⟩ := HS.out
        cases e
        exact h3 (by rw [HM.out]; omega)
      have LH := Lib.hid (hLh.below B6.out)
      have mp : (m : Int) ≤ 31 := by omega
      clear hLh OK GL HH HS
      go_upto_region 16 with fail
      go_cut [13, 14] from 104 to 114 (fun pv ev wx => (∃ b, pv = .pointer (some ⟨b, 0, none⟩) ∧ Blk wx b [.int .i64 lo, .int .i64 hi]) ∧ ev = .int .i64 0 ∧ Below w7.heap.size w7 wx)
      case first =>
        refine wp_region_held_drew (S := fun w' => Below w7.heap.size w7 w') (by kernel_rfl) (brefl w7).drew (fun hHeld => ?_)
        refine wpAnyH_take (i := 1) (v := ?_) rfl (by kernel_rfl) (by kernel_rfl) (by kernel_rfl) (fun _ _ _ h => h) (Or.inl ⟨by rfl, ?_⟩) hHeld ?_
        rotate_left
        · ((intro w _; go_simp); try with_reducible rfl)
        (try simp only [List.getElem_toArray, List.getElem_cons_succ, List.getElem_cons_zero, Act.put, List.setIfInBounds_toArray, List.set_cons_zero, List.set_cons_succ])
        refine wpAnyH_take (i := 6) (v := ?_) rfl (by kernel_rfl) (by kernel_rfl) (by kernel_rfl) (fun _ _ _ h => h) (Or.inl ⟨by rfl, ?_⟩) hHeld ?_
        rotate_left
        · ((intro w _; go_simp); try with_reducible rfl)
        (try simp only [List.getElem_toArray, List.getElem_cons_succ, List.getElem_cons_zero, Act.put, List.setIfInBounds_toArray, List.set_cons_zero, List.set_cons_succ])
        refine wpAnyH_take (i := 3) rfl (by kernel_rfl) (by kernel_rfl) (by kernel_rfl) (fun _ _ _ h => h) (yieldsIf_load_mid (by rfl) _ _ rfl _ _ rfl [.int .i64 lo, .int .i64 hi] _ (fun w h => (M6.out.below h).range) Try.underlying25 rfl (by exact info_sn)) hHeld ?_
        (try simp only [List.getElem_toArray, List.getElem_cons_succ, List.getElem_cons_zero, Act.put, List.setIfInBounds_toArray, List.set_cons_zero, List.set_cons_succ])
        refine wpAnyH_ready (rs := [0, 4, 11]) (by kernel_rfl) (by simp) (AllReadyH.cons rfl (fun KQ hKQ => ?_) (AllReadyH.cons rfl (fun KQ hKQ => ?_) (AllReadyH.cons rfl (fun KQ hKQ => ?_) AllReadyH.nil)))
        · go_simp
          have BT : Below w7.heap.size w7 ((w7.alloc (.cells #[] 25)).drew) := (balloc (brefl w7) (.cells #[] 25)).drew
          refine hKQ.out _ _ BT (fun hH2 => ?_)
          clear hKQ KQ hHeld
          have hHeld := hH2
          clear hH2
          (try simp only [List.getElem_toArray, List.getElem_cons_succ, List.getElem_cons_zero, Act.put, List.setIfInBounds_toArray, List.set_cons_zero, List.set_cons_succ])
          have Bz1 := Lib.hid BT
          clear BT
          have Rz1 : Hid (OwnN ((w7.alloc (.cells #[] 25)).drew) w7.heap.size (.slice (some ⟨w7.heap.size, 0, none⟩) 0 0) []) := Lib.hid ((ownN0 w7 w7.heap.size (Nat.le_refl _)).below (brefl _).drew)
          generalize (w7.alloc (.cells #[] 25)).drew = z1 at *
          refine wpAnyH_ready (rs := [2, 4, 11]) (by kernel_rfl) (by simp) (AllReadyH.cons rfl (fun KQ hKQ => ?_) (AllReadyH.cons rfl (fun KQ hKQ => ?_) (AllReadyH.cons rfl (fun KQ hKQ => ?_) AllReadyH.nil)))
          · obtain ⟨vp, z2, ra, oa, ba, ga⟩ := appM Rz1.out L ⟨bl, ol, none⟩ cap (lh_cells (LH.out.below Bz1.out)) Bz1.out.size (by simp [HM.out]; omega) 22
            rw [List.nil_append] at oa
            obtain ⟨pa, pc', rfl⟩ := oa.form
            rw [HM.out] at ra oa ga
            have RA := Lib.hid ra
            have Rz2 := Lib.hid oa
            have Bz2 := Lib.hid (Bz1.out.trans ba)
            clear ra oa ba ga
            refine step_append_eqN rfl (.tmp 105) (.tmp 106) 22 rfl _ _ _ _ rfl rfl RA.out ?_
            refine hKQ.out _ _ Bz2.out (fun hH2 => ?_)
            clear hKQ KQ hHeld
            have hHeld := hH2
            clear hH2
            (try simp only [List.getElem_toArray, List.getElem_cons_succ, List.getElem_cons_zero, Act.put, List.setIfInBounds_toArray, List.set_cons_zero, List.set_cons_succ])
            clear RA
            refine wpAnyH_ready (rs := [4, 11]) (by kernel_rfl) (by simp) (AllReadyH.cons rfl (fun KQ hKQ => ?_) (AllReadyH.cons rfl (fun KQ hKQ => ?_) AllReadyH.nil))
            · go_simp
              have BT : Below w7.heap.size w7 ((z2.alloc (.cells #[.int .i64 lo, .int .i64 hi] 25))) := bstep Bz2.out (balloc (brefl z2) (.cells #[.int .i64 lo, .int .i64 hi] 25))
              refine hKQ.out _ _ BT (fun hH2 => ?_)
              clear hKQ KQ hHeld
              have hHeld := hH2
              clear hH2
              (try simp only [List.getElem_toArray, List.getElem_cons_succ, List.getElem_cons_zero, Act.put, List.setIfInBounds_toArray, List.set_cons_zero, List.set_cons_succ])
              have Bz3 := Lib.hid BT
              clear BT
              have Nz3 : Hid (Blk ((z2.alloc (.cells #[.int .i64 lo, .int .i64 hi] 25))) (z2.heap.size) [.int .i64 lo, .int .i64 hi]) := Lib.hid (new2 z2 _ _ 25)
              have Rz3 := Lib.hid (Rz2.out.below (balloc (brefl z2) (.cells #[.int .i64 lo, .int .i64 hi] 25)))
              have Xz3 : Hid (Value.ownBlock (.slice pa m pc') ≠ some (z2.heap.size)) := Lib.hid (fun q => by have := (Rz2.out.lt _ q).2; omega)
              generalize (z2.alloc (.cells #[.int .i64 lo, .int .i64 hi] 25)) = z3 at *
              refine wpAnyH_ready (rs := [5, 11]) (by kernel_rfl) (by simp) (AllReadyH.cons rfl (fun KQ hKQ => ?_) (AllReadyH.cons rfl (fun KQ hKQ => ?_) AllReadyH.nil))
              · obtain ⟨vp, z4, ra, oa, ba, ga⟩ := appM Rz3.out [⟨lo, hi⟩] ⟨z2.heap.size, 0, none⟩ 1 (blk_cells Nz3.out) Bz3.out.size (by simp [HM.out]; omega) 22
                obtain ⟨qa, qc, rfl⟩ := oa.form
                obtain ⟨lq, hlq⟩ : ∃ n, (L ++ [(⟨lo, hi⟩ : Sn)]).length = n := ⟨_, rfl⟩
                rw [hlq] at ra oa ga
                have HLQ := Lib.hid hlq
                clear hlq
                have RA := Lib.hid ra
                have Rz4 := Lib.hid oa
                have Bz4 := Lib.hid (Bz3.out.trans ba)
                clear ra oa ba ga
                refine step_append_eqN rfl (.tmp 107) (.tmp 109) 22 rfl _ _ _ _ rfl rfl RA.out ?_
                refine hKQ.out _ _ Bz4.out (fun hH2 => ?_)
                clear hKQ KQ hHeld
                have hHeld := hH2
                clear hH2
                (try simp only [List.getElem_toArray, List.getElem_cons_succ, List.getElem_cons_zero, Act.put, List.setIfInBounds_toArray, List.set_cons_zero, List.set_cons_succ])
                clear RA
                refine wpAnyH_ready (rs := [7, 11]) (by kernel_rfl) (by simp) (AllReadyH.cons rfl (fun KQ hKQ => ?_) (AllReadyH.cons rfl (fun KQ hKQ => ?_) AllReadyH.nil))
                · have PW := Lib.hid (PM.out z4 _ _ Rz4.out.hs (by rw [HLQ.out, ← HLQ.out, List.length_append, HM.out]; simp; omega))
                  rw [huE_at SA.out] at PW
                  go_simp
                  refine PW.out.mono ?_
                  rintro e z5 ⟨rfl, hb⟩
                  have Bz5 := Lib.hid (bstep Bz4.out hb)
                  clear hb PW
                  go_wp2_with fail
                  refine hKQ.out _ _ Bz5.out (fun hH2 => ?_)
                  clear hKQ KQ hHeld
                  have hHeld := hH2
                  clear hH2
                  (try simp only [List.getElem_toArray, List.getElem_cons_succ, List.getElem_cons_zero, Act.put, List.setIfInBounds_toArray, List.set_cons_zero, List.set_cons_succ])
                  refine wpAnyH_take (i := 8) (v := ?_) rfl (by kernel_rfl) (by kernel_rfl) (by kernel_rfl) (fun _ _ _ h => h) (Or.inl ⟨by rfl, ?_⟩) hHeld ?_
                  rotate_left
                  · ((intro w _; go_simp); try with_reducible rfl)
                  (try simp only [List.getElem_toArray, List.getElem_cons_succ, List.getElem_cons_zero, Act.put, List.setIfInBounds_toArray, List.set_cons_zero, List.set_cons_succ])
                  refine wpAnyH_take (i := 9) (v := ?_) rfl (by kernel_rfl) (by kernel_rfl) (by kernel_rfl) (fun _ _ _ h => h) (Or.inl ⟨by rfl, ?_⟩) hHeld ?_
                  rotate_left
                  · ((intro w _; go_simp); try with_reducible rfl)
                  (try simp only [List.getElem_toArray, List.getElem_cons_succ, List.getElem_cons_zero, Act.put, List.setIfInBounds_toArray, List.set_cons_zero, List.set_cons_succ])
                  refine wpAnyH_take (i := 10) (v := ?_) rfl (by kernel_rfl) (by kernel_rfl) (by kernel_rfl) (fun _ _ _ h => h) (Or.inl ⟨by rfl, ?_⟩) hHeld ?_
                  rotate_left
                  · ((intro w _; go_simp); try with_reducible rfl)
                  (try simp only [List.getElem_toArray, List.getElem_cons_succ, List.getElem_cons_zero, Act.put, List.setIfInBounds_toArray, List.set_cons_zero, List.set_cons_succ])
                  refine wpAnyH_ready (rs := [11]) (by kernel_rfl) (by simp) (AllReadyH.cons rfl (fun KQ hKQ => ?_) AllReadyH.nil)
                  go_simp
                  have BT : Below w7.heap.size w7 ((z5.alloc (.cells #[.int .i64 0, .int .i64 0] 25))) := bstep Bz5.out (balloc (brefl z5) (.cells #[.int .i64 0, .int .i64 0] 25))
                  refine hKQ.out _ _ BT (fun hH2 => ?_)
                  clear hKQ KQ hHeld
                  have hHeld := hH2
                  clear hH2
                  (try simp only [List.getElem_toArray, List.getElem_cons_succ, List.getElem_cons_zero, Act.put, List.setIfInBounds_toArray, List.set_cons_zero, List.set_cons_succ])
                  have Bz6 := Lib.hid BT
                  clear BT
                  have Kz6 : Hid (Blk ((z5.alloc (.cells #[.int .i64 0, .int .i64 0] 25))) (z5.heap.size) [.int .i64 0, .int .i64 0]) := Lib.hid (new2 z5 _ _ 25)
                  generalize (z5.alloc (.cells #[.int .i64 0, .int .i64 0] 25)) = z6 at *
                  refine wpAnyH_ready (rs := [12]) (by kernel_rfl) (by simp) (AllReadyH.cons rfl (fun KQ hKQ => ?_) AllReadyH.nil)
                  obtain ⟨p0, p1⟩ := blk2 Kz6.out (brefl _)
                  have f0 := (Kz6.out.2 0 _ rfl).2
                  have f1 := (Kz6.out.2 1 _ rfl).2
                  have Kz7 := Lib.hid (blk_set (blk_set Kz6.out 0 (.int .i64 lo)) 1 (.int .i64 hi))
                  have Bz7 := Lib.hid (below_set (below_set Bz6.out (Bz5.out.size) 0 (.int .i64 lo)) (Bz5.out.size) 1 (.int .i64 hi))
                  go_simp
                  refine hKQ.out _ _ Bz7.out (fun hH2 => ?_)
                  clear hKQ KQ hHeld
                  have hHeld := hH2
                  clear hH2
                  (try simp only [List.getElem_toArray, List.getElem_cons_succ, List.getElem_cons_zero, Act.put, List.setIfInBounds_toArray, List.set_cons_zero, List.set_cons_succ])
                  refine wpAnyH_take (i := 13) (v := ?_) rfl (by kernel_rfl) (by kernel_rfl) (by kernel_rfl) (fun _ _ _ h => h) (Or.inl ⟨by rfl, ?_⟩) hHeld ?_
                  rotate_left
                  · ((intro w _; go_simp); try with_reducible rfl)
                  (try simp only [List.getElem_toArray, List.getElem_cons_succ, List.getElem_cons_zero, Act.put, List.setIfInBounds_toArray, List.set_cons_zero, List.set_cons_succ])
                  refine wpAnyH_done (by kernel_rfl) ?_ _
                  go_wp2_with fail
                  go_meet
                  exact ⟨⟨_, rfl, Kz7.out⟩, rfl, Bz7.out⟩
                · go_simp
                  have BT : Below w7.heap.size w7 ((z4.alloc (.cells #[.int .i64 0, .int .i64 0] 25))) := bstep Bz4.out (balloc (brefl z4) (.cells #[.int .i64 0, .int .i64 0] 25))
                  refine hKQ.out _ _ BT (fun hH2 => ?_)
                  clear hKQ KQ hHeld
                  have hHeld := hH2
                  clear hH2
                  (try simp only [List.getElem_toArray, List.getElem_cons_succ, List.getElem_cons_zero, Act.put, List.setIfInBounds_toArray, List.set_cons_zero, List.set_cons_succ])
                  have Bz5 := Lib.hid BT
                  clear BT
                  have Kz5 : Hid (Blk ((z4.alloc (.cells #[.int .i64 0, .int .i64 0] 25))) (z4.heap.size) [.int .i64 0, .int .i64 0]) := Lib.hid (new2 z4 _ _ 25)
                  have Rz5 := Lib.hid (Rz4.out.below (balloc (brefl z4) (.cells #[.int .i64 0, .int .i64 0] 25)))
                  generalize (z4.alloc (.cells #[.int .i64 0, .int .i64 0] 25)) = z5 at *
                  refine wpAnyH_ready (rs := [7]) (by kernel_rfl) (by simp) (AllReadyH.cons rfl (fun KQ hKQ => ?_) AllReadyH.nil)
                  have PW := Lib.hid (PM.out z5 _ _ Rz5.out.hs (by rw [HLQ.out, ← HLQ.out, List.length_append, HM.out]; simp; omega))
                  rw [huE_at SA.out] at PW
                  go_simp
                  refine PW.out.mono ?_
                  rintro e z6 ⟨rfl, hb⟩
                  have Bz6 := Lib.hid (bstep Bz5.out hb)
                  have Kz6 := Lib.hid (Kz5.out.below hb)
                  clear hb PW
                  go_wp2_with fail
                  refine hKQ.out _ _ Bz6.out (fun hH2 => ?_)
                  clear hKQ KQ hHeld
                  have hHeld := hH2
                  clear hH2
                  (try simp only [List.getElem_toArray, List.getElem_cons_succ, List.getElem_cons_zero, Act.put, List.setIfInBounds_toArray, List.set_cons_zero, List.set_cons_succ])
                  refine wpAnyH_take (i := 8) (v := ?_) rfl (by kernel_rfl) (by kernel_rfl) (by kernel_rfl) (fun _ _ _ h => h) (Or.inl ⟨by rfl, ?_⟩) hHeld ?_
                  rotate_left
                  · ((intro w _; go_simp); try with_reducible rfl)
                  (try simp only [List.getElem_toArray, List.getElem_cons_succ, List.getElem_cons_zero, Act.put, List.setIfInBounds_toArray, List.set_cons_zero, List.set_cons_succ])
                  refine wpAnyH_take (i := 9) (v := ?_) rfl (by kernel_rfl) (by kernel_rfl) (by kernel_rfl) (fun _ _ _ h => h) (Or.inl ⟨by rfl, ?_⟩) hHeld ?_
                  rotate_left
                  · ((intro w _; go_simp); try with_reducible rfl)
                  (try simp only [List.getElem_toArray, List.getElem_cons_succ, List.getElem_cons_zero, Act.put, List.setIfInBounds_toArray, List.set_cons_zero, List.set_cons_succ])
                  refine wpAnyH_take (i := 10) (v := ?_) rfl (by kernel_rfl) (by kernel_rfl) (by kernel_rfl) (fun _ _ _ h => h) (Or.inl ⟨by rfl, ?_⟩) hHeld ?_
                  rotate_left
                  · ((intro w _; go_simp); try with_reducible rfl)
                  (try simp only [List.getElem_toArray, List.getElem_cons_succ, List.getElem_cons_zero, Act.put, List.setIfInBounds_toArray, List.set_cons_zero, List.set_cons_succ])
                  refine wpAnyH_ready (rs := [12]) (by kernel_rfl) (by simp) (AllReadyH.cons rfl (fun KQ hKQ => ?_) AllReadyH.nil)
                  obtain ⟨p0, p1⟩ := blk2 Kz6.out (brefl _)
                  have f0 := (Kz6.out.2 0 _ rfl).2
                  have f1 := (Kz6.out.2 1 _ rfl).2
                  have Kz7 := Lib.hid (blk_set (blk_set Kz6.out 0 (.int .i64 lo)) 1 (.int .i64 hi))
                  have Bz7 := Lib.hid (below_set (below_set Bz6.out (Bz4.out.size) 0 (.int .i64 lo)) (Bz4.out.size) 1 (.int .i64 hi))
                  go_simp
                  refine hKQ.out _ _ Bz7.out (fun hH2 => ?_)
                  clear hKQ KQ hHeld
                  have hHeld := hH2
                  clear hH2
                  (try simp only [List.getElem_toArray, List.getElem_cons_succ, List.getElem_cons_zero, Act.put, List.setIfInBounds_toArray, List.set_cons_zero, List.set_cons_succ])
                  refine wpAnyH_take (i := 13) (v := ?_) rfl (by kernel_rfl) (by kernel_rfl) (by kernel_rfl) (fun _ _ _ h => h) (Or.inl ⟨by rfl, ?_⟩) hHeld ?_
                  rotate_left
                  · ((intro w _; go_simp); try with_reducible rfl)
                  (try simp only [List.getElem_toArray, List.getElem_cons_succ, List.getElem_cons_zero, Act.put, List.setIfInBounds_toArray, List.set_cons_zero, List.set_cons_succ])
                  refine wpAnyH_done (by kernel_rfl) ?_ _
                  go_wp2_with fail
                  go_meet
                  exact ⟨⟨_, rfl, Kz7.out⟩, rfl, Bz7.out⟩
              · go_simp
                have BT : Below w7.heap.size w7 ((z3.alloc (.cells #[.int .i64 0, .int .i64 0] 25))) := bstep Bz3.out (balloc (brefl z3) (.cells #[.int .i64 0, .int .i64 0] 25))
                refine hKQ.out _ _ BT (fun hH2 => ?_)
                clear hKQ KQ hHeld
                have hHeld := hH2
                clear hH2
                (try simp only [List.getElem_toArray, List.getElem_cons_succ, List.getElem_cons_zero, Act.put, List.setIfInBounds_toArray, List.set_cons_zero, List.set_cons_succ])
                have Bz4 := Lib.hid BT
                clear BT
                have Kz4 : Hid (Blk ((z3.alloc (.cells #[.int .i64 0, .int .i64 0] 25))) (z3.heap.size) [.int .i64 0, .int .i64 0]) := Lib.hid (new2 z3 _ _ 25)
                have Rz4 := Lib.hid (Rz3.out.below (balloc (brefl z3) (.cells #[.int .i64 0, .int .i64 0] 25)))
                have Yz4 : Hid (Value.ownBlock (.slice pa m pc') ≠ some (z3.heap.size)) := Lib.hid (fun q => by have := (Rz3.out.lt _ q).2; omega)
                have Nz4 := Lib.hid (Nz3.out.below (balloc (brefl z3) (.cells #[.int .i64 0, .int .i64 0] 25)))
                have Xz4 := Xz3
                generalize (z3.alloc (.cells #[.int .i64 0, .int .i64 0] 25)) = z4 at *
                refine wpAnyH_ready (rs := [5]) (by kernel_rfl) (by simp) (AllReadyH.cons rfl (fun KQ hKQ => ?_) AllReadyH.nil)
                obtain ⟨vp, z5, ra, oa, ba, ga⟩ := appM Rz4.out [⟨lo, hi⟩] ⟨z2.heap.size, 0, none⟩ 1 (blk_cells Nz4.out) Bz4.out.size (by simp [HM.out]; omega) 22
                obtain ⟨qa, qc, rfl⟩ := oa.form
                obtain ⟨lq, hlq⟩ : ∃ n, (L ++ [(⟨lo, hi⟩ : Sn)]).length = n := ⟨_, rfl⟩
                rw [hlq] at ra oa ga
                have HLQ := Lib.hid hlq
                clear hlq
                have RA := Lib.hid ra
                have Rz5 := Lib.hid oa
                have Bz5 := Lib.hid (Bz4.out.trans ba)
                have Kz5 := Lib.hid (ga.blk Kz4.out Yz4.out)
                clear ra oa ba ga
                refine step_append_eqN rfl (.tmp 107) (.tmp 109) 22 rfl _ _ _ _ rfl rfl RA.out ?_
                refine hKQ.out _ _ Bz5.out (fun hH2 => ?_)
                clear hKQ KQ hHeld
                have hHeld := hH2
                clear hH2
                (try simp only [List.getElem_toArray, List.getElem_cons_succ, List.getElem_cons_zero, Act.put, List.setIfInBounds_toArray, List.set_cons_zero, List.set_cons_succ])
                clear RA
                refine wpAnyH_ready (rs := [7]) (by kernel_rfl) (by simp) (AllReadyH.cons rfl (fun KQ hKQ => ?_) AllReadyH.nil)
                have PW := Lib.hid (PM.out z5 _ _ Rz5.out.hs (by rw [HLQ.out, ← HLQ.out, List.length_append, HM.out]; simp; omega))
                rw [huE_at SA.out] at PW
                go_simp
                refine PW.out.mono ?_
                rintro e z6 ⟨rfl, hb⟩
                have Bz6 := Lib.hid (bstep Bz5.out hb)
                have Kz6 := Lib.hid (Kz5.out.below hb)
                clear hb PW
                go_wp2_with fail
                refine hKQ.out _ _ Bz6.out (fun hH2 => ?_)
                clear hKQ KQ hHeld
                have hHeld := hH2
                clear hH2
                (try simp only [List.getElem_toArray, List.getElem_cons_succ, List.getElem_cons_zero, Act.put, List.setIfInBounds_toArray, List.set_cons_zero, List.set_cons_succ])
                refine wpAnyH_take (i := 8) (v := ?_) rfl (by kernel_rfl) (by kernel_rfl) (by kernel_rfl) (fun _ _ _ h => h) (Or.inl ⟨by rfl, ?_⟩) hHeld ?_
                rotate_left
                · ((intro w _; go_simp); try with_reducible rfl)
                (try simp only [List.getElem_toArray, List.getElem_cons_succ, List.getElem_cons_zero, Act.put, List.setIfInBounds_toArray, List.set_cons_zero, List.set_cons_succ])
                refine wpAnyH_take (i := 9) (v := ?_) rfl (by kernel_rfl) (by kernel_rfl) (by kernel_rfl) (fun _ _ _ h => h) (Or.inl ⟨by rfl, ?_⟩) hHeld ?_
                rotate_left
                · ((intro w _; go_simp); try with_reducible rfl)
                (try simp only [List.getElem_toArray, List.getElem_cons_succ, List.getElem_cons_zero, Act.put, List.setIfInBounds_toArray, List.set_cons_zero, List.set_cons_succ])
                refine wpAnyH_take (i := 10) (v := ?_) rfl (by kernel_rfl) (by kernel_rfl) (by kernel_rfl) (fun _ _ _ h => h) (Or.inl ⟨by rfl, ?_⟩) hHeld ?_
                rotate_left
                · ((intro w _; go_simp); try with_reducible rfl)
                (try simp only [List.getElem_toArray, List.getElem_cons_succ, List.getElem_cons_zero, Act.put, List.setIfInBounds_toArray, List.set_cons_zero, List.set_cons_succ])
                refine wpAnyH_ready (rs := [12]) (by kernel_rfl) (by simp) (AllReadyH.cons rfl (fun KQ hKQ => ?_) AllReadyH.nil)
                obtain ⟨p0, p1⟩ := blk2 Kz6.out (brefl _)
                have f0 := (Kz6.out.2 0 _ rfl).2
                have f1 := (Kz6.out.2 1 _ rfl).2
                have Kz7 := Lib.hid (blk_set (blk_set Kz6.out 0 (.int .i64 lo)) 1 (.int .i64 hi))
                have Bz7 := Lib.hid (below_set (below_set Bz6.out (Bz3.out.size) 0 (.int .i64 lo)) (Bz3.out.size) 1 (.int .i64 hi))
                go_simp
                refine hKQ.out _ _ Bz7.out (fun hH2 => ?_)
                clear hKQ KQ hHeld
                have hHeld := hH2
                clear hH2
                (try simp only [List.getElem_toArray, List.getElem_cons_succ, List.getElem_cons_zero, Act.put, List.setIfInBounds_toArray, List.set_cons_zero, List.set_cons_succ])
                refine wpAnyH_take (i := 13) (v := ?_) rfl (by kernel_rfl) (by kernel_rfl) (by kernel_rfl) (fun _ _ _ h => h) (Or.inl ⟨by rfl, ?_⟩) hHeld ?_
                rotate_left
                · ((intro w _; go_simp); try with_reducible rfl)
                (try simp only [List.getElem_toArray, List.getElem_cons_succ, List.getElem_cons_zero, Act.put, List.setIfInBounds_toArray, List.set_cons_zero, List.set_cons_succ])
                refine wpAnyH_done (by kernel_rfl) ?_ _
                go_wp2_with fail
                go_meet
                exact ⟨⟨_, rfl, Kz7.out⟩, rfl, Bz7.out⟩
            · go_simp
              have BT : Below w7.heap.size w7 ((z2.alloc (.cells #[.int .i64 0, .int .i64 0] 25))) := bstep Bz2.out (balloc (brefl z2) (.cells #[.int .i64 0, .int .i64 0] 25))
              refine hKQ.out _ _ BT (fun hH2 => ?_)
              clear hKQ KQ hHeld
              have hHeld := hH2
              clear hH2
              (try simp only [List.getElem_toArray, List.getElem_cons_succ, List.getElem_cons_zero, Act.put, List.setIfInBounds_toArray, List.set_cons_zero, List.set_cons_succ])
              have Bz3 := Lib.hid BT
              clear BT
              have Kz3 : Hid (Blk ((z2.alloc (.cells #[.int .i64 0, .int .i64 0] 25))) (z2.heap.size) [.int .i64 0, .int .i64 0]) := Lib.hid (new2 z2 _ _ 25)
              have Rz3 := Lib.hid (Rz2.out.below (balloc (brefl z2) (.cells #[.int .i64 0, .int .i64 0] 25)))
              have Yz3 : Hid (Value.ownBlock (.slice pa m pc') ≠ some (z2.heap.size)) := Lib.hid (fun q => by have := (Rz2.out.lt _ q).2; omega)
              generalize (z2.alloc (.cells #[.int .i64 0, .int .i64 0] 25)) = z3 at *
              refine wpAnyH_ready (rs := [4]) (by kernel_rfl) (by simp) (AllReadyH.cons rfl (fun KQ hKQ => ?_) AllReadyH.nil)
              go_simp
              have BT : Below w7.heap.size w7 ((z3.alloc (.cells #[.int .i64 lo, .int .i64 hi] 25))) := bstep Bz3.out (balloc (brefl z3) (.cells #[.int .i64 lo, .int .i64 hi] 25))
              refine hKQ.out _ _ BT (fun hH2 => ?_)
              clear hKQ KQ hHeld
              have hHeld := hH2
              clear hH2
              (try simp only [List.getElem_toArray, List.getElem_cons_succ, List.getElem_cons_zero, Act.put, List.setIfInBounds_toArray, List.set_cons_zero, List.set_cons_succ])
              have Bz4 := Lib.hid BT
              clear BT
              have Nz4 : Hid (Blk ((z3.alloc (.cells #[.int .i64 lo, .int .i64 hi] 25))) (z3.heap.size) [.int .i64 lo, .int .i64 hi]) := Lib.hid (new2 z3 _ _ 25)
              have Rz4 := Lib.hid (Rz3.out.below (balloc (brefl z3) (.cells #[.int .i64 lo, .int .i64 hi] 25)))
              have Xz4 : Hid (Value.ownBlock (.slice pa m pc') ≠ some (z3.heap.size)) := Lib.hid (fun q => by have := (Rz3.out.lt _ q).2; omega)
              have Kz4 := Lib.hid (Kz3.out.below (balloc (brefl z3) (.cells #[.int .i64 lo, .int .i64 hi] 25)))
              have Yz4 := Yz3
              generalize (z3.alloc (.cells #[.int .i64 lo, .int .i64 hi] 25)) = z4 at *
              refine wpAnyH_ready (rs := [5]) (by kernel_rfl) (by simp) (AllReadyH.cons rfl (fun KQ hKQ => ?_) AllReadyH.nil)
              obtain ⟨vp, z5, ra, oa, ba, ga⟩ := appM Rz4.out [⟨lo, hi⟩] ⟨z3.heap.size, 0, none⟩ 1 (blk_cells Nz4.out) Bz4.out.size (by simp [HM.out]; omega) 22
              obtain ⟨qa, qc, rfl⟩ := oa.form
              obtain ⟨lq, hlq⟩ : ∃ n, (L ++ [(⟨lo, hi⟩ : Sn)]).length = n := ⟨_, rfl⟩
              rw [hlq] at ra oa ga
              have HLQ := Lib.hid hlq
              clear hlq
              have RA := Lib.hid ra
              have Rz5 := Lib.hid oa
              have Bz5 := Lib.hid (Bz4.out.trans ba)
              have Kz5 := Lib.hid (ga.blk Kz4.out Yz4.out)
              clear ra oa ba ga
              refine step_append_eqN rfl (.tmp 107) (.tmp 109) 22 rfl _ _ _ _ rfl rfl RA.out ?_
              refine hKQ.out _ _ Bz5.out (fun hH2 => ?_)
              clear hKQ KQ hHeld
              have hHeld := hH2
              clear hH2
              (try simp only [List.getElem_toArray, List.getElem_cons_succ, List.getElem_cons_zero, Act.put, List.setIfInBounds_toArray, List.set_cons_zero, List.set_cons_succ])
              clear RA
              refine wpAnyH_ready (rs := [7]) (by kernel_rfl) (by simp) (AllReadyH.cons rfl (fun KQ hKQ => ?_) AllReadyH.nil)
              have PW := Lib.hid (PM.out z5 _ _ Rz5.out.hs (by rw [HLQ.out, ← HLQ.out, List.length_append, HM.out]; simp; omega))
              rw [huE_at SA.out] at PW
              go_simp
              refine PW.out.mono ?_
              rintro e z6 ⟨rfl, hb⟩
              have Bz6 := Lib.hid (bstep Bz5.out hb)
              have Kz6 := Lib.hid (Kz5.out.below hb)
              clear hb PW
              go_wp2_with fail
              refine hKQ.out _ _ Bz6.out (fun hH2 => ?_)
              clear hKQ KQ hHeld
              have hHeld := hH2
              clear hH2
              (try simp only [List.getElem_toArray, List.getElem_cons_succ, List.getElem_cons_zero, Act.put, List.setIfInBounds_toArray, List.set_cons_zero, List.set_cons_succ])
              refine wpAnyH_take (i := 8) (v := ?_) rfl (by kernel_rfl) (by kernel_rfl) (by kernel_rfl) (fun _ _ _ h => h) (Or.inl ⟨by rfl, ?_⟩) hHeld ?_
              rotate_left
              · ((intro w _; go_simp); try with_reducible rfl)
              (try simp only [List.getElem_toArray, List.getElem_cons_succ, List.getElem_cons_zero, Act.put, List.setIfInBounds_toArray, List.set_cons_zero, List.set_cons_succ])
              refine wpAnyH_take (i := 9) (v := ?_) rfl (by kernel_rfl) (by kernel_rfl) (by kernel_rfl) (fun _ _ _ h => h) (Or.inl ⟨by rfl, ?_⟩) hHeld ?_
              rotate_left
              · ((intro w _; go_simp); try with_reducible rfl)
              (try simp only [List.getElem_toArray, List.getElem_cons_succ, List.getElem_cons_zero, Act.put, List.setIfInBounds_toArray, List.set_cons_zero, List.set_cons_succ])
              refine wpAnyH_take (i := 10) (v := ?_) rfl (by kernel_rfl) (by kernel_rfl) (by kernel_rfl) (fun _ _ _ h => h) (Or.inl ⟨by rfl, ?_⟩) hHeld ?_
              rotate_left
              · ((intro w _; go_simp); try with_reducible rfl)
              (try simp only [List.getElem_toArray, List.getElem_cons_succ, List.getElem_cons_zero, Act.put, List.setIfInBounds_toArray, List.set_cons_zero, List.set_cons_succ])
              refine wpAnyH_ready (rs := [12]) (by kernel_rfl) (by simp) (AllReadyH.cons rfl (fun KQ hKQ => ?_) AllReadyH.nil)
              obtain ⟨p0, p1⟩ := blk2 Kz6.out (brefl _)
              have f0 := (Kz6.out.2 0 _ rfl).2
              have f1 := (Kz6.out.2 1 _ rfl).2
              have Kz7 := Lib.hid (blk_set (blk_set Kz6.out 0 (.int .i64 lo)) 1 (.int .i64 hi))
              have Bz7 := Lib.hid (below_set (below_set Bz6.out (Bz2.out.size) 0 (.int .i64 lo)) (Bz2.out.size) 1 (.int .i64 hi))
              go_simp
              refine hKQ.out _ _ Bz7.out (fun hH2 => ?_)
              clear hKQ KQ hHeld
              have hHeld := hH2
              clear hH2
              (try simp only [List.getElem_toArray, List.getElem_cons_succ, List.getElem_cons_zero, Act.put, List.setIfInBounds_toArray, List.set_cons_zero, List.set_cons_succ])
              refine wpAnyH_take (i := 13) (v := ?_) rfl (by kernel_rfl) (by kernel_rfl) (by kernel_rfl) (fun _ _ _ h => h) (Or.inl ⟨by rfl, ?_⟩) hHeld ?_
              rotate_left
              · ((intro w _; go_simp); try with_reducible rfl)
              (try simp only [List.getElem_toArray, List.getElem_cons_succ, List.getElem_cons_zero, Act.put, List.setIfInBounds_toArray, List.set_cons_zero, List.set_cons_succ])
              refine wpAnyH_done (by kernel_rfl) ?_ _
              go_wp2_with fail
              go_meet
              exact ⟨⟨_, rfl, Kz7.out⟩, rfl, Bz7.out⟩
          · go_simp
            have BT : Below w7.heap.size w7 ((z1.alloc (.cells #[.int .i64 lo, .int .i64 hi] 25))) := bstep Bz1.out (balloc (brefl z1) (.cells #[.int .i64 lo, .int .i64 hi] 25))
            refine hKQ.out _ _ BT (fun hH2 => ?_)
            clear hKQ KQ hHeld
            have hHeld := hH2
            clear hH2
            (try simp only [List.getElem_toArray, List.getElem_cons_succ, List.getElem_cons_zero, Act.put, List.setIfInBounds_toArray, List.set_cons_zero, List.set_cons_succ])
            have Bz2 := Lib.hid BT
            clear BT
            have Nz2 : Hid (Blk ((z1.alloc (.cells #[.int .i64 lo, .int .i64 hi] 25))) (z1.heap.size) [.int .i64 lo, .int .i64 hi]) := Lib.hid (new2 z1 _ _ 25)
            have Rz2 := Lib.hid (Rz1.out.below (balloc (brefl z1) (.cells #[.int .i64 lo, .int .i64 hi] 25)))
            have Xz2 : Hid (Value.ownBlock (.slice (some ⟨w7.heap.size, 0, none⟩) 0 0) ≠ some (z1.heap.size)) := Lib.hid (fun q => by have := (Rz1.out.lt _ q).2; omega)
            generalize (z1.alloc (.cells #[.int .i64 lo, .int .i64 hi] 25)) = z2 at *
            refine wpAnyH_ready (rs := [2, 11]) (by kernel_rfl) (by simp) (AllReadyH.cons rfl (fun KQ hKQ => ?_) (AllReadyH.cons rfl (fun KQ hKQ => ?_) AllReadyH.nil))
            · obtain ⟨vp, z3, ra, oa, ba, ga⟩ := appM Rz2.out L ⟨bl, ol, none⟩ cap (lh_cells (LH.out.below Bz2.out)) Bz2.out.size (by simp [HM.out]; omega) 22
              rw [List.nil_append] at oa
              obtain ⟨pa, pc', rfl⟩ := oa.form
              rw [HM.out] at ra oa ga
              have RA := Lib.hid ra
              have Rz3 := Lib.hid oa
              have Bz3 := Lib.hid (Bz2.out.trans ba)
              have Nz3 := Lib.hid (ga.blk Nz2.out Xz2.out)
              have Xz3 := Lib.hid (ga.not Nz2.out.1 Xz2.out)
              clear ra oa ba ga
              refine step_append_eqN rfl (.tmp 105) (.tmp 106) 22 rfl _ _ _ _ rfl rfl RA.out ?_
              refine hKQ.out _ _ Bz3.out (fun hH2 => ?_)
              clear hKQ KQ hHeld
              have hHeld := hH2
              clear hH2
              (try simp only [List.getElem_toArray, List.getElem_cons_succ, List.getElem_cons_zero, Act.put, List.setIfInBounds_toArray, List.set_cons_zero, List.set_cons_succ])
              clear RA
              refine wpAnyH_ready (rs := [5, 11]) (by kernel_rfl) (by simp) (AllReadyH.cons rfl (fun KQ hKQ => ?_) (AllReadyH.cons rfl (fun KQ hKQ => ?_) AllReadyH.nil))
              · obtain ⟨vp, z4, ra, oa, ba, ga⟩ := appM Rz3.out [⟨lo, hi⟩] ⟨z1.heap.size, 0, none⟩ 1 (blk_cells Nz3.out) Bz3.out.size (by simp [HM.out]; omega) 22
                obtain ⟨qa, qc, rfl⟩ := oa.form
                obtain ⟨lq, hlq⟩ : ∃ n, (L ++ [(⟨lo, hi⟩ : Sn)]).length = n := ⟨_, rfl⟩
                rw [hlq] at ra oa ga
                have HLQ := Lib.hid hlq
                clear hlq
                have RA := Lib.hid ra
                have Rz4 := Lib.hid oa
                have Bz4 := Lib.hid (Bz3.out.trans ba)
                clear ra oa ba ga
                refine step_append_eqN rfl (.tmp 107) (.tmp 109) 22 rfl _ _ _ _ rfl rfl RA.out ?_
                refine hKQ.out _ _ Bz4.out (fun hH2 => ?_)
                clear hKQ KQ hHeld
                have hHeld := hH2
                clear hH2
                (try simp only [List.getElem_toArray, List.getElem_cons_succ, List.getElem_cons_zero, Act.put, List.setIfInBounds_toArray, List.set_cons_zero, List.set_cons_succ])
                clear RA
                refine wpAnyH_ready (rs := [7, 11]) (by kernel_rfl) (by simp) (AllReadyH.cons rfl (fun KQ hKQ => ?_) (AllReadyH.cons rfl (fun KQ hKQ => ?_) AllReadyH.nil))
                · have PW := Lib.hid (PM.out z4 _ _ Rz4.out.hs (by rw [HLQ.out, ← HLQ.out, List.length_append, HM.out]; simp; omega))
                  rw [huE_at SA.out] at PW
                  go_simp
                  refine PW.out.mono ?_
                  rintro e z5 ⟨rfl, hb⟩
                  have Bz5 := Lib.hid (bstep Bz4.out hb)
                  clear hb PW
                  go_wp2_with fail
                  refine hKQ.out _ _ Bz5.out (fun hH2 => ?_)
                  clear hKQ KQ hHeld
                  have hHeld := hH2
                  clear hH2
                  (try simp only [List.getElem_toArray, List.getElem_cons_succ, List.getElem_cons_zero, Act.put, List.setIfInBounds_toArray, List.set_cons_zero, List.set_cons_succ])
                  refine wpAnyH_take (i := 8) (v := ?_) rfl (by kernel_rfl) (by kernel_rfl) (by kernel_rfl) (fun _ _ _ h => h) (Or.inl ⟨by rfl, ?_⟩) hHeld ?_
                  rotate_left
                  · ((intro w _; go_simp); try with_reducible rfl)
                  (try simp only [List.getElem_toArray, List.getElem_cons_succ, List.getElem_cons_zero, Act.put, List.setIfInBounds_toArray, List.set_cons_zero, List.set_cons_succ])
                  refine wpAnyH_take (i := 9) (v := ?_) rfl (by kernel_rfl) (by kernel_rfl) (by kernel_rfl) (fun _ _ _ h => h) (Or.inl ⟨by rfl, ?_⟩) hHeld ?_
                  rotate_left
                  · ((intro w _; go_simp); try with_reducible rfl)
                  (try simp only [List.getElem_toArray, List.getElem_cons_succ, List.getElem_cons_zero, Act.put, List.setIfInBounds_toArray, List.set_cons_zero, List.set_cons_succ])
                  refine wpAnyH_take (i := 10) (v := ?_) rfl (by kernel_rfl) (by kernel_rfl) (by kernel_rfl) (fun _ _ _ h => h) (Or.inl ⟨by rfl, ?_⟩) hHeld ?_
                  rotate_left
                  · ((intro w _; go_simp); try with_reducible rfl)
                  (try simp only [List.getElem_toArray, List.getElem_cons_succ, List.getElem_cons_zero, Act.put, List.setIfInBounds_toArray, List.set_cons_zero, List.set_cons_succ])
                  refine wpAnyH_ready (rs := [11]) (by kernel_rfl) (by simp) (AllReadyH.cons rfl (fun KQ hKQ => ?_) AllReadyH.nil)
                  go_simp
                  have BT : Below w7.heap.size w7 ((z5.alloc (.cells #[.int .i64 0, .int .i64 0] 25))) := bstep Bz5.out (balloc (brefl z5) (.cells #[.int .i64 0, .int .i64 0] 25))
                  refine hKQ.out _ _ BT (fun hH2 => ?_)
                  clear hKQ KQ hHeld
                  have hHeld := hH2
                  clear hH2
                  (try simp only [List.getElem_toArray, List.getElem_cons_succ, List.getElem_cons_zero, Act.put, List.setIfInBounds_toArray, List.set_cons_zero, List.set_cons_succ])
                  have Bz6 := Lib.hid BT
                  clear BT
                  have Kz6 : Hid (Blk ((z5.alloc (.cells #[.int .i64 0, .int .i64 0] 25))) (z5.heap.size) [.int .i64 0, .int .i64 0]) := Lib.hid (new2 z5 _ _ 25)
                  generalize (z5.alloc (.cells #[.int .i64 0, .int .i64 0] 25)) = z6 at *
                  refine wpAnyH_ready (rs := [12]) (by kernel_rfl) (by simp) (AllReadyH.cons rfl (fun KQ hKQ => ?_) AllReadyH.nil)
                  obtain ⟨p0, p1⟩ := blk2 Kz6.out (brefl _)
                  have f0 := (Kz6.out.2 0 _ rfl).2
                  have f1 := (Kz6.out.2 1 _ rfl).2
                  have Kz7 := Lib.hid (blk_set (blk_set Kz6.out 0 (.int .i64 lo)) 1 (.int .i64 hi))
                  have Bz7 := Lib.hid (below_set (below_set Bz6.out (Bz5.out.size) 0 (.int .i64 lo)) (Bz5.out.size) 1 (.int .i64 hi))
                  go_simp
                  refine hKQ.out _ _ Bz7.out (fun hH2 => ?_)
                  clear hKQ KQ hHeld
                  have hHeld := hH2
                  clear hH2
                  (try simp only [List.getElem_toArray, List.getElem_cons_succ, List.getElem_cons_zero, Act.put, List.setIfInBounds_toArray, List.set_cons_zero, List.set_cons_succ])
                  refine wpAnyH_take (i := 13) (v := ?_) rfl (by kernel_rfl) (by kernel_rfl) (by kernel_rfl) (fun _ _ _ h => h) (Or.inl ⟨by rfl, ?_⟩) hHeld ?_
                  rotate_left
                  · ((intro w _; go_simp); try with_reducible rfl)
                  (try simp only [List.getElem_toArray, List.getElem_cons_succ, List.getElem_cons_zero, Act.put, List.setIfInBounds_toArray, List.set_cons_zero, List.set_cons_succ])
                  refine wpAnyH_done (by kernel_rfl) ?_ _
                  go_wp2_with fail
                  go_meet
                  exact ⟨⟨_, rfl, Kz7.out⟩, rfl, Bz7.out⟩
                · go_simp
                  have BT : Below w7.heap.size w7 ((z4.alloc (.cells #[.int .i64 0, .int .i64 0] 25))) := bstep Bz4.out (balloc (brefl z4) (.cells #[.int .i64 0, .int .i64 0] 25))
                  refine hKQ.out _ _ BT (fun hH2 => ?_)
                  clear hKQ KQ hHeld
                  have hHeld := hH2
                  clear hH2
                  (try simp only [List.getElem_toArray, List.getElem_cons_succ, List.getElem_cons_zero, Act.put, List.setIfInBounds_toArray, List.set_cons_zero, List.set_cons_succ])
                  have Bz5 := Lib.hid BT
                  clear BT
                  have Kz5 : Hid (Blk ((z4.alloc (.cells #[.int .i64 0, .int .i64 0] 25))) (z4.heap.size) [.int .i64 0, .int .i64 0]) := Lib.hid (new2 z4 _ _ 25)
                  have Rz5 := Lib.hid (Rz4.out.below (balloc (brefl z4) (.cells #[.int .i64 0, .int .i64 0] 25)))
                  generalize (z4.alloc (.cells #[.int .i64 0, .int .i64 0] 25)) = z5 at *
                  refine wpAnyH_ready (rs := [7]) (by kernel_rfl) (by simp) (AllReadyH.cons rfl (fun KQ hKQ => ?_) AllReadyH.nil)
                  have PW := Lib.hid (PM.out z5 _ _ Rz5.out.hs (by rw [HLQ.out, ← HLQ.out, List.length_append, HM.out]; simp; omega))
                  rw [huE_at SA.out] at PW
                  go_simp
                  refine PW.out.mono ?_
                  rintro e z6 ⟨rfl, hb⟩
                  have Bz6 := Lib.hid (bstep Bz5.out hb)
                  have Kz6 := Lib.hid (Kz5.out.below hb)
                  clear hb PW
                  go_wp2_with fail
                  refine hKQ.out _ _ Bz6.out (fun hH2 => ?_)
                  clear hKQ KQ hHeld
                  have hHeld := hH2
                  clear hH2
                  (try simp only [List.getElem_toArray, List.getElem_cons_succ, List.getElem_cons_zero, Act.put, List.setIfInBounds_toArray, List.set_cons_zero, List.set_cons_succ])
                  refine wpAnyH_take (i := 8) (v := ?_) rfl (by kernel_rfl) (by kernel_rfl) (by kernel_rfl) (fun _ _ _ h => h) (Or.inl ⟨by rfl, ?_⟩) hHeld ?_
                  rotate_left
                  · ((intro w _; go_simp); try with_reducible rfl)
                  (try simp only [List.getElem_toArray, List.getElem_cons_succ, List.getElem_cons_zero, Act.put, List.setIfInBounds_toArray, List.set_cons_zero, List.set_cons_succ])
                  refine wpAnyH_take (i := 9) (v := ?_) rfl (by kernel_rfl) (by kernel_rfl) (by kernel_rfl) (fun _ _ _ h => h) (Or.inl ⟨by rfl, ?_⟩) hHeld ?_
                  rotate_left
                  · ((intro w _; go_simp); try with_reducible rfl)
                  (try simp only [List.getElem_toArray, List.getElem_cons_succ, List.getElem_cons_zero, Act.put, List.setIfInBounds_toArray, List.set_cons_zero, List.set_cons_succ])
                  refine wpAnyH_take (i := 10) (v := ?_) rfl (by kernel_rfl) (by kernel_rfl) (by kernel_rfl) (fun _ _ _ h => h) (Or.inl ⟨by rfl, ?_⟩) hHeld ?_
                  rotate_left
                  · ((intro w _; go_simp); try with_reducible rfl)
                  (try simp only [List.getElem_toArray, List.getElem_cons_succ, List.getElem_cons_zero, Act.put, List.setIfInBounds_toArray, List.set_cons_zero, List.set_cons_succ])
                  refine wpAnyH_ready (rs := [12]) (by kernel_rfl) (by simp) (AllReadyH.cons rfl (fun KQ hKQ => ?_) AllReadyH.nil)
                  obtain ⟨p0, p1⟩ := blk2 Kz6.out (brefl _)
                  have f0 := (Kz6.out.2 0 _ rfl).2
                  have f1 := (Kz6.out.2 1 _ rfl).2
                  have Kz7 := Lib.hid (blk_set (blk_set Kz6.out 0 (.int .i64 lo)) 1 (.int .i64 hi))
                  have Bz7 := Lib.hid (below_set (below_set Bz6.out (Bz4.out.size) 0 (.int .i64 lo)) (Bz4.out.size) 1 (.int .i64 hi))
                  go_simp
                  refine hKQ.out _ _ Bz7.out (fun hH2 => ?_)
                  clear hKQ KQ hHeld
                  have hHeld := hH2
                  clear hH2
                  (try simp only [List.getElem_toArray, List.getElem_cons_succ, List.getElem_cons_zero, Act.put, List.setIfInBounds_toArray, List.set_cons_zero, List.set_cons_succ])
                  refine wpAnyH_take (i := 13) (v := ?_) rfl (by kernel_rfl) (by kernel_rfl) (by kernel_rfl) (fun _ _ _ h => h) (Or.inl ⟨by rfl, ?_⟩) hHeld ?_
                  rotate_left
                  · ((intro w _; go_simp); try with_reducible rfl)
                  (try simp only [List.getElem_toArray, List.getElem_cons_succ, List.getElem_cons_zero, Act.put, List.setIfInBounds_toArray, List.set_cons_zero, List.set_cons_succ])
                  refine wpAnyH_done (by kernel_rfl) ?_ _
                  go_wp2_with fail
                  go_meet
                  exact ⟨⟨_, rfl, Kz7.out⟩, rfl, Bz7.out⟩
              · go_simp
                have BT : Below w7.heap.size w7 ((z3.alloc (.cells #[.int .i64 0, .int .i64 0] 25))) := bstep Bz3.out (balloc (brefl z3) (.cells #[.int .i64 0, .int .i64 0] 25))
                refine hKQ.out _ _ BT (fun hH2 => ?_)
                clear hKQ KQ hHeld
                have hHeld := hH2
                clear hH2
                (try simp only [List.getElem_toArray, List.getElem_cons_succ, List.getElem_cons_zero, Act.put, List.setIfInBounds_toArray, List.set_cons_zero, List.set_cons_succ])
                have Bz4 := Lib.hid BT
                clear BT
                have Kz4 : Hid (Blk ((z3.alloc (.cells #[.int .i64 0, .int .i64 0] 25))) (z3.heap.size) [.int .i64 0, .int .i64 0]) := Lib.hid (new2 z3 _ _ 25)
                have Rz4 := Lib.hid (Rz3.out.below (balloc (brefl z3) (.cells #[.int .i64 0, .int .i64 0] 25)))
                have Yz4 : Hid (Value.ownBlock (.slice pa m pc') ≠ some (z3.heap.size)) := Lib.hid (fun q => by have := (Rz3.out.lt _ q).2; omega)
                have Nz4 := Lib.hid (Nz3.out.below (balloc (brefl z3) (.cells #[.int .i64 0, .int .i64 0] 25)))
                have Xz4 := Xz3
                generalize (z3.alloc (.cells #[.int .i64 0, .int .i64 0] 25)) = z4 at *
                refine wpAnyH_ready (rs := [5]) (by kernel_rfl) (by simp) (AllReadyH.cons rfl (fun KQ hKQ => ?_) AllReadyH.nil)
                obtain ⟨vp, z5, ra, oa, ba, ga⟩ := appM Rz4.out [⟨lo, hi⟩] ⟨z1.heap.size, 0, none⟩ 1 (blk_cells Nz4.out) Bz4.out.size (by simp [HM.out]; omega) 22
                obtain ⟨qa, qc, rfl⟩ := oa.form
                obtain ⟨lq, hlq⟩ : ∃ n, (L ++ [(⟨lo, hi⟩ : Sn)]).length = n := ⟨_, rfl⟩
                rw [hlq] at ra oa ga
                have HLQ := Lib.hid hlq
                clear hlq
                have RA := Lib.hid ra
                have Rz5 := Lib.hid oa
                have Bz5 := Lib.hid (Bz4.out.trans ba)
                have Kz5 := Lib.hid (ga.blk Kz4.out Yz4.out)
                clear ra oa ba ga
                refine step_append_eqN rfl (.tmp 107) (.tmp 109) 22 rfl _ _ _ _ rfl rfl RA.out ?_
                refine hKQ.out _ _ Bz5.out (fun hH2 => ?_)
                clear hKQ KQ hHeld
                have hHeld := hH2
                clear hH2
                (try simp only [List.getElem_toArray, List.getElem_cons_succ, List.getElem_cons_zero, Act.put, List.setIfInBounds_toArray, List.set_cons_zero, List.set_cons_succ])
                clear RA
                refine wpAnyH_ready (rs := [7]) (by kernel_rfl) (by simp) (AllReadyH.cons rfl (fun KQ hKQ => ?_) AllReadyH.nil)
                have PW := Lib.hid (PM.out z5 _ _ Rz5.out.hs (by rw [HLQ.out, ← HLQ.out, List.length_append, HM.out]; simp; omega))
                rw [huE_at SA.out] at PW
                go_simp
                refine PW.out.mono ?_
                rintro e z6 ⟨rfl, hb⟩
                have Bz6 := Lib.hid (bstep Bz5.out hb)
                have Kz6 := Lib.hid (Kz5.out.below hb)
                clear hb PW
                go_wp2_with fail
                refine hKQ.out _ _ Bz6.out (fun hH2 => ?_)
                clear hKQ KQ hHeld
                have hHeld := hH2
                clear hH2
                (try simp only [List.getElem_toArray, List.getElem_cons_succ, List.getElem_cons_zero, Act.put, List.setIfInBounds_toArray, List.set_cons_zero, List.set_cons_succ])
                refine wpAnyH_take (i := 8) (v := ?_) rfl (by kernel_rfl) (by kernel_rfl) (by kernel_rfl) (fun _ _ _ h => h) (Or.inl ⟨by rfl, ?_⟩) hHeld ?_
                rotate_left
                · ((intro w _; go_simp); try with_reducible rfl)
                (try simp only [List.getElem_toArray, List.getElem_cons_succ, List.getElem_cons_zero, Act.put, List.setIfInBounds_toArray, List.set_cons_zero, List.set_cons_succ])
                refine wpAnyH_take (i := 9) (v := ?_) rfl (by kernel_rfl) (by kernel_rfl) (by kernel_rfl) (fun _ _ _ h => h) (Or.inl ⟨by rfl, ?_⟩) hHeld ?_
                rotate_left
                · ((intro w _; go_simp); try with_reducible rfl)
                (try simp only [List.getElem_toArray, List.getElem_cons_succ, List.getElem_cons_zero, Act.put, List.setIfInBounds_toArray, List.set_cons_zero, List.set_cons_succ])
                refine wpAnyH_take (i := 10) (v := ?_) rfl (by kernel_rfl) (by kernel_rfl) (by kernel_rfl) (fun _ _ _ h => h) (Or.inl ⟨by rfl, ?_⟩) hHeld ?_
                rotate_left
                · ((intro w _; go_simp); try with_reducible rfl)
                (try simp only [List.getElem_toArray, List.getElem_cons_succ, List.getElem_cons_zero, Act.put, List.setIfInBounds_toArray, List.set_cons_zero, List.set_cons_succ])
                refine wpAnyH_ready (rs := [12]) (by kernel_rfl) (by simp) (AllReadyH.cons rfl (fun KQ hKQ => ?_) AllReadyH.nil)
                obtain ⟨p0, p1⟩ := blk2 Kz6.out (brefl _)
                have f0 := (Kz6.out.2 0 _ rfl).2
                have f1 := (Kz6.out.2 1 _ rfl).2
                have Kz7 := Lib.hid (blk_set (blk_set Kz6.out 0 (.int .i64 lo)) 1 (.int .i64 hi))
                have Bz7 := Lib.hid (below_set (below_set Bz6.out (Bz3.out.size) 0 (.int .i64 lo)) (Bz3.out.size) 1 (.int .i64 hi))
                go_simp
                refine hKQ.out _ _ Bz7.out (fun hH2 => ?_)
                clear hKQ KQ hHeld
                have hHeld := hH2
                clear hH2
                (try simp only [List.getElem_toArray, List.getElem_cons_succ, List.getElem_cons_zero, Act.put, List.setIfInBounds_toArray, List.set_cons_zero, List.set_cons_succ])
                refine wpAnyH_take (i := 13) (v := ?_) rfl (by kernel_rfl) (by kernel_rfl) (by kernel_rfl) (fun _ _ _ h => h) (Or.inl ⟨by rfl, ?_⟩) hHeld ?_
                rotate_left
                · ((intro w _; go_simp); try with_reducible rfl)
                (try simp only [List.getElem_toArray, List.getElem_cons_succ, List.getElem_cons_zero, Act.put, List.setIfInBounds_toArray, List.set_cons_zero, List.set_cons_succ])
                refine wpAnyH_done (by kernel_rfl) ?_ _
                go_wp2_with fail
                go_meet
                exact ⟨⟨_, rfl, Kz7.out⟩, rfl, Bz7.out⟩
            · go_simp
              have BT : Below w7.heap.size w7 ((z2.alloc (.cells #[.int .i64 0, .int .i64 0] 25))) := bstep Bz2.out (balloc (brefl z2) (.cells #[.int .i64 0, .int .i64 0] 25))
              refine hKQ.out _ _ BT (fun hH2 => ?_)
              clear hKQ KQ hHeld
              have hHeld := hH2
              clear hH2
              (try simp only [List.getElem_toArray, List.getElem_cons_succ, List.getElem_cons_zero, Act.put, List.setIfInBounds_toArray, List.set_cons_zero, List.set_cons_succ])
              have Bz3 := Lib.hid BT
              clear BT
              have Kz3 : Hid (Blk ((z2.alloc (.cells #[.int .i64 0, .int .i64 0] 25))) (z2.heap.size) [.int .i64 0, .int .i64 0]) := Lib.hid (new2 z2 _ _ 25)
              have Rz3 := Lib.hid (Rz2.out.below (balloc (brefl z2) (.cells #[.int .i64 0, .int .i64 0] 25)))
              have Yz3 : Hid (Value.ownBlock (.slice (some ⟨w7.heap.size, 0, none⟩) 0 0) ≠ some (z2.heap.size)) := Lib.hid (fun q => by have := (Rz2.out.lt _ q).2; omega)
              have Nz3 := Lib.hid (Nz2.out.below (balloc (brefl z2) (.cells #[.int .i64 0, .int .i64 0] 25)))
              have Xz3 := Xz2
              generalize (z2.alloc (.cells #[.int .i64 0, .int .i64 0] 25)) = z3 at *
              refine wpAnyH_ready (rs := [2]) (by kernel_rfl) (by simp) (AllReadyH.cons rfl (fun KQ hKQ => ?_) AllReadyH.nil)
              obtain ⟨vp, z4, ra, oa, ba, ga⟩ := appM Rz3.out L ⟨bl, ol, none⟩ cap (lh_cells (LH.out.below Bz3.out)) Bz3.out.size (by simp [HM.out]; omega) 22
              rw [List.nil_append] at oa
              obtain ⟨pa, pc', rfl⟩ := oa.form
              rw [HM.out] at ra oa ga
              have RA := Lib.hid ra
              have Rz4 := Lib.hid oa
              have Bz4 := Lib.hid (Bz3.out.trans ba)
              have Nz4 := Lib.hid (ga.blk Nz3.out Xz3.out)
              have Xz4 := Lib.hid (ga.not Nz3.out.1 Xz3.out)
              have Kz4 := Lib.hid (ga.blk Kz3.out Yz3.out)
              have Yz4 := Lib.hid (ga.not Kz3.out.1 Yz3.out)
              clear ra oa ba ga
              refine step_append_eqN rfl (.tmp 105) (.tmp 106) 22 rfl _ _ _ _ rfl rfl RA.out ?_
              refine hKQ.out _ _ Bz4.out (fun hH2 => ?_)
              clear hKQ KQ hHeld
              have hHeld := hH2
              clear hH2
              (try simp only [List.getElem_toArray, List.getElem_cons_succ, List.getElem_cons_zero, Act.put, List.setIfInBounds_toArray, List.set_cons_zero, List.set_cons_succ])
              clear RA
              refine wpAnyH_ready (rs := [5]) (by kernel_rfl) (by simp) (AllReadyH.cons rfl (fun KQ hKQ => ?_) AllReadyH.nil)
              obtain ⟨vp, z5, ra, oa, ba, ga⟩ := appM Rz4.out [⟨lo, hi⟩] ⟨z1.heap.size, 0, none⟩ 1 (blk_cells Nz4.out) Bz4.out.size (by simp [HM.out]; omega) 22
              obtain ⟨qa, qc, rfl⟩ := oa.form
              obtain ⟨lq, hlq⟩ : ∃ n, (L ++ [(⟨lo, hi⟩ : Sn)]).length = n := ⟨_, rfl⟩
              rw [hlq] at ra oa ga
              have HLQ := Lib.hid hlq
              clear hlq
              have RA := Lib.hid ra
              have Rz5 := Lib.hid oa
              have Bz5 := Lib.hid (Bz4.out.trans ba)
              have Kz5 := Lib.hid (ga.blk Kz4.out Yz4.out)
              clear ra oa ba ga
              refine step_append_eqN rfl (.tmp 107) (.tmp 109) 22 rfl _ _ _ _ rfl rfl RA.out ?_
              refine hKQ.out _ _ Bz5.out (fun hH2 => ?_)
              clear hKQ KQ hHeld
              have hHeld := hH2
              clear hH2
              (try simp only [List.getElem_toArray, List.getElem_cons_succ, List.getElem_cons_zero, Act.put, List.setIfInBounds_toArray, List.set_cons_zero, List.set_cons_succ])
              clear RA
              refine wpAnyH_ready (rs := [7]) (by kernel_rfl) (by simp) (AllReadyH.cons rfl (fun KQ hKQ => ?_) AllReadyH.nil)
              have PW := Lib.hid (PM.out z5 _ _ Rz5.out.hs (by rw [HLQ.out, ← HLQ.out, List.length_append, HM.out]; simp; omega))
              rw [huE_at SA.out] at PW
              go_simp
              refine PW.out.mono ?_
              rintro e z6 ⟨rfl, hb⟩
              have Bz6 := Lib.hid (bstep Bz5.out hb)
              have Kz6 := Lib.hid (Kz5.out.below hb)
              clear hb PW
              go_wp2_with fail
              refine hKQ.out _ _ Bz6.out (fun hH2 => ?_)
              clear hKQ KQ hHeld
              have hHeld := hH2
              clear hH2
              (try simp only [List.getElem_toArray, List.getElem_cons_succ, List.getElem_cons_zero, Act.put, List.setIfInBounds_toArray, List.set_cons_zero, List.set_cons_succ])
              refine wpAnyH_take (i := 8) (v := ?_) rfl (by kernel_rfl) (by kernel_rfl) (by kernel_rfl) (fun _ _ _ h => h) (Or.inl ⟨by rfl, ?_⟩) hHeld ?_
              rotate_left
              · ((intro w _; go_simp); try with_reducible rfl)
              (try simp only [List.getElem_toArray, List.getElem_cons_succ, List.getElem_cons_zero, Act.put, List.setIfInBounds_toArray, List.set_cons_zero, List.set_cons_succ])
              refine wpAnyH_take (i := 9) (v := ?_) rfl (by kernel_rfl) (by kernel_rfl) (by kernel_rfl) (fun _ _ _ h => h) (Or.inl ⟨by rfl, ?_⟩) hHeld ?_
              rotate_left
              · ((intro w _; go_simp); try with_reducible rfl)
              (try simp only [List.getElem_toArray, List.getElem_cons_succ, List.getElem_cons_zero, Act.put, List.setIfInBounds_toArray, List.set_cons_zero, List.set_cons_succ])
              refine wpAnyH_take (i := 10) (v := ?_) rfl (by kernel_rfl) (by kernel_rfl) (by kernel_rfl) (fun _ _ _ h => h) (Or.inl ⟨by rfl, ?_⟩) hHeld ?_
              rotate_left
              · ((intro w _; go_simp); try with_reducible rfl)
              (try simp only [List.getElem_toArray, List.getElem_cons_succ, List.getElem_cons_zero, Act.put, List.setIfInBounds_toArray, List.set_cons_zero, List.set_cons_succ])
              refine wpAnyH_ready (rs := [12]) (by kernel_rfl) (by simp) (AllReadyH.cons rfl (fun KQ hKQ => ?_) AllReadyH.nil)
              obtain ⟨p0, p1⟩ := blk2 Kz6.out (brefl _)
              have f0 := (Kz6.out.2 0 _ rfl).2
              have f1 := (Kz6.out.2 1 _ rfl).2
              have Kz7 := Lib.hid (blk_set (blk_set Kz6.out 0 (.int .i64 lo)) 1 (.int .i64 hi))
              have Bz7 := Lib.hid (below_set (below_set Bz6.out (Bz2.out.size) 0 (.int .i64 lo)) (Bz2.out.size) 1 (.int .i64 hi))
              go_simp
              refine hKQ.out _ _ Bz7.out (fun hH2 => ?_)
              clear hKQ KQ hHeld
              have hHeld := hH2
              clear hH2
              (try simp only [List.getElem_toArray, List.getElem_cons_succ, List.getElem_cons_zero, Act.put, List.setIfInBounds_toArray, List.set_cons_zero, List.set_cons_succ])
              refine wpAnyH_take (i := 13) (v := ?_) rfl (by kernel_rfl) (by kernel_rfl) (by kernel_rfl) (fun _ _ _ h => h) (Or.inl ⟨by rfl, ?_⟩) hHeld ?_
              rotate_left
              · ((intro w _; go_simp); try with_reducible rfl)
              (try simp only [List.getElem_toArray, List.getElem_cons_succ, List.getElem_cons_zero, Act.put, List.setIfInBounds_toArray, List.set_cons_zero, List.set_cons_succ])
              refine wpAnyH_done (by kernel_rfl) ?_ _
              go_wp2_with fail
              go_meet
              exact ⟨⟨_, rfl, Kz7.out⟩, rfl, Bz7.out⟩
          · go_simp
            have BT : Below w7.heap.size w7 ((z1.alloc (.cells #[.int .i64 0, .int .i64 0] 25))) := bstep Bz1.out (balloc (brefl z1) (.cells #[.int .i64 0, .int .i64 0] 25))
            refine hKQ.out _ _ BT (fun hH2 => ?_)
            clear hKQ KQ hHeld
            have hHeld := hH2
            clear hH2
            (try simp only [List.getElem_toArray, List.getElem_cons_succ, List.getElem_cons_zero, Act.put, List.setIfInBounds_toArray, List.set_cons_zero, List.set_cons_succ])
            have Bz2 := Lib.hid BT
            clear BT
            have Kz2 : Hid (Blk ((z1.alloc (.cells #[.int .i64 0, .int .i64 0] 25))) (z1.heap.size) [.int .i64 0, .int .i64 0]) := Lib.hid (new2 z1 _ _ 25)
            have Rz2 := Lib.hid (Rz1.out.below (balloc (brefl z1) (.cells #[.int .i64 0, .int .i64 0] 25)))
            have Yz2 : Hid (Value.ownBlock (.slice (some ⟨w7.heap.size, 0, none⟩) 0 0) ≠ some (z1.heap.size)) := Lib.hid (fun q => by have := (Rz1.out.lt _ q).2; omega)
            generalize (z1.alloc (.cells #[.int .i64 0, .int .i64 0] 25)) = z2 at *
            refine wpAnyH_ready (rs := [2, 4]) (by kernel_rfl) (by simp) (AllReadyH.cons rfl (fun KQ hKQ => ?_) (AllReadyH.cons rfl (fun KQ hKQ => ?_) AllReadyH.nil))
            · obtain ⟨vp, z3, ra, oa, ba, ga⟩ := appM Rz2.out L ⟨bl, ol, none⟩ cap (lh_cells (LH.out.below Bz2.out)) Bz2.out.size (by simp [HM.out]; omega) 22
              rw [List.nil_append] at oa
              obtain ⟨pa, pc', rfl⟩ := oa.form
              rw [HM.out] at ra oa ga
              have RA := Lib.hid ra
              have Rz3 := Lib.hid oa
              have Bz3 := Lib.hid (Bz2.out.trans ba)
              have Kz3 := Lib.hid (ga.blk Kz2.out Yz2.out)
              have Yz3 := Lib.hid (ga.not Kz2.out.1 Yz2.out)
              clear ra oa ba ga
              refine step_append_eqN rfl (.tmp 105) (.tmp 106) 22 rfl _ _ _ _ rfl rfl RA.out ?_
              refine hKQ.out _ _ Bz3.out (fun hH2 => ?_)
              clear hKQ KQ hHeld
              have hHeld := hH2
              clear hH2
              (try simp only [List.getElem_toArray, List.getElem_cons_succ, List.getElem_cons_zero, Act.put, List.setIfInBounds_toArray, List.set_cons_zero, List.set_cons_succ])
              clear RA
              refine wpAnyH_ready (rs := [4]) (by kernel_rfl) (by simp) (AllReadyH.cons rfl (fun KQ hKQ => ?_) AllReadyH.nil)
              go_simp
              have BT : Below w7.heap.size w7 ((z3.alloc (.cells #[.int .i64 lo, .int .i64 hi] 25))) := bstep Bz3.out (balloc (brefl z3) (.cells #[.int .i64 lo, .int .i64 hi] 25))
              refine hKQ.out _ _ BT (fun hH2 => ?_)
              clear hKQ KQ hHeld
              have hHeld := hH2
              clear hH2
              (try simp only [List.getElem_toArray, List.getElem_cons_succ, List.getElem_cons_zero, Act.put, List.setIfInBounds_toArray, List.set_cons_zero, List.set_cons_succ])
              have Bz4 := Lib.hid BT
              clear BT
              have Nz4 : Hid (Blk ((z3.alloc (.cells #[.int .i64 lo, .int .i64 hi] 25))) (z3.heap.size) [.int .i64 lo, .int .i64 hi]) := Lib.hid (new2 z3 _ _ 25)
              have Rz4 := Lib.hid (Rz3.out.below (balloc (brefl z3) (.cells #[.int .i64 lo, .int .i64 hi] 25)))
              have Xz4 : Hid (Value.ownBlock (.slice pa m pc') ≠ some (z3.heap.size)) := Lib.hid (fun q => by have := (Rz3.out.lt _ q).2; omega)
              have Kz4 := Lib.hid (Kz3.out.below (balloc (brefl z3) (.cells #[.int .i64 lo, .int .i64 hi] 25)))
              have Yz4 := Yz3
              generalize (z3.alloc (.cells #[.int .i64 lo, .int .i64 hi] 25)) = z4 at *
              refine wpAnyH_ready (rs := [5]) (by kernel_rfl) (by simp) (AllReadyH.cons rfl (fun KQ hKQ => ?_) AllReadyH.nil)
              obtain ⟨vp, z5, ra, oa, ba, ga⟩ := appM Rz4.out [⟨lo, hi⟩] ⟨z3.heap.size, 0, none⟩ 1 (blk_cells Nz4.out) Bz4.out.size (by simp [HM.out]; omega) 22
              obtain ⟨qa, qc, rfl⟩ := oa.form
              obtain ⟨lq, hlq⟩ : ∃ n, (L ++ [(⟨lo, hi⟩ : Sn)]).length = n := ⟨_, rfl⟩
              rw [hlq] at ra oa ga
              have HLQ := Lib.hid hlq
              clear hlq
              have RA := Lib.hid ra
              have Rz5 := Lib.hid oa
              have Bz5 := Lib.hid (Bz4.out.trans ba)
              have Kz5 := Lib.hid (ga.blk Kz4.out Yz4.out)
              clear ra oa ba ga
              refine step_append_eqN rfl (.tmp 107) (.tmp 109) 22 rfl _ _ _ _ rfl rfl RA.out ?_
              refine hKQ.out _ _ Bz5.out (fun hH2 => ?_)
              clear hKQ KQ hHeld
              have hHeld := hH2
              clear hH2
              (try simp only [List.getElem_toArray, List.getElem_cons_succ, List.getElem_cons_zero, Act.put, List.setIfInBounds_toArray, List.set_cons_zero, List.set_cons_succ])
              clear RA
              refine wpAnyH_ready (rs := [7]) (by kernel_rfl) (by simp) (AllReadyH.cons rfl (fun KQ hKQ => ?_) AllReadyH.nil)
              have PW := Lib.hid (PM.out z5 _ _ Rz5.out.hs (by rw [HLQ.out, ← HLQ.out, List.length_append, HM.out]; simp; omega))
              rw [huE_at SA.out] at PW
              go_simp
              refine PW.out.mono ?_
              rintro e z6 ⟨rfl, hb⟩
              have Bz6 := Lib.hid (bstep Bz5.out hb)
              have Kz6 := Lib.hid (Kz5.out.below hb)
              clear hb PW
              go_wp2_with fail
              refine hKQ.out _ _ Bz6.out (fun hH2 => ?_)
              clear hKQ KQ hHeld
              have hHeld := hH2
              clear hH2
              (try simp only [List.getElem_toArray, List.getElem_cons_succ, List.getElem_cons_zero, Act.put, List.setIfInBounds_toArray, List.set_cons_zero, List.set_cons_succ])
              refine wpAnyH_take (i := 8) (v := ?_) rfl (by kernel_rfl) (by kernel_rfl) (by kernel_rfl) (fun _ _ _ h => h) (Or.inl ⟨by rfl, ?_⟩) hHeld ?_
              rotate_left
              · ((intro w _; go_simp); try with_reducible rfl)
              (try simp only [List.getElem_toArray, List.getElem_cons_succ, List.getElem_cons_zero, Act.put, List.setIfInBounds_toArray, List.set_cons_zero, List.set_cons_succ])
              refine wpAnyH_take (i := 9) (v := ?_) rfl (by kernel_rfl) (by kernel_rfl) (by kernel_rfl) (fun _ _ _ h => h) (Or.inl ⟨by rfl, ?_⟩) hHeld ?_
              rotate_left
              · ((intro w _; go_simp); try with_reducible rfl)
              (try simp only [List.getElem_toArray, List.getElem_cons_succ, List.getElem_cons_zero, Act.put, List.setIfInBounds_toArray, List.set_cons_zero, List.set_cons_succ])
              refine wpAnyH_take (i := 10) (v := ?_) rfl (by kernel_rfl) (by kernel_rfl) (by kernel_rfl) (fun _ _ _ h => h) (Or.inl ⟨by rfl, ?_⟩) hHeld ?_
              rotate_left
              · ((intro w _; go_simp); try with_reducible rfl)
              (try simp only [List.getElem_toArray, List.getElem_cons_succ, List.getElem_cons_zero, Act.put, List.setIfInBounds_toArray, List.set_cons_zero, List.set_cons_succ])
              refine wpAnyH_ready (rs := [12]) (by kernel_rfl) (by simp) (AllReadyH.cons rfl (fun KQ hKQ => ?_) AllReadyH.nil)
              obtain ⟨p0, p1⟩ := blk2 Kz6.out (brefl _)
              have f0 := (Kz6.out.2 0 _ rfl).2
              have f1 := (Kz6.out.2 1 _ rfl).2
              have Kz7 := Lib.hid (blk_set (blk_set Kz6.out 0 (.int .i64 lo)) 1 (.int .i64 hi))
              have Bz7 := Lib.hid (below_set (below_set Bz6.out (Bz1.out.size) 0 (.int .i64 lo)) (Bz1.out.size) 1 (.int .i64 hi))
              go_simp
              refine hKQ.out _ _ Bz7.out (fun hH2 => ?_)
              clear hKQ KQ hHeld
              have hHeld := hH2
              clear hH2
              (try simp only [List.getElem_toArray, List.getElem_cons_succ, List.getElem_cons_zero, Act.put, List.setIfInBounds_toArray, List.set_cons_zero, List.set_cons_succ])
              refine wpAnyH_take (i := 13) (v := ?_) rfl (by kernel_rfl) (by kernel_rfl) (by kernel_rfl) (fun _ _ _ h => h) (Or.inl ⟨by rfl, ?_⟩) hHeld ?_
              rotate_left
              · ((intro w _; go_simp); try with_reducible rfl)
              (try simp only [List.getElem_toArray, List.getElem_cons_succ, List.getElem_cons_zero, Act.put, List.setIfInBounds_toArray, List.set_cons_zero, List.set_cons_succ])
              refine wpAnyH_done (by kernel_rfl) ?_ _
              go_wp2_with fail
              go_meet
              exact ⟨⟨_, rfl, Kz7.out⟩, rfl, Bz7.out⟩
            · go_simp
              have BT : Below w7.heap.size w7 ((z2.alloc (.cells #[.int .i64 lo, .int .i64 hi] 25))) := bstep Bz2.out (balloc (brefl z2) (.cells #[.int .i64 lo, .int .i64 hi] 25))
              refine hKQ.out _ _ BT (fun hH2 => ?_)
              clear hKQ KQ hHeld
              have hHeld := hH2
              clear hH2
              (try simp only [List.getElem_toArray, List.getElem_cons_succ, List.getElem_cons_zero, Act.put, List.setIfInBounds_toArray, List.set_cons_zero, List.set_cons_succ])
              have Bz3 := Lib.hid BT
              clear BT
              have Nz3 : Hid (Blk ((z2.alloc (.cells #[.int .i64 lo, .int .i64 hi] 25))) (z2.heap.size) [.int .i64 lo, .int .i64 hi]) := Lib.hid (new2 z2 _ _ 25)
              have Rz3 := Lib.hid (Rz2.out.below (balloc (brefl z2) (.cells #[.int .i64 lo, .int .i64 hi] 25)))
              have Xz3 : Hid (Value.ownBlock (.slice (some ⟨w7.heap.size, 0, none⟩) 0 0) ≠ some (z2.heap.size)) := Lib.hid (fun q => by have := (Rz2.out.lt _ q).2; omega)
              have Kz3 := Lib.hid (Kz2.out.below (balloc (brefl z2) (.cells #[.int .i64 lo, .int .i64 hi] 25)))
              have Yz3 := Yz2
              generalize (z2.alloc (.cells #[.int .i64 lo, .int .i64 hi] 25)) = z3 at *
              refine wpAnyH_ready (rs := [2]) (by kernel_rfl) (by simp) (AllReadyH.cons rfl (fun KQ hKQ => ?_) AllReadyH.nil)
              obtain ⟨vp, z4, ra, oa, ba, ga⟩ := appM Rz3.out L ⟨bl, ol, none⟩ cap (lh_cells (LH.out.below Bz3.out)) Bz3.out.size (by simp [HM.out]; omega) 22
              rw [List.nil_append] at oa
              obtain ⟨pa, pc', rfl⟩ := oa.form
              rw [HM.out] at ra oa ga
              have RA := Lib.hid ra
              have Rz4 := Lib.hid oa
              have Bz4 := Lib.hid (Bz3.out.trans ba)
              have Nz4 := Lib.hid (ga.blk Nz3.out Xz3.out)
              have Xz4 := Lib.hid (ga.not Nz3.out.1 Xz3.out)
              have Kz4 := Lib.hid (ga.blk Kz3.out Yz3.out)
              have Yz4 := Lib.hid (ga.not Kz3.out.1 Yz3.out)
              clear ra oa ba ga
              refine step_append_eqN rfl (.tmp 105) (.tmp 106) 22 rfl _ _ _ _ rfl rfl RA.out ?_
              refine hKQ.out _ _ Bz4.out (fun hH2 => ?_)
              clear hKQ KQ hHeld
              have hHeld := hH2
              clear hH2
              (try simp only [List.getElem_toArray, List.getElem_cons_succ, List.getElem_cons_zero, Act.put, List.setIfInBounds_toArray, List.set_cons_zero, List.set_cons_succ])
              clear RA
              refine wpAnyH_ready (rs := [5]) (by kernel_rfl) (by simp) (AllReadyH.cons rfl (fun KQ hKQ => ?_) AllReadyH.nil)
              obtain ⟨vp, z5, ra, oa, ba, ga⟩ := appM Rz4.out [⟨lo, hi⟩] ⟨z2.heap.size, 0, none⟩ 1 (blk_cells Nz4.out) Bz4.out.size (by simp [HM.out]; omega) 22
              obtain ⟨qa, qc, rfl⟩ := oa.form
              obtain ⟨lq, hlq⟩ : ∃ n, (L ++ [(⟨lo, hi⟩ : Sn)]).length = n := ⟨_, rfl⟩
              rw [hlq] at ra oa ga
              have HLQ := Lib.hid hlq
              clear hlq
              have RA := Lib.hid ra
              have Rz5 := Lib.hid oa
              have Bz5 := Lib.hid (Bz4.out.trans ba)
              have Kz5 := Lib.hid (ga.blk Kz4.out Yz4.out)
              clear ra oa ba ga
              refine step_append_eqN rfl (.tmp 107) (.tmp 109) 22 rfl _ _ _ _ rfl rfl RA.out ?_
              refine hKQ.out _ _ Bz5.out (fun hH2 => ?_)
              clear hKQ KQ hHeld
              have hHeld := hH2
              clear hH2
              (try simp only [List.getElem_toArray, List.getElem_cons_succ, List.getElem_cons_zero, Act.put, List.setIfInBounds_toArray, List.set_cons_zero, List.set_cons_succ])
              clear RA
              refine wpAnyH_ready (rs := [7]) (by kernel_rfl) (by simp) (AllReadyH.cons rfl (fun KQ hKQ => ?_) AllReadyH.nil)
              have PW := Lib.hid (PM.out z5 _ _ Rz5.out.hs (by rw [HLQ.out, ← HLQ.out, List.length_append, HM.out]; simp; omega))
              rw [huE_at SA.out] at PW
              go_simp
              refine PW.out.mono ?_
              rintro e z6 ⟨rfl, hb⟩
              have Bz6 := Lib.hid (bstep Bz5.out hb)
              have Kz6 := Lib.hid (Kz5.out.below hb)
              clear hb PW
              go_wp2_with fail
              refine hKQ.out _ _ Bz6.out (fun hH2 => ?_)
              clear hKQ KQ hHeld
              have hHeld := hH2
              clear hH2
              (try simp only [List.getElem_toArray, List.getElem_cons_succ, List.getElem_cons_zero, Act.put, List.setIfInBounds_toArray, List.set_cons_zero, List.set_cons_succ])
              refine wpAnyH_take (i := 8) (v := ?_) rfl (by kernel_rfl) (by kernel_rfl) (by kernel_rfl) (fun _ _ _ h => h) (Or.inl ⟨by rfl, ?_⟩) hHeld ?_
              rotate_left
              · ((intro w _; go_simp); try with_reducible rfl)
              (try simp only [List.getElem_toArray, List.getElem_cons_succ, List.getElem_cons_zero, Act.put, List.setIfInBounds_toArray, List.set_cons_zero, List.set_cons_succ])
              refine wpAnyH_take (i := 9) (v := ?_) rfl (by kernel_rfl) (by kernel_rfl) (by kernel_rfl) (fun _ _ _ h => h) (Or.inl ⟨by rfl, ?_⟩) hHeld ?_
              rotate_left
              · ((intro w _; go_simp); try with_reducible rfl)
              (try simp only [List.getElem_toArray, List.getElem_cons_succ, List.getElem_cons_zero, Act.put, List.setIfInBounds_toArray, List.set_cons_zero, List.set_cons_succ])
              refine wpAnyH_take (i := 10) (v := ?_) rfl (by kernel_rfl) (by kernel_rfl) (by kernel_rfl) (fun _ _ _ h => h) (Or.inl ⟨by rfl, ?_⟩) hHeld ?_
              rotate_left
              · ((intro w _; go_simp); try with_reducible rfl)
              (try simp only [List.getElem_toArray, List.getElem_cons_succ, List.getElem_cons_zero, Act.put, List.setIfInBounds_toArray, List.set_cons_zero, List.set_cons_succ])
              refine wpAnyH_ready (rs := [12]) (by kernel_rfl) (by simp) (AllReadyH.cons rfl (fun KQ hKQ => ?_) AllReadyH.nil)
              obtain ⟨p0, p1⟩ := blk2 Kz6.out (brefl _)
              have f0 := (Kz6.out.2 0 _ rfl).2
              have f1 := (Kz6.out.2 1 _ rfl).2
              have Kz7 := Lib.hid (blk_set (blk_set Kz6.out 0 (.int .i64 lo)) 1 (.int .i64 hi))
              have Bz7 := Lib.hid (below_set (below_set Bz6.out (Bz1.out.size) 0 (.int .i64 lo)) (Bz1.out.size) 1 (.int .i64 hi))
              go_simp
              refine hKQ.out _ _ Bz7.out (fun hH2 => ?_)
              clear hKQ KQ hHeld
              have hHeld := hH2
              clear hH2
              (try simp only [List.getElem_toArray, List.getElem_cons_succ, List.getElem_cons_zero, Act.put, List.setIfInBounds_toArray, List.set_cons_zero, List.set_cons_succ])
              refine wpAnyH_take (i := 13) (v := ?_) rfl (by kernel_rfl) (by kernel_rfl) (by kernel_rfl) (fun _ _ _ h => h) (Or.inl ⟨by rfl, ?_⟩) hHeld ?_
              rotate_left
              · ((intro w _; go_simp); try with_reducible rfl)
              (try simp only [List.getElem_toArray, List.getElem_cons_succ, List.getElem_cons_zero, Act.put, List.setIfInBounds_toArray, List.set_cons_zero, List.set_cons_succ])
              refine wpAnyH_done (by kernel_rfl) ?_ _
              go_wp2_with fail
              go_meet
              exact ⟨⟨_, rfl, Kz7.out⟩, rfl, Bz7.out⟩
        · go_simp
          have BT : Below w7.heap.size w7 ((w7.alloc (.cells #[.int .i64 lo, .int .i64 hi] 25)).drew) := (balloc (brefl w7) (.cells #[.int .i64 lo, .int .i64 hi] 25)).drew
          refine hKQ.out _ _ BT (fun hH2 => ?_)
          clear hKQ KQ hHeld
          have hHeld := hH2
          clear hH2
          (try simp only [List.getElem_toArray, List.getElem_cons_succ, List.getElem_cons_zero, Act.put, List.setIfInBounds_toArray, List.set_cons_zero, List.set_cons_succ])
          have Bz1 := Lib.hid BT
          clear BT
          have Nz1 : Hid (Blk ((w7.alloc (.cells #[.int .i64 lo, .int .i64 hi] 25)).drew) (w7.heap.size) [.int .i64 lo, .int .i64 hi]) := Lib.hid ((new2 w7 _ _ 25).below (brefl _).drew)
          generalize (w7.alloc (.cells #[.int .i64 lo, .int .i64 hi] 25)).drew = z1 at *
          refine wpAnyH_ready (rs := [0, 11]) (by kernel_rfl) (by simp) (AllReadyH.cons rfl (fun KQ hKQ => ?_) (AllReadyH.cons rfl (fun KQ hKQ => ?_) AllReadyH.nil))
          · go_simp
            have BT : Below w7.heap.size w7 ((z1.alloc (.cells #[] 25))) := bstep Bz1.out (balloc (brefl z1) (.cells #[] 25))
            refine hKQ.out _ _ BT (fun hH2 => ?_)
            clear hKQ KQ hHeld
            have hHeld := hH2
            clear hH2
            (try simp only [List.getElem_toArray, List.getElem_cons_succ, List.getElem_cons_zero, Act.put, List.setIfInBounds_toArray, List.set_cons_zero, List.set_cons_succ])
            have Bz2 := Lib.hid BT
            clear BT
            have Rz2 : Hid (OwnN ((z1.alloc (.cells #[] 25))) w7.heap.size (.slice (some ⟨z1.heap.size, 0, none⟩) 0 0) []) := Lib.hid (ownN0 z1 w7.heap.size Bz1.out.size)
            have Nz2 := Lib.hid (Nz1.out.below (balloc (brefl z1) (.cells #[] 25)))
            have Xz2 : Hid (Value.ownBlock (.slice (some ⟨z1.heap.size, 0, none⟩) 0 0) ≠ some (w7.heap.size)) := Lib.hid (fun q => by have := Nz1.out.1; simp [Value.ownBlock] at q; omega)
            generalize (z1.alloc (.cells #[] 25)) = z2 at *
            refine wpAnyH_ready (rs := [2, 11]) (by kernel_rfl) (by simp) (AllReadyH.cons rfl (fun KQ hKQ => ?_) (AllReadyH.cons rfl (fun KQ hKQ => ?_) AllReadyH.nil))
            · obtain ⟨vp, z3, ra, oa, ba, ga⟩ := appM Rz2.out L ⟨bl, ol, none⟩ cap (lh_cells (LH.out.below Bz2.out)) Bz2.out.size (by simp [HM.out]; omega) 22
              rw [List.nil_append] at oa
              obtain ⟨pa, pc', rfl⟩ := oa.form
              rw [HM.out] at ra oa ga
              have RA := Lib.hid ra
              have Rz3 := Lib.hid oa
              have Bz3 := Lib.hid (Bz2.out.trans ba)
              have Nz3 := Lib.hid (ga.blk Nz2.out Xz2.out)
              have Xz3 := Lib.hid (ga.not Nz2.out.1 Xz2.out)
              clear ra oa ba ga
              refine step_append_eqN rfl (.tmp 105) (.tmp 106) 22 rfl _ _ _ _ rfl rfl RA.out ?_
              refine hKQ.out _ _ Bz3.out (fun hH2 => ?_)
              clear hKQ KQ hHeld
              have hHeld := hH2
              clear hH2
              (try simp only [List.getElem_toArray, List.getElem_cons_succ, List.getElem_cons_zero, Act.put, List.setIfInBounds_toArray, List.set_cons_zero, List.set_cons_succ])
              clear RA
              refine wpAnyH_ready (rs := [5, 11]) (by kernel_rfl) (by simp) (AllReadyH.cons rfl (fun KQ hKQ => ?_) (AllReadyH.cons rfl (fun KQ hKQ => ?_) AllReadyH.nil))
              · obtain ⟨vp, z4, ra, oa, ba, ga⟩ := appM Rz3.out [⟨lo, hi⟩] ⟨w7.heap.size, 0, none⟩ 1 (blk_cells Nz3.out) Bz3.out.size (by simp [HM.out]; omega) 22
                obtain ⟨qa, qc, rfl⟩ := oa.form
                obtain ⟨lq, hlq⟩ : ∃ n, (L ++ [(⟨lo, hi⟩ : Sn)]).length = n := ⟨_, rfl⟩
                rw [hlq] at ra oa ga
                have HLQ := Lib.hid hlq
                clear hlq
                have RA := Lib.hid ra
                have Rz4 := Lib.hid oa
                have Bz4 := Lib.hid (Bz3.out.trans ba)
                clear ra oa ba ga
                refine step_append_eqN rfl (.tmp 107) (.tmp 109) 22 rfl _ _ _ _ rfl rfl RA.out ?_
                refine hKQ.out _ _ Bz4.out (fun hH2 => ?_)
                clear hKQ KQ hHeld
                have hHeld := hH2
                clear hH2
                (try simp only [List.getElem_toArray, List.getElem_cons_succ, List.getElem_cons_zero, Act.put, List.setIfInBounds_toArray, List.set_cons_zero, List.set_cons_succ])
                clear RA
                refine wpAnyH_ready (rs := [7, 11]) (by kernel_rfl) (by simp) (AllReadyH.cons rfl (fun KQ hKQ => ?_) (AllReadyH.cons rfl (fun KQ hKQ => ?_) AllReadyH.nil))
                · have PW := Lib.hid (PM.out z4 _ _ Rz4.out.hs (by rw [HLQ.out, ← HLQ.out, List.length_append, HM.out]; simp; omega))
                  rw [huE_at SA.out] at PW
                  go_simp
                  refine PW.out.mono ?_
                  rintro e z5 ⟨rfl, hb⟩
                  have Bz5 := Lib.hid (bstep Bz4.out hb)
                  clear hb PW
                  go_wp2_with fail
                  refine hKQ.out _ _ Bz5.out (fun hH2 => ?_)
                  clear hKQ KQ hHeld
                  have hHeld := hH2
                  clear hH2
                  (try simp only [List.getElem_toArray, List.getElem_cons_succ, List.getElem_cons_zero, Act.put, List.setIfInBounds_toArray, List.set_cons_zero, List.set_cons_succ])
                  refine wpAnyH_take (i := 8) (v := ?_) rfl (by kernel_rfl) (by kernel_rfl) (by kernel_rfl) (fun _ _ _ h => h) (Or.inl ⟨by rfl, ?_⟩) hHeld ?_
                  rotate_left
                  · ((intro w _; go_simp); try with_reducible rfl)
                  (try simp only [List.getElem_toArray, List.getElem_cons_succ, List.getElem_cons_zero, Act.put, List.setIfInBounds_toArray, List.set_cons_zero, List.set_cons_succ])
                  refine wpAnyH_take (i := 9) (v := ?_) rfl (by kernel_rfl) (by kernel_rfl) (by kernel_rfl) (fun _ _ _ h => h) (Or.inl ⟨by rfl, ?_⟩) hHeld ?_
                  rotate_left
                  · ((intro w _; go_simp); try with_reducible rfl)
                  (try simp only [List.getElem_toArray, List.getElem_cons_succ, List.getElem_cons_zero, Act.put, List.setIfInBounds_toArray, List.set_cons_zero, List.set_cons_succ])
                  refine wpAnyH_take (i := 10) (v := ?_) rfl (by kernel_rfl) (by kernel_rfl) (by kernel_rfl) (fun _ _ _ h => h) (Or.inl ⟨by rfl, ?_⟩) hHeld ?_
                  rotate_left
                  · ((intro w _; go_simp); try with_reducible rfl)
                  (try simp only [List.getElem_toArray, List.getElem_cons_succ, List.getElem_cons_zero, Act.put, List.setIfInBounds_toArray, List.set_cons_zero, List.set_cons_succ])
                  refine wpAnyH_ready (rs := [11]) (by kernel_rfl) (by simp) (AllReadyH.cons rfl (fun KQ hKQ => ?_) AllReadyH.nil)
                  go_simp
                  have BT : Below w7.heap.size w7 ((z5.alloc (.cells #[.int .i64 0, .int .i64 0] 25))) := bstep Bz5.out (balloc (brefl z5) (.cells #[.int .i64 0, .int .i64 0] 25))
                  refine hKQ.out _ _ BT (fun hH2 => ?_)
                  clear hKQ KQ hHeld
                  have hHeld := hH2
                  clear hH2
                  (try simp only [List.getElem_toArray, List.getElem_cons_succ, List.getElem_cons_zero, Act.put, List.setIfInBounds_toArray, List.set_cons_zero, List.set_cons_succ])
                  have Bz6 := Lib.hid BT
                  clear BT
                  have Kz6 : Hid (Blk ((z5.alloc (.cells #[.int .i64 0, .int .i64 0] 25))) (z5.heap.size) [.int .i64 0, .int .i64 0]) := Lib.hid (new2 z5 _ _ 25)
                  generalize (z5.alloc (.cells #[.int .i64 0, .int .i64 0] 25)) = z6 at *
                  refine wpAnyH_ready (rs := [12]) (by kernel_rfl) (by simp) (AllReadyH.cons rfl (fun KQ hKQ => ?_) AllReadyH.nil)
                  obtain ⟨p0, p1⟩ := blk2 Kz6.out (brefl _)
                  have f0 := (Kz6.out.2 0 _ rfl).2
                  have f1 := (Kz6.out.2 1 _ rfl).2
                  have Kz7 := Lib.hid (blk_set (blk_set Kz6.out 0 (.int .i64 lo)) 1 (.int .i64 hi))
                  have Bz7 := Lib.hid (below_set (below_set Bz6.out (Bz5.out.size) 0 (.int .i64 lo)) (Bz5.out.size) 1 (.int .i64 hi))
                  go_simp
                  refine hKQ.out _ _ Bz7.out (fun hH2 => ?_)
                  clear hKQ KQ hHeld
                  have hHeld := hH2
                  clear hH2
                  (try simp only [List.getElem_toArray, List.getElem_cons_succ, List.getElem_cons_zero, Act.put, List.setIfInBounds_toArray, List.set_cons_zero, List.set_cons_succ])
                  refine wpAnyH_take (i := 13) (v := ?_) rfl (by kernel_rfl) (by kernel_rfl) (by kernel_rfl) (fun _ _ _ h => h) (Or.inl ⟨by rfl, ?_⟩) hHeld ?_
                  rotate_left
                  · ((intro w _; go_simp); try with_reducible rfl)
                  (try simp only [List.getElem_toArray, List.getElem_cons_succ, List.getElem_cons_zero, Act.put, List.setIfInBounds_toArray, List.set_cons_zero, List.set_cons_succ])
                  refine wpAnyH_done (by kernel_rfl) ?_ _
                  go_wp2_with fail
                  go_meet
                  exact ⟨⟨_, rfl, Kz7.out⟩, rfl, Bz7.out⟩
                · go_simp
                  have BT : Below w7.heap.size w7 ((z4.alloc (.cells #[.int .i64 0, .int .i64 0] 25))) := bstep Bz4.out (balloc (brefl z4) (.cells #[.int .i64 0, .int .i64 0] 25))
                  refine hKQ.out _ _ BT (fun hH2 => ?_)
                  clear hKQ KQ hHeld
                  have hHeld := hH2
                  clear hH2
                  (try simp only [List.getElem_toArray, List.getElem_cons_succ, List.getElem_cons_zero, Act.put, List.setIfInBounds_toArray, List.set_cons_zero, List.set_cons_succ])
                  have Bz5 := Lib.hid BT
                  clear BT
                  have Kz5 : Hid (Blk ((z4.alloc (.cells #[.int .i64 0, .int .i64 0] 25))) (z4.heap.size) [.int .i64 0, .int .i64 0]) := Lib.hid (new2 z4 _ _ 25)
                  have Rz5 := Lib.hid (Rz4.out.below (balloc (brefl z4) (.cells #[.int .i64 0, .int .i64 0] 25)))
                  generalize (z4.alloc (.cells #[.int .i64 0, .int .i64 0] 25)) = z5 at *
                  refine wpAnyH_ready (rs := [7]) (by kernel_rfl) (by simp) (AllReadyH.cons rfl (fun KQ hKQ => ?_) AllReadyH.nil)
                  have PW := Lib.hid (PM.out z5 _ _ Rz5.out.hs (by rw [HLQ.out, ← HLQ.out, List.length_append, HM.out]; simp; omega))
                  rw [huE_at SA.out] at PW
                  go_simp
                  refine PW.out.mono ?_
                  rintro e z6 ⟨rfl, hb⟩
                  have Bz6 := Lib.hid (bstep Bz5.out hb)
                  have Kz6 := Lib.hid (Kz5.out.below hb)
                  clear hb PW
                  go_wp2_with fail
                  refine hKQ.out _ _ Bz6.out (fun hH2 => ?_)
                  clear hKQ KQ hHeld
                  have hHeld := hH2
                  clear hH2
                  (try simp only [List.getElem_toArray, List.getElem_cons_succ, List.getElem_cons_zero, Act.put, List.setIfInBounds_toArray, List.set_cons_zero, List.set_cons_succ])
                  refine wpAnyH_take (i := 8) (v := ?_) rfl (by kernel_rfl) (by kernel_rfl) (by kernel_rfl) (fun _ _ _ h => h) (Or.inl ⟨by rfl, ?_⟩) hHeld ?_
                  rotate_left
                  · ((intro w _; go_simp); try with_reducible rfl)
                  (try simp only [List.getElem_toArray, List.getElem_cons_succ, List.getElem_cons_zero, Act.put, List.setIfInBounds_toArray, List.set_cons_zero, List.set_cons_succ])
                  refine wpAnyH_take (i := 9) (v := ?_) rfl (by kernel_rfl) (by kernel_rfl) (by kernel_rfl) (fun _ _ _ h => h) (Or.inl ⟨by rfl, ?_⟩) hHeld ?_
                  rotate_left
                  · ((intro w _; go_simp); try with_reducible rfl)
                  (try simp only [List.getElem_toArray, List.getElem_cons_succ, List.getElem_cons_zero, Act.put, List.setIfInBounds_toArray, List.set_cons_zero, List.set_cons_succ])
                  refine wpAnyH_take (i := 10) (v := ?_) rfl (by kernel_rfl) (by kernel_rfl) (by kernel_rfl) (fun _ _ _ h => h) (Or.inl ⟨by rfl, ?_⟩) hHeld ?_
                  rotate_left
                  · ((intro w _; go_simp); try with_reducible rfl)
                  (try simp only [List.getElem_toArray, List.getElem_cons_succ, List.getElem_cons_zero, Act.put, List.setIfInBounds_toArray, List.set_cons_zero, List.set_cons_succ])
                  refine wpAnyH_ready (rs := [12]) (by kernel_rfl) (by simp) (AllReadyH.cons rfl (fun KQ hKQ => ?_) AllReadyH.nil)
                  obtain ⟨p0, p1⟩ := blk2 Kz6.out (brefl _)
                  have f0 := (Kz6.out.2 0 _ rfl).2
                  have f1 := (Kz6.out.2 1 _ rfl).2
                  have Kz7 := Lib.hid (blk_set (blk_set Kz6.out 0 (.int .i64 lo)) 1 (.int .i64 hi))
                  have Bz7 := Lib.hid (below_set (below_set Bz6.out (Bz4.out.size) 0 (.int .i64 lo)) (Bz4.out.size) 1 (.int .i64 hi))
                  go_simp
                  refine hKQ.out _ _ Bz7.out (fun hH2 => ?_)
                  clear hKQ KQ hHeld
                  have hHeld := hH2
                  clear hH2
                  (try simp only [List.getElem_toArray, List.getElem_cons_succ, List.getElem_cons_zero, Act.put, List.setIfInBounds_toArray, List.set_cons_zero, List.set_cons_succ])
                  refine wpAnyH_take (i := 13) (v := ?_) rfl (by kernel_rfl) (by kernel_rfl) (by kernel_rfl) (fun _ _ _ h => h) (Or.inl ⟨by rfl, ?_⟩) hHeld ?_
                  rotate_left
                  · ((intro w _; go_simp); try with_reducible rfl)
                  (try simp only [List.getElem_toArray, List.getElem_cons_succ, List.getElem_cons_zero, Act.put, List.setIfInBounds_toArray, List.set_cons_zero, List.set_cons_succ])
                  refine wpAnyH_done (by kernel_rfl) ?_ _
                  go_wp2_with fail
                  go_meet
                  exact ⟨⟨_, rfl, Kz7.out⟩, rfl, Bz7.out⟩
              · go_simp
                have BT : Below w7.heap.size w7 ((z3.alloc (.cells #[.int .i64 0, .int .i64 0] 25))) := bstep Bz3.out (balloc (brefl z3) (.cells #[.int .i64 0, .int .i64 0] 25))
                refine hKQ.out _ _ BT (fun hH2 => ?_)
                clear hKQ KQ hHeld
                have hHeld := hH2
                clear hH2
                (try simp only [List.getElem_toArray, List.getElem_cons_succ, List.getElem_cons_zero, Act.put, List.setIfInBounds_toArray, List.set_cons_zero, List.set_cons_succ])
                have Bz4 := Lib.hid BT
                clear BT
                have Kz4 : Hid (Blk ((z3.alloc (.cells #[.int .i64 0, .int .i64 0] 25))) (z3.heap.size) [.int .i64 0, .int .i64 0]) := Lib.hid (new2 z3 _ _ 25)
                have Rz4 := Lib.hid (Rz3.out.below (balloc (brefl z3) (.cells #[.int .i64 0, .int .i64 0] 25)))
                have Yz4 : Hid (Value.ownBlock (.slice pa m pc') ≠ some (z3.heap.size)) := Lib.hid (fun q => by have := (Rz3.out.lt _ q).2; omega)
                have Nz4 := Lib.hid (Nz3.out.below (balloc (brefl z3) (.cells #[.int .i64 0, .int .i64 0] 25)))
                have Xz4 := Xz3
                generalize (z3.alloc (.cells #[.int .i64 0, .int .i64 0] 25)) = z4 at *
                refine wpAnyH_ready (rs := [5]) (by kernel_rfl) (by simp) (AllReadyH.cons rfl (fun KQ hKQ => ?_) AllReadyH.nil)
                obtain ⟨vp, z5, ra, oa, ba, ga⟩ := appM Rz4.out [⟨lo, hi⟩] ⟨w7.heap.size, 0, none⟩ 1 (blk_cells Nz4.out) Bz4.out.size (by simp [HM.out]; omega) 22
                obtain ⟨qa, qc, rfl⟩ := oa.form
                obtain ⟨lq, hlq⟩ : ∃ n, (L ++ [(⟨lo, hi⟩ : Sn)]).length = n := ⟨_, rfl⟩
                rw [hlq] at ra oa ga
                have HLQ := Lib.hid hlq
                clear hlq
                have RA := Lib.hid ra
                have Rz5 := Lib.hid oa
                have Bz5 := Lib.hid (Bz4.out.trans ba)
                have Kz5 := Lib.hid (ga.blk Kz4.out Yz4.out)
                clear ra oa ba ga
                refine step_append_eqN rfl (.tmp 107) (.tmp 109) 22 rfl _ _ _ _ rfl rfl RA.out ?_
                refine hKQ.out _ _ Bz5.out (fun hH2 => ?_)
                clear hKQ KQ hHeld
                have hHeld := hH2
                clear hH2
                (try simp only [List.getElem_toArray, List.getElem_cons_succ, List.getElem_cons_zero, Act.put, List.setIfInBounds_toArray, List.set_cons_zero, List.set_cons_succ])
                clear RA
                refine wpAnyH_ready (rs := [7]) (by kernel_rfl) (by simp) (AllReadyH.cons rfl (fun KQ hKQ => ?_) AllReadyH.nil)
                have PW := Lib.hid (PM.out z5 _ _ Rz5.out.hs (by rw [HLQ.out, ← HLQ.out, List.length_append, HM.out]; simp; omega))
                rw [huE_at SA.out] at PW
                go_simp
                refine PW.out.mono ?_
                rintro e z6 ⟨rfl, hb⟩
                have Bz6 := Lib.hid (bstep Bz5.out hb)
                have Kz6 := Lib.hid (Kz5.out.below hb)
                clear hb PW
                go_wp2_with fail
                refine hKQ.out _ _ Bz6.out (fun hH2 => ?_)
                clear hKQ KQ hHeld
                have hHeld := hH2
                clear hH2
                (try simp only [List.getElem_toArray, List.getElem_cons_succ, List.getElem_cons_zero, Act.put, List.setIfInBounds_toArray, List.set_cons_zero, List.set_cons_succ])
                refine wpAnyH_take (i := 8) (v := ?_) rfl (by kernel_rfl) (by kernel_rfl) (by kernel_rfl) (fun _ _ _ h => h) (Or.inl ⟨by rfl, ?_⟩) hHeld ?_
                rotate_left
                · ((intro w _; go_simp); try with_reducible rfl)
                (try simp only [List.getElem_toArray, List.getElem_cons_succ, List.getElem_cons_zero, Act.put, List.setIfInBounds_toArray, List.set_cons_zero, List.set_cons_succ])
                refine wpAnyH_take (i := 9) (v := ?_) rfl (by kernel_rfl) (by kernel_rfl) (by kernel_rfl) (fun _ _ _ h => h) (Or.inl ⟨by rfl, ?_⟩) hHeld ?_
                rotate_left
                · ((intro w _; go_simp); try with_reducible rfl)
                (try simp only [List.getElem_toArray, List.getElem_cons_succ, List.getElem_cons_zero, Act.put, List.setIfInBounds_toArray, List.set_cons_zero, List.set_cons_succ])
                refine wpAnyH_take (i := 10) (v := ?_) rfl (by kernel_rfl) (by kernel_rfl) (by kernel_rfl) (fun _ _ _ h => h) (Or.inl ⟨by rfl, ?_⟩) hHeld ?_
                rotate_left
                · ((intro w _; go_simp); try with_reducible rfl)
                (try simp only [List.getElem_toArray, List.getElem_cons_succ, List.getElem_cons_zero, Act.put, List.setIfInBounds_toArray, List.set_cons_zero, List.set_cons_succ])
                refine wpAnyH_ready (rs := [12]) (by kernel_rfl) (by simp) (AllReadyH.cons rfl (fun KQ hKQ => ?_) AllReadyH.nil)
                obtain ⟨p0, p1⟩ := blk2 Kz6.out (brefl _)
                have f0 := (Kz6.out.2 0 _ rfl).2
                have f1 := (Kz6.out.2 1 _ rfl).2
                have Kz7 := Lib.hid (blk_set (blk_set Kz6.out 0 (.int .i64 lo)) 1 (.int .i64 hi))
                have Bz7 := Lib.hid (below_set (below_set Bz6.out (Bz3.out.size) 0 (.int .i64 lo)) (Bz3.out.size) 1 (.int .i64 hi))
                go_simp
                refine hKQ.out _ _ Bz7.out (fun hH2 => ?_)
                clear hKQ KQ hHeld
                have hHeld := hH2
                clear hH2
                (try simp only [List.getElem_toArray, List.getElem_cons_succ, List.getElem_cons_zero, Act.put, List.setIfInBounds_toArray, List.set_cons_zero, List.set_cons_succ])
                refine wpAnyH_take (i := 13) (v := ?_) rfl (by kernel_rfl) (by kernel_rfl) (by kernel_rfl) (fun _ _ _ h => h) (Or.inl ⟨by rfl, ?_⟩) hHeld ?_
                rotate_left
                · ((intro w _; go_simp); try with_reducible rfl)
                (try simp only [List.getElem_toArray, List.getElem_cons_succ, List.getElem_cons_zero, Act.put, List.setIfInBounds_toArray, List.set_cons_zero, List.set_cons_succ])
                refine wpAnyH_done (by kernel_rfl) ?_ _
                go_wp2_with fail
                go_meet
                exact ⟨⟨_, rfl, Kz7.out⟩, rfl, Bz7.out⟩
            · go_simp
              have BT : Below w7.heap.size w7 ((z2.alloc (.cells #[.int .i64 0, .int .i64 0] 25))) := bstep Bz2.out (balloc (brefl z2) (.cells #[.int .i64 0, .int .i64 0] 25))
              refine hKQ.out _ _ BT (fun hH2 => ?_)
              clear hKQ KQ hHeld
              have hHeld := hH2
              clear hH2
              (try simp only [List.getElem_toArray, List.getElem_cons_succ, List.getElem_cons_zero, Act.put, List.setIfInBounds_toArray, List.set_cons_zero, List.set_cons_succ])
              have Bz3 := Lib.hid BT
              clear BT
              have Kz3 : Hid (Blk ((z2.alloc (.cells #[.int .i64 0, .int .i64 0] 25))) (z2.heap.size) [.int .i64 0, .int .i64 0]) := Lib.hid (new2 z2 _ _ 25)
              have Rz3 := Lib.hid (Rz2.out.below (balloc (brefl z2) (.cells #[.int .i64 0, .int .i64 0] 25)))
              have Yz3 : Hid (Value.ownBlock (.slice (some ⟨z1.heap.size, 0, none⟩) 0 0) ≠ some (z2.heap.size)) := Lib.hid (fun q => by have := (Rz2.out.lt _ q).2; omega)
              have Nz3 := Lib.hid (Nz2.out.below (balloc (brefl z2) (.cells #[.int .i64 0, .int .i64 0] 25)))
              have Xz3 := Xz2
              generalize (z2.alloc (.cells #[.int .i64 0, .int .i64 0] 25)) = z3 at *
              refine wpAnyH_ready (rs := [2]) (by kernel_rfl) (by simp) (AllReadyH.cons rfl (fun KQ hKQ => ?_) AllReadyH.nil)
              obtain ⟨vp, z4, ra, oa, ba, ga⟩ := appM Rz3.out L ⟨bl, ol, none⟩ cap (lh_cells (LH.out.below Bz3.out)) Bz3.out.size (by simp [HM.out]; omega) 22
              rw [List.nil_append] at oa
              obtain ⟨pa, pc', rfl⟩ := oa.form
              rw [HM.out] at ra oa ga
              have RA := Lib.hid ra
              have Rz4 := Lib.hid oa
              have Bz4 := Lib.hid (Bz3.out.trans ba)
              have Nz4 := Lib.hid (ga.blk Nz3.out Xz3.out)
              have Xz4 := Lib.hid (ga.not Nz3.out.1 Xz3.out)
              have Kz4 := Lib.hid (ga.blk Kz3.out Yz3.out)
              have Yz4 := Lib.hid (ga.not Kz3.out.1 Yz3.out)
              clear ra oa ba ga
              refine step_append_eqN rfl (.tmp 105) (.tmp 106) 22 rfl _ _ _ _ rfl rfl RA.out ?_
              refine hKQ.out _ _ Bz4.out (fun hH2 => ?_)
              clear hKQ KQ hHeld
              have hHeld := hH2
              clear hH2
              (try simp only [List.getElem_toArray, List.getElem_cons_succ, List.getElem_cons_zero, Act.put, List.setIfInBounds_toArray, List.set_cons_zero, List.set_cons_succ])
              clear RA
              refine wpAnyH_ready (rs := [5]) (by kernel_rfl) (by simp) (AllReadyH.cons rfl (fun KQ hKQ => ?_) AllReadyH.nil)
              obtain ⟨vp, z5, ra, oa, ba, ga⟩ := appM Rz4.out [⟨lo, hi⟩] ⟨w7.heap.size, 0, none⟩ 1 (blk_cells Nz4.out) Bz4.out.size (by simp [HM.out]; omega) 22
              obtain ⟨qa, qc, rfl⟩ := oa.form
              obtain ⟨lq, hlq⟩ : ∃ n, (L ++ [(⟨lo, hi⟩ : Sn)]).length = n := ⟨_, rfl⟩
              rw [hlq] at ra oa ga
              have HLQ := Lib.hid hlq
              clear hlq
              have RA := Lib.hid ra
              have Rz5 := Lib.hid oa
              have Bz5 := Lib.hid (Bz4.out.trans ba)
              have Kz5 := Lib.hid (ga.blk Kz4.out Yz4.out)
              clear ra oa ba ga
              refine step_append_eqN rfl (.tmp 107) (.tmp 109) 22 rfl _ _ _ _ rfl rfl RA.out ?_
              refine hKQ.out _ _ Bz5.out (fun hH2 => ?_)
              clear hKQ KQ hHeld
              have hHeld := hH2
              clear hH2
              (try simp only [List.getElem_toArray, List.getElem_cons_succ, List.getElem_cons_zero, Act.put, List.setIfInBounds_toArray, List.set_cons_zero, List.set_cons_succ])
              clear RA
              refine wpAnyH_ready (rs := [7]) (by kernel_rfl) (by simp) (AllReadyH.cons rfl (fun KQ hKQ => ?_) AllReadyH.nil)
              have PW := Lib.hid (PM.out z5 _ _ Rz5.out.hs (by rw [HLQ.out, ← HLQ.out, List.length_append, HM.out]; simp; omega))
              rw [huE_at SA.out] at PW
              go_simp
              refine PW.out.mono ?_
              rintro e z6 ⟨rfl, hb⟩
              have Bz6 := Lib.hid (bstep Bz5.out hb)
              have Kz6 := Lib.hid (Kz5.out.below hb)
              clear hb PW
              go_wp2_with fail
              refine hKQ.out _ _ Bz6.out (fun hH2 => ?_)
              clear hKQ KQ hHeld
              have hHeld := hH2
              clear hH2
              (try simp only [List.getElem_toArray, List.getElem_cons_succ, List.getElem_cons_zero, Act.put, List.setIfInBounds_toArray, List.set_cons_zero, List.set_cons_succ])
              refine wpAnyH_take (i := 8) (v := ?_) rfl (by kernel_rfl) (by kernel_rfl) (by kernel_rfl) (fun _ _ _ h => h) (Or.inl ⟨by rfl, ?_⟩) hHeld ?_
              rotate_left
              · ((intro w _; go_simp); try with_reducible rfl)
              (try simp only [List.getElem_toArray, List.getElem_cons_succ, List.getElem_cons_zero, Act.put, List.setIfInBounds_toArray, List.set_cons_zero, List.set_cons_succ])
              refine wpAnyH_take (i := 9) (v := ?_) rfl (by kernel_rfl) (by kernel_rfl) (by kernel_rfl) (fun _ _ _ h => h) (Or.inl ⟨by rfl, ?_⟩) hHeld ?_
              rotate_left
              · ((intro w _; go_simp); try with_reducible rfl)
              (try simp only [List.getElem_toArray, List.getElem_cons_succ, List.getElem_cons_zero, Act.put, List.setIfInBounds_toArray, List.set_cons_zero, List.set_cons_succ])
              refine wpAnyH_take (i := 10) (v := ?_) rfl (by kernel_rfl) (by kernel_rfl) (by kernel_rfl) (fun _ _ _ h => h) (Or.inl ⟨by rfl, ?_⟩) hHeld ?_
              rotate_left
              · ((intro w _; go_simp); try with_reducible rfl)
              (try simp only [List.getElem_toArray, List.getElem_cons_succ, List.getElem_cons_zero, Act.put, List.setIfInBounds_toArray, List.set_cons_zero, List.set_cons_succ])
              refine wpAnyH_ready (rs := [12]) (by kernel_rfl) (by simp) (AllReadyH.cons rfl (fun KQ hKQ => ?_) AllReadyH.nil)
              obtain ⟨p0, p1⟩ := blk2 Kz6.out (brefl _)
              have f0 := (Kz6.out.2 0 _ rfl).2
              have f1 := (Kz6.out.2 1 _ rfl).2
              have Kz7 := Lib.hid (blk_set (blk_set Kz6.out 0 (.int .i64 lo)) 1 (.int .i64 hi))
              have Bz7 := Lib.hid (below_set (below_set Bz6.out (Bz2.out.size) 0 (.int .i64 lo)) (Bz2.out.size) 1 (.int .i64 hi))
              go_simp
              refine hKQ.out _ _ Bz7.out (fun hH2 => ?_)
              clear hKQ KQ hHeld
              have hHeld := hH2
              clear hH2
              (try simp only [List.getElem_toArray, List.getElem_cons_succ, List.getElem_cons_zero, Act.put, List.setIfInBounds_toArray, List.set_cons_zero, List.set_cons_succ])
              refine wpAnyH_take (i := 13) (v := ?_) rfl (by kernel_rfl) (by kernel_rfl) (by kernel_rfl) (fun _ _ _ h => h) (Or.inl ⟨by rfl, ?_⟩) hHeld ?_
              rotate_left
              · ((intro w _; go_simp); try with_reducible rfl)
              (try simp only [List.getElem_toArray, List.getElem_cons_succ, List.getElem_cons_zero, Act.put, List.setIfInBounds_toArray, List.set_cons_zero, List.set_cons_succ])
              refine wpAnyH_done (by kernel_rfl) ?_ _
              go_wp2_with fail
              go_meet
              exact ⟨⟨_, rfl, Kz7.out⟩, rfl, Bz7.out⟩
          · go_simp
            have BT : Below w7.heap.size w7 ((z1.alloc (.cells #[.int .i64 0, .int .i64 0] 25))) := bstep Bz1.out (balloc (brefl z1) (.cells #[.int .i64 0, .int .i64 0] 25))
            refine hKQ.out _ _ BT (fun hH2 => ?_)
            clear hKQ KQ hHeld
            have hHeld := hH2
            clear hH2
            (try simp only [List.getElem_toArray, List.getElem_cons_succ, List.getElem_cons_zero, Act.put, List.setIfInBounds_toArray, List.set_cons_zero, List.set_cons_succ])
            have Bz2 := Lib.hid BT
            clear BT
            have Kz2 : Hid (Blk ((z1.alloc (.cells #[.int .i64 0, .int .i64 0] 25))) (z1.heap.size) [.int .i64 0, .int .i64 0]) := Lib.hid (new2 z1 _ _ 25)
            have Nz2 := Lib.hid (Nz1.out.below (balloc (brefl z1) (.cells #[.int .i64 0, .int .i64 0] 25)))
            generalize (z1.alloc (.cells #[.int .i64 0, .int .i64 0] 25)) = z2 at *
            refine wpAnyH_ready (rs := [0]) (by kernel_rfl) (by simp) (AllReadyH.cons rfl (fun KQ hKQ => ?_) AllReadyH.nil)
            go_simp
            have BT : Below w7.heap.size w7 ((z2.alloc (.cells #[] 25))) := bstep Bz2.out (balloc (brefl z2) (.cells #[] 25))
            refine hKQ.out _ _ BT (fun hH2 => ?_)
            clear hKQ KQ hHeld
            have hHeld := hH2
            clear hH2
            (try simp only [List.getElem_toArray, List.getElem_cons_succ, List.getElem_cons_zero, Act.put, List.setIfInBounds_toArray, List.set_cons_zero, List.set_cons_succ])
            have Bz3 := Lib.hid BT
            clear BT
            have Rz3 : Hid (OwnN ((z2.alloc (.cells #[] 25))) w7.heap.size (.slice (some ⟨z2.heap.size, 0, none⟩) 0 0) []) := Lib.hid (ownN0 z2 w7.heap.size Bz2.out.size)
            have Nz3 := Lib.hid (Nz2.out.below (balloc (brefl z2) (.cells #[] 25)))
            have Xz3 : Hid (Value.ownBlock (.slice (some ⟨z2.heap.size, 0, none⟩) 0 0) ≠ some (w7.heap.size)) := Lib.hid (fun q => by have := Nz2.out.1; simp [Value.ownBlock] at q; omega)
            have Kz3 := Lib.hid (Kz2.out.below (balloc (brefl z2) (.cells #[] 25)))
            have Yz3 : Hid (Value.ownBlock (.slice (some ⟨z2.heap.size, 0, none⟩) 0 0) ≠ some (z1.heap.size)) := Lib.hid (fun q => by have := Kz2.out.1; simp [Value.ownBlock] at q; omega)
            generalize (z2.alloc (.cells #[] 25)) = z3 at *
            refine wpAnyH_ready (rs := [2]) (by kernel_rfl) (by simp) (AllReadyH.cons rfl (fun KQ hKQ => ?_) AllReadyH.nil)
            obtain ⟨vp, z4, ra, oa, ba, ga⟩ := appM Rz3.out L ⟨bl, ol, none⟩ cap (lh_cells (LH.out.below Bz3.out)) Bz3.out.size (by simp [HM.out]; omega) 22
            rw [List.nil_append] at oa
            obtain ⟨pa, pc', rfl⟩ := oa.form
            rw [HM.out] at ra oa ga
            have RA := Lib.hid ra
            have Rz4 := Lib.hid oa
            have Bz4 := Lib.hid (Bz3.out.trans ba)
            have Nz4 := Lib.hid (ga.blk Nz3.out Xz3.out)
            have Xz4 := Lib.hid (ga.not Nz3.out.1 Xz3.out)
            have Kz4 := Lib.hid (ga.blk Kz3.out Yz3.out)
            have Yz4 := Lib.hid (ga.not Kz3.out.1 Yz3.out)
            clear ra oa ba ga
            refine step_append_eqN rfl (.tmp 105) (.tmp 106) 22 rfl _ _ _ _ rfl rfl RA.out ?_
            refine hKQ.out _ _ Bz4.out (fun hH2 => ?_)
            clear hKQ KQ hHeld
            have hHeld := hH2
            clear hH2
            (try simp only [List.getElem_toArray, List.getElem_cons_succ, List.getElem_cons_zero, Act.put, List.setIfInBounds_toArray, List.set_cons_zero, List.set_cons_succ])
            clear RA
            refine wpAnyH_ready (rs := [5]) (by kernel_rfl) (by simp) (AllReadyH.cons rfl (fun KQ hKQ => ?_) AllReadyH.nil)
            obtain ⟨vp, z5, ra, oa, ba, ga⟩ := appM Rz4.out [⟨lo, hi⟩] ⟨w7.heap.size, 0, none⟩ 1 (blk_cells Nz4.out) Bz4.out.size (by simp [HM.out]; omega) 22
            obtain ⟨qa, qc, rfl⟩ := oa.form
            obtain ⟨lq, hlq⟩ : ∃ n, (L ++ [(⟨lo, hi⟩ : Sn)]).length = n := ⟨_, rfl⟩
            rw [hlq] at ra oa ga
            have HLQ := Lib.hid hlq
            clear hlq
            have RA := Lib.hid ra
            have Rz5 := Lib.hid oa
            have Bz5 := Lib.hid (Bz4.out.trans ba)
            have Kz5 := Lib.hid (ga.blk Kz4.out Yz4.out)
            clear ra oa ba ga
            refine step_append_eqN rfl (.tmp 107) (.tmp 109) 22 rfl _ _ _ _ rfl rfl RA.out ?_
            refine hKQ.out _ _ Bz5.out (fun hH2 => ?_)
            clear hKQ KQ hHeld
            have hHeld := hH2
            clear hH2
            (try simp only [List.getElem_toArray, List.getElem_cons_succ, List.getElem_cons_zero, Act.put, List.setIfInBounds_toArray, List.set_cons_zero, List.set_cons_succ])
            clear RA
            refine wpAnyH_ready (rs := [7]) (by kernel_rfl) (by simp) (AllReadyH.cons rfl (fun KQ hKQ => ?_) AllReadyH.nil)
            have PW := Lib.hid (PM.out z5 _ _ Rz5.out.hs (by rw [HLQ.out, ← HLQ.out, List.length_append, HM.out]; simp; omega))
            rw [huE_at SA.out] at PW
            go_simp
            refine PW.out.mono ?_
            rintro e z6 ⟨rfl, hb⟩
            have Bz6 := Lib.hid (bstep Bz5.out hb)
            have Kz6 := Lib.hid (Kz5.out.below hb)
            clear hb PW
            go_wp2_with fail
            refine hKQ.out _ _ Bz6.out (fun hH2 => ?_)
            clear hKQ KQ hHeld
            have hHeld := hH2
            clear hH2
            (try simp only [List.getElem_toArray, List.getElem_cons_succ, List.getElem_cons_zero, Act.put, List.setIfInBounds_toArray, List.set_cons_zero, List.set_cons_succ])
            refine wpAnyH_take (i := 8) (v := ?_) rfl (by kernel_rfl) (by kernel_rfl) (by kernel_rfl) (fun _ _ _ h => h) (Or.inl ⟨by rfl, ?_⟩) hHeld ?_
            rotate_left
            · ((intro w _; go_simp); try with_reducible rfl)
            (try simp only [List.getElem_toArray, List.getElem_cons_succ, List.getElem_cons_zero, Act.put, List.setIfInBounds_toArray, List.set_cons_zero, List.set_cons_succ])
            refine wpAnyH_take (i := 9) (v := ?_) rfl (by kernel_rfl) (by kernel_rfl) (by kernel_rfl) (fun _ _ _ h => h) (Or.inl ⟨by rfl, ?_⟩) hHeld ?_
            rotate_left
            · ((intro w _; go_simp); try with_reducible rfl)
            (try simp only [List.getElem_toArray, List.getElem_cons_succ, List.getElem_cons_zero, Act.put, List.setIfInBounds_toArray, List.set_cons_zero, List.set_cons_succ])
            refine wpAnyH_take (i := 10) (v := ?_) rfl (by kernel_rfl) (by kernel_rfl) (by kernel_rfl) (fun _ _ _ h => h) (Or.inl ⟨by rfl, ?_⟩) hHeld ?_
            rotate_left
            · ((intro w _; go_simp); try with_reducible rfl)
            (try simp only [List.getElem_toArray, List.getElem_cons_succ, List.getElem_cons_zero, Act.put, List.setIfInBounds_toArray, List.set_cons_zero, List.set_cons_succ])
            refine wpAnyH_ready (rs := [12]) (by kernel_rfl) (by simp) (AllReadyH.cons rfl (fun KQ hKQ => ?_) AllReadyH.nil)
            obtain ⟨p0, p1⟩ := blk2 Kz6.out (brefl _)
            have f0 := (Kz6.out.2 0 _ rfl).2
            have f1 := (Kz6.out.2 1 _ rfl).2
            have Kz7 := Lib.hid (blk_set (blk_set Kz6.out 0 (.int .i64 lo)) 1 (.int .i64 hi))
            have Bz7 := Lib.hid (below_set (below_set Bz6.out (Bz1.out.size) 0 (.int .i64 lo)) (Bz1.out.size) 1 (.int .i64 hi))
            go_simp
            refine hKQ.out _ _ Bz7.out (fun hH2 => ?_)
            clear hKQ KQ hHeld
            have hHeld := hH2
            clear hH2
            (try simp only [List.getElem_toArray, List.getElem_cons_succ, List.getElem_cons_zero, Act.put, List.setIfInBounds_toArray, List.set_cons_zero, List.set_cons_succ])
            refine wpAnyH_take (i := 13) (v := ?_) rfl (by kernel_rfl) (by kernel_rfl) (by kernel_rfl) (fun _ _ _ h => h) (Or.inl ⟨by rfl, ?_⟩) hHeld ?_
            rotate_left
            · ((intro w _; go_simp); try with_reducible rfl)
            (try simp only [List.getElem_toArray, List.getElem_cons_succ, List.getElem_cons_zero, Act.put, List.setIfInBounds_toArray, List.set_cons_zero, List.set_cons_succ])
            refine wpAnyH_done (by kernel_rfl) ?_ _
            go_wp2_with fail
            go_meet
            exact ⟨⟨_, rfl, Kz7.out⟩, rfl, Bz7.out⟩
        · go_simp
          have BT : Below w7.heap.size w7 ((w7.alloc (.cells #[.int .i64 0, .int .i64 0] 25)).drew) := (balloc (brefl w7) (.cells #[.int .i64 0, .int .i64 0] 25)).drew
          refine hKQ.out _ _ BT (fun hH2 => ?_)
          clear hKQ KQ hHeld
          have hHeld := hH2
          clear hH2
          (try simp only [List.getElem_toArray, List.getElem_cons_succ, List.getElem_cons_zero, Act.put, List.setIfInBounds_toArray, List.set_cons_zero, List.set_cons_succ])
          have Bz1 := Lib.hid BT
          clear BT
          have Kz1 : Hid (Blk ((w7.alloc (.cells #[.int .i64 0, .int .i64 0] 25)).drew) (w7.heap.size) [.int .i64 0, .int .i64 0]) := Lib.hid ((new2 w7 _ _ 25).below (brefl _).drew)
          generalize (w7.alloc (.cells #[.int .i64 0, .int .i64 0] 25)).drew = z1 at *
          refine wpAnyH_ready (rs := [0, 4]) (by kernel_rfl) (by simp) (AllReadyH.cons rfl (fun KQ hKQ => ?_) (AllReadyH.cons rfl (fun KQ hKQ => ?_) AllReadyH.nil))
          · go_simp
            have BT : Below w7.heap.size w7 ((z1.alloc (.cells #[] 25))) := bstep Bz1.out (balloc (brefl z1) (.cells #[] 25))
            refine hKQ.out _ _ BT (fun hH2 => ?_)
            clear hKQ KQ hHeld
            have hHeld := hH2
            clear hH2
            (try simp only [List.getElem_toArray, List.getElem_cons_succ, List.getElem_cons_zero, Act.put, List.setIfInBounds_toArray, List.set_cons_zero, List.set_cons_succ])
            have Bz2 := Lib.hid BT
            clear BT
            have Rz2 : Hid (OwnN ((z1.alloc (.cells #[] 25))) w7.heap.size (.slice (some ⟨z1.heap.size, 0, none⟩) 0 0) []) := Lib.hid (ownN0 z1 w7.heap.size Bz1.out.size)
            have Kz2 := Lib.hid (Kz1.out.below (balloc (brefl z1) (.cells #[] 25)))
            have Yz2 : Hid (Value.ownBlock (.slice (some ⟨z1.heap.size, 0, none⟩) 0 0) ≠ some (w7.heap.size)) := Lib.hid (fun q => by have := Kz1.out.1; simp [Value.ownBlock] at q; omega)
            generalize (z1.alloc (.cells #[] 25)) = z2 at *
            refine wpAnyH_ready (rs := [2, 4]) (by kernel_rfl) (by simp) (AllReadyH.cons rfl (fun KQ hKQ => ?_) (AllReadyH.cons rfl (fun KQ hKQ => ?_) AllReadyH.nil))
            · obtain ⟨vp, z3, ra, oa, ba, ga⟩ := appM Rz2.out L ⟨bl, ol, none⟩ cap (lh_cells (LH.out.below Bz2.out)) Bz2.out.size (by simp [HM.out]; omega) 22
              rw [List.nil_append] at oa
              obtain ⟨pa, pc', rfl⟩ := oa.form
              rw [HM.out] at ra oa ga
              have RA := Lib.hid ra
              have Rz3 := Lib.hid oa
              have Bz3 := Lib.hid (Bz2.out.trans ba)
              have Kz3 := Lib.hid (ga.blk Kz2.out Yz2.out)
              have Yz3 := Lib.hid (ga.not Kz2.out.1 Yz2.out)
              clear ra oa ba ga
              refine step_append_eqN rfl (.tmp 105) (.tmp 106) 22 rfl _ _ _ _ rfl rfl RA.out ?_
              refine hKQ.out _ _ Bz3.out (fun hH2 => ?_)
              clear hKQ KQ hHeld
              have hHeld := hH2
              clear hH2
              (try simp only [List.getElem_toArray, List.getElem_cons_succ, List.getElem_cons_zero, Act.put, List.setIfInBounds_toArray, List.set_cons_zero, List.set_cons_succ])
              clear RA
              refine wpAnyH_ready (rs := [4]) (by kernel_rfl) (by simp) (AllReadyH.cons rfl (fun KQ hKQ => ?_) AllReadyH.nil)
              go_simp
              have BT : Below w7.heap.size w7 ((z3.alloc (.cells #[.int .i64 lo, .int .i64 hi] 25))) := bstep Bz3.out (balloc (brefl z3) (.cells #[.int .i64 lo, .int .i64 hi] 25))
              refine hKQ.out _ _ BT (fun hH2 => ?_)
              clear hKQ KQ hHeld
              have hHeld := hH2
              clear hH2
              (try simp only [List.getElem_toArray, List.getElem_cons_succ, List.getElem_cons_zero, Act.put, List.setIfInBounds_toArray, List.set_cons_zero, List.set_cons_succ])
              have Bz4 := Lib.hid BT
              clear BT
              have Nz4 : Hid (Blk ((z3.alloc (.cells #[.int .i64 lo, .int .i64 hi] 25))) (z3.heap.size) [.int .i64 lo, .int .i64 hi]) := Lib.hid (new2 z3 _ _ 25)
              have Rz4 := Lib.hid (Rz3.out.below (balloc (brefl z3) (.cells #[.int .i64 lo, .int .i64 hi] 25)))
              have Xz4 : Hid (Value.ownBlock (.slice pa m pc') ≠ some (z3.heap.size)) := Lib.hid (fun q => by have := (Rz3.out.lt _ q).2; omega)
              have Kz4 := Lib.hid (Kz3.out.below (balloc (brefl z3) (.cells #[.int .i64 lo, .int .i64 hi] 25)))
              have Yz4 := Yz3
              generalize (z3.alloc (.cells #[.int .i64 lo, .int .i64 hi] 25)) = z4 at *
              refine wpAnyH_ready (rs := [5]) (by kernel_rfl) (by simp) (AllReadyH.cons rfl (fun KQ hKQ => ?_) AllReadyH.nil)
              obtain ⟨vp, z5, ra, oa, ba, ga⟩ := appM Rz4.out [⟨lo, hi⟩] ⟨z3.heap.size, 0, none⟩ 1 (blk_cells Nz4.out) Bz4.out.size (by simp [HM.out]; omega) 22
              obtain ⟨qa, qc, rfl⟩ := oa.form
              obtain ⟨lq, hlq⟩ : ∃ n, (L ++ [(⟨lo, hi⟩ : Sn)]).length = n := ⟨_, rfl⟩
              rw [hlq] at ra oa ga
              have HLQ := Lib.hid hlq
              clear hlq
              have RA := Lib.hid ra
              have Rz5 := Lib.hid oa
              have Bz5 := Lib.hid (Bz4.out.trans ba)
              have Kz5 := Lib.hid (ga.blk Kz4.out Yz4.out)
              clear ra oa ba ga
              refine step_append_eqN rfl (.tmp 107) (.tmp 109) 22 rfl _ _ _ _ rfl rfl RA.out ?_
              refine hKQ.out _ _ Bz5.out (fun hH2 => ?_)
              clear hKQ KQ hHeld
              have hHeld := hH2
              clear hH2
              (try simp only [List.getElem_toArray, List.getElem_cons_succ, List.getElem_cons_zero, Act.put, List.setIfInBounds_toArray, List.set_cons_zero, List.set_cons_succ])
              clear RA
              refine wpAnyH_ready (rs := [7]) (by kernel_rfl) (by simp) (AllReadyH.cons rfl (fun KQ hKQ => ?_) AllReadyH.nil)
              have PW := Lib.hid (PM.out z5 _ _ Rz5.out.hs (by rw [HLQ.out, ← HLQ.out, List.length_append, HM.out]; simp; omega))
              rw [huE_at SA.out] at PW
              go_simp
              refine PW.out.mono ?_
              rintro e z6 ⟨rfl, hb⟩
              have Bz6 := Lib.hid (bstep Bz5.out hb)
              have Kz6 := Lib.hid (Kz5.out.below hb)
              clear hb PW
              go_wp2_with fail
              refine hKQ.out _ _ Bz6.out (fun hH2 => ?_)
              clear hKQ KQ hHeld
              have hHeld := hH2
              clear hH2
              (try simp only [List.getElem_toArray, List.getElem_cons_succ, List.getElem_cons_zero, Act.put, List.setIfInBounds_toArray, List.set_cons_zero, List.set_cons_succ])
              refine wpAnyH_take (i := 8) (v := ?_) rfl (by kernel_rfl) (by kernel_rfl) (by kernel_rfl) (fun _ _ _ h => h) (Or.inl ⟨by rfl, ?_⟩) hHeld ?_
              rotate_left
              · ((intro w _; go_simp); try with_reducible rfl)
              (try simp only [List.getElem_toArray, List.getElem_cons_succ, List.getElem_cons_zero, Act.put, List.setIfInBounds_toArray, List.set_cons_zero, List.set_cons_succ])
              refine wpAnyH_take (i := 9) (v := ?_) rfl (by kernel_rfl) (by kernel_rfl) (by kernel_rfl) (fun _ _ _ h => h) (Or.inl ⟨by rfl, ?_⟩) hHeld ?_
              rotate_left
              · ((intro w _; go_simp); try with_reducible rfl)
              (try simp only [List.getElem_toArray, List.getElem_cons_succ, List.getElem_cons_zero, Act.put, List.setIfInBounds_toArray, List.set_cons_zero, List.set_cons_succ])
              refine wpAnyH_take (i := 10) (v := ?_) rfl (by kernel_rfl) (by kernel_rfl) (by kernel_rfl) (fun _ _ _ h => h) (Or.inl ⟨by rfl, ?_⟩) hHeld ?_
              rotate_left
              · ((intro w _; go_simp); try with_reducible rfl)
              (try simp only [List.getElem_toArray, List.getElem_cons_succ, List.getElem_cons_zero, Act.put, List.setIfInBounds_toArray, List.set_cons_zero, List.set_cons_succ])
              refine wpAnyH_ready (rs := [12]) (by kernel_rfl) (by simp) (AllReadyH.cons rfl (fun KQ hKQ => ?_) AllReadyH.nil)
              obtain ⟨p0, p1⟩ := blk2 Kz6.out (brefl _)
              have f0 := (Kz6.out.2 0 _ rfl).2
              have f1 := (Kz6.out.2 1 _ rfl).2
              have Kz7 := Lib.hid (blk_set (blk_set Kz6.out 0 (.int .i64 lo)) 1 (.int .i64 hi))
              have Bz7 := Lib.hid (below_set (below_set Bz6.out (Nat.le_refl _) 0 (.int .i64 lo)) (Nat.le_refl _) 1 (.int .i64 hi))
              go_simp
              refine hKQ.out _ _ Bz7.out (fun hH2 => ?_)
              clear hKQ KQ hHeld
              have hHeld := hH2
              clear hH2
              (try simp only [List.getElem_toArray, List.getElem_cons_succ, List.getElem_cons_zero, Act.put, List.setIfInBounds_toArray, List.set_cons_zero, List.set_cons_succ])
              refine wpAnyH_take (i := 13) (v := ?_) rfl (by kernel_rfl) (by kernel_rfl) (by kernel_rfl) (fun _ _ _ h => h) (Or.inl ⟨by rfl, ?_⟩) hHeld ?_
              rotate_left
              · ((intro w _; go_simp); try with_reducible rfl)
              (try simp only [List.getElem_toArray, List.getElem_cons_succ, List.getElem_cons_zero, Act.put, List.setIfInBounds_toArray, List.set_cons_zero, List.set_cons_succ])
              refine wpAnyH_done (by kernel_rfl) ?_ _
              go_wp2_with fail
              go_meet
              exact ⟨⟨_, rfl, Kz7.out⟩, rfl, Bz7.out⟩
            · go_simp
              have BT : Below w7.heap.size w7 ((z2.alloc (.cells #[.int .i64 lo, .int .i64 hi] 25))) := bstep Bz2.out (balloc (brefl z2) (.cells #[.int .i64 lo, .int .i64 hi] 25))
              refine hKQ.out _ _ BT (fun hH2 => ?_)
              clear hKQ KQ hHeld
              have hHeld := hH2
              clear hH2
              (try simp only [List.getElem_toArray, List.getElem_cons_succ, List.getElem_cons_zero, Act.put, List.setIfInBounds_toArray, List.set_cons_zero, List.set_cons_succ])
              have Bz3 := Lib.hid BT
              clear BT
              have Nz3 : Hid (Blk ((z2.alloc (.cells #[.int .i64 lo, .int .i64 hi] 25))) (z2.heap.size) [.int .i64 lo, .int .i64 hi]) := Lib.hid (new2 z2 _ _ 25)
              have Rz3 := Lib.hid (Rz2.out.below (balloc (brefl z2) (.cells #[.int .i64 lo, .int .i64 hi] 25)))
              have Xz3 : Hid (Value.ownBlock (.slice (some ⟨z1.heap.size, 0, none⟩) 0 0) ≠ some (z2.heap.size)) := Lib.hid (fun q => by have := (Rz2.out.lt _ q).2; omega)
              have Kz3 := Lib.hid (Kz2.out.below (balloc (brefl z2) (.cells #[.int .i64 lo, .int .i64 hi] 25)))
              have Yz3 := Yz2
              generalize (z2.alloc (.cells #[.int .i64 lo, .int .i64 hi] 25)) = z3 at *
              refine wpAnyH_ready (rs := [2]) (by kernel_rfl) (by simp) (AllReadyH.cons rfl (fun KQ hKQ => ?_) AllReadyH.nil)
              obtain ⟨vp, z4, ra, oa, ba, ga⟩ := appM Rz3.out L ⟨bl, ol, none⟩ cap (lh_cells (LH.out.below Bz3.out)) Bz3.out.size (by simp [HM.out]; omega) 22
              rw [List.nil_append] at oa
              obtain ⟨pa, pc', rfl⟩ := oa.form
              rw [HM.out] at ra oa ga
              have RA := Lib.hid ra
              have Rz4 := Lib.hid oa
              have Bz4 := Lib.hid (Bz3.out.trans ba)
              have Nz4 := Lib.hid (ga.blk Nz3.out Xz3.out)
              have Xz4 := Lib.hid (ga.not Nz3.out.1 Xz3.out)
              have Kz4 := Lib.hid (ga.blk Kz3.out Yz3.out)
              have Yz4 := Lib.hid (ga.not Kz3.out.1 Yz3.out)
              clear ra oa ba ga
              refine step_append_eqN rfl (.tmp 105) (.tmp 106) 22 rfl _ _ _ _ rfl rfl RA.out ?_
              refine hKQ.out _ _ Bz4.out (fun hH2 => ?_)
              clear hKQ KQ hHeld
              have hHeld := hH2
              clear hH2
              (try simp only [List.getElem_toArray, List.getElem_cons_succ, List.getElem_cons_zero, Act.put, List.setIfInBounds_toArray, List.set_cons_zero, List.set_cons_succ])
              clear RA
              refine wpAnyH_ready (rs := [5]) (by kernel_rfl) (by simp) (AllReadyH.cons rfl (fun KQ hKQ => ?_) AllReadyH.nil)
              obtain ⟨vp, z5, ra, oa, ba, ga⟩ := appM Rz4.out [⟨lo, hi⟩] ⟨z2.heap.size, 0, none⟩ 1 (blk_cells Nz4.out) Bz4.out.size (by simp [HM.out]; omega) 22
              obtain ⟨qa, qc, rfl⟩ := oa.form
              obtain ⟨lq, hlq⟩ : ∃ n, (L ++ [(⟨lo, hi⟩ : Sn)]).length = n := ⟨_, rfl⟩
              rw [hlq] at ra oa ga
              have HLQ := Lib.hid hlq
              clear hlq
              have RA := Lib.hid ra
              have Rz5 := Lib.hid oa
              have Bz5 := Lib.hid (Bz4.out.trans ba)
              have Kz5 := Lib.hid (ga.blk Kz4.out Yz4.out)
              clear ra oa ba ga
              refine step_append_eqN rfl (.tmp 107) (.tmp 109) 22 rfl _ _ _ _ rfl rfl RA.out ?_
              refine hKQ.out _ _ Bz5.out (fun hH2 => ?_)
              clear hKQ KQ hHeld
              have hHeld := hH2
              clear hH2
              (try simp only [List.getElem_toArray, List.getElem_cons_succ, List.getElem_cons_zero, Act.put, List.setIfInBounds_toArray, List.set_cons_zero, List.set_cons_succ])
              clear RA
              refine wpAnyH_ready (rs := [7]) (by kernel_rfl) (by simp) (AllReadyH.cons rfl (fun KQ hKQ => ?_) AllReadyH.nil)
              have PW := Lib.hid (PM.out z5 _ _ Rz5.out.hs (by rw [HLQ.out, ← HLQ.out, List.length_append, HM.out]; simp; omega))
              rw [huE_at SA.out] at PW
              go_simp
              refine PW.out.mono ?_
              rintro e z6 ⟨rfl, hb⟩
              have Bz6 := Lib.hid (bstep Bz5.out hb)
              have Kz6 := Lib.hid (Kz5.out.below hb)
              clear hb PW
              go_wp2_with fail
              refine hKQ.out _ _ Bz6.out (fun hH2 => ?_)
              clear hKQ KQ hHeld
              have hHeld := hH2
              clear hH2
              (try simp only [List.getElem_toArray, List.getElem_cons_succ, List.getElem_cons_zero, Act.put, List.setIfInBounds_toArray, List.set_cons_zero, List.set_cons_succ])
              refine wpAnyH_take (i := 8) (v := ?_) rfl (by kernel_rfl) (by kernel_rfl) (by kernel_rfl) (fun _ _ _ h => h) (Or.inl ⟨by rfl, ?_⟩) hHeld ?_
              rotate_left
              · ((intro w _; go_simp); try with_reducible rfl)
              (try simp only [List.getElem_toArray, List.getElem_cons_succ, List.getElem_cons_zero, Act.put, List.setIfInBounds_toArray, List.set_cons_zero, List.set_cons_succ])
              refine wpAnyH_take (i := 9) (v := ?_) rfl (by kernel_rfl) (by kernel_rfl) (by kernel_rfl) (fun _ _ _ h => h) (Or.inl ⟨by rfl, ?_⟩) hHeld ?_
              rotate_left
              · ((intro w _; go_simp); try with_reducible rfl)
              (try simp only [List.getElem_toArray, List.getElem_cons_succ, List.getElem_cons_zero, Act.put, List.setIfInBounds_toArray, List.set_cons_zero, List.set_cons_succ])
              refine wpAnyH_take (i := 10) (v := ?_) rfl (by kernel_rfl) (by kernel_rfl) (by kernel_rfl) (fun _ _ _ h => h) (Or.inl ⟨by rfl, ?_⟩) hHeld ?_
              rotate_left
              · ((intro w _; go_simp); try with_reducible rfl)
              (try simp only [List.getElem_toArray, List.getElem_cons_succ, List.getElem_cons_zero, Act.put, List.setIfInBounds_toArray, List.set_cons_zero, List.set_cons_succ])
              refine wpAnyH_ready (rs := [12]) (by kernel_rfl) (by simp) (AllReadyH.cons rfl (fun KQ hKQ => ?_) AllReadyH.nil)
              obtain ⟨p0, p1⟩ := blk2 Kz6.out (brefl _)
              have f0 := (Kz6.out.2 0 _ rfl).2
              have f1 := (Kz6.out.2 1 _ rfl).2
              have Kz7 := Lib.hid (blk_set (blk_set Kz6.out 0 (.int .i64 lo)) 1 (.int .i64 hi))
              have Bz7 := Lib.hid (below_set (below_set Bz6.out (Nat.le_refl _) 0 (.int .i64 lo)) (Nat.le_refl _) 1 (.int .i64 hi))
              go_simp
              refine hKQ.out _ _ Bz7.out (fun hH2 => ?_)
              clear hKQ KQ hHeld
              have hHeld := hH2
              clear hH2
              (try simp only [List.getElem_toArray, List.getElem_cons_succ, List.getElem_cons_zero, Act.put, List.setIfInBounds_toArray, List.set_cons_zero, List.set_cons_succ])
              refine wpAnyH_take (i := 13) (v := ?_) rfl (by kernel_rfl) (by kernel_rfl) (by kernel_rfl) (fun _ _ _ h => h) (Or.inl ⟨by rfl, ?_⟩) hHeld ?_
              rotate_left
              · ((intro w _; go_simp); try with_reducible rfl)
              (try simp only [List.getElem_toArray, List.getElem_cons_succ, List.getElem_cons_zero, Act.put, List.setIfInBounds_toArray, List.set_cons_zero, List.set_cons_succ])
              refine wpAnyH_done (by kernel_rfl) ?_ _
              go_wp2_with fail
              go_meet
              exact ⟨⟨_, rfl, Kz7.out⟩, rfl, Bz7.out⟩
          · go_simp
            have BT : Below w7.heap.size w7 ((z1.alloc (.cells #[.int .i64 lo, .int .i64 hi] 25))) := bstep Bz1.out (balloc (brefl z1) (.cells #[.int .i64 lo, .int .i64 hi] 25))
            refine hKQ.out _ _ BT (fun hH2 => ?_)
            clear hKQ KQ hHeld
            have hHeld := hH2
            clear hH2
            (try simp only [List.getElem_toArray, List.getElem_cons_succ, List.getElem_cons_zero, Act.put, List.setIfInBounds_toArray, List.set_cons_zero, List.set_cons_succ])
            have Bz2 := Lib.hid BT
            clear BT
            have Nz2 : Hid (Blk ((z1.alloc (.cells #[.int .i64 lo, .int .i64 hi] 25))) (z1.heap.size) [.int .i64 lo, .int .i64 hi]) := Lib.hid (new2 z1 _ _ 25)
            have Kz2 := Lib.hid (Kz1.out.below (balloc (brefl z1) (.cells #[.int .i64 lo, .int .i64 hi] 25)))
            generalize (z1.alloc (.cells #[.int .i64 lo, .int .i64 hi] 25)) = z2 at *
            refine wpAnyH_ready (rs := [0]) (by kernel_rfl) (by simp) (AllReadyH.cons rfl (fun KQ hKQ => ?_) AllReadyH.nil)
            go_simp
            have BT : Below w7.heap.size w7 ((z2.alloc (.cells #[] 25))) := bstep Bz2.out (balloc (brefl z2) (.cells #[] 25))
            refine hKQ.out _ _ BT (fun hH2 => ?_)
            clear hKQ KQ hHeld
            have hHeld := hH2
            clear hH2
            (try simp only [List.getElem_toArray, List.getElem_cons_succ, List.getElem_cons_zero, Act.put, List.setIfInBounds_toArray, List.set_cons_zero, List.set_cons_succ])
            have Bz3 := Lib.hid BT
            clear BT
            have Rz3 : Hid (OwnN ((z2.alloc (.cells #[] 25))) w7.heap.size (.slice (some ⟨z2.heap.size, 0, none⟩) 0 0) []) := Lib.hid (ownN0 z2 w7.heap.size Bz2.out.size)
            have Nz3 := Lib.hid (Nz2.out.below (balloc (brefl z2) (.cells #[] 25)))
            have Xz3 : Hid (Value.ownBlock (.slice (some ⟨z2.heap.size, 0, none⟩) 0 0) ≠ some (z1.heap.size)) := Lib.hid (fun q => by have := Nz2.out.1; simp [Value.ownBlock] at q; omega)
            have Kz3 := Lib.hid (Kz2.out.below (balloc (brefl z2) (.cells #[] 25)))
            have Yz3 : Hid (Value.ownBlock (.slice (some ⟨z2.heap.size, 0, none⟩) 0 0) ≠ some (w7.heap.size)) := Lib.hid (fun q => by have := Kz2.out.1; simp [Value.ownBlock] at q; omega)
            generalize (z2.alloc (.cells #[] 25)) = z3 at *
            refine wpAnyH_ready (rs := [2]) (by kernel_rfl) (by simp) (AllReadyH.cons rfl (fun KQ hKQ => ?_) AllReadyH.nil)
            obtain ⟨vp, z4, ra, oa, ba, ga⟩ := appM Rz3.out L ⟨bl, ol, none⟩ cap (lh_cells (LH.out.below Bz3.out)) Bz3.out.size (by simp [HM.out]; omega) 22
            rw [List.nil_append] at oa
            obtain ⟨pa, pc', rfl⟩ := oa.form
            rw [HM.out] at ra oa ga
            have RA := Lib.hid ra
            have Rz4 := Lib.hid oa
            have Bz4 := Lib.hid (Bz3.out.trans ba)
            have Nz4 := Lib.hid (ga.blk Nz3.out Xz3.out)
            have Xz4 := Lib.hid (ga.not Nz3.out.1 Xz3.out)
            have Kz4 := Lib.hid (ga.blk Kz3.out Yz3.out)
            have Yz4 := Lib.hid (ga.not Kz3.out.1 Yz3.out)
            clear ra oa ba ga
            refine step_append_eqN rfl (.tmp 105) (.tmp 106) 22 rfl _ _ _ _ rfl rfl RA.out ?_
            refine hKQ.out _ _ Bz4.out (fun hH2 => ?_)
            clear hKQ KQ hHeld
            have hHeld := hH2
            clear hH2
            (try simp only [List.getElem_toArray, List.getElem_cons_succ, List.getElem_cons_zero, Act.put, List.setIfInBounds_toArray, List.set_cons_zero, List.set_cons_succ])
            clear RA
            refine wpAnyH_ready (rs := [5]) (by kernel_rfl) (by simp) (AllReadyH.cons rfl (fun KQ hKQ => ?_) AllReadyH.nil)
            obtain ⟨vp, z5, ra, oa, ba, ga⟩ := appM Rz4.out [⟨lo, hi⟩] ⟨z1.heap.size, 0, none⟩ 1 (blk_cells Nz4.out) Bz4.out.size (by simp [HM.out]; omega) 22
            obtain ⟨qa, qc, rfl⟩ := oa.form
            obtain ⟨lq, hlq⟩ : ∃ n, (L ++ [(⟨lo, hi⟩ : Sn)]).length = n := ⟨_, rfl⟩
            rw [hlq] at ra oa ga
            have HLQ := Lib.hid hlq
            clear hlq
            have RA := Lib.hid ra
            have Rz5 := Lib.hid oa
            have Bz5 := Lib.hid (Bz4.out.trans ba)
            have Kz5 := Lib.hid (ga.blk Kz4.out Yz4.out)
            clear ra oa ba ga
            refine step_append_eqN rfl (.tmp 107) (.tmp 109) 22 rfl _ _ _ _ rfl rfl RA.out ?_
            refine hKQ.out _ _ Bz5.out (fun hH2 => ?_)
            clear hKQ KQ hHeld
            have hHeld := hH2
            clear hH2
            (try simp only [List.getElem_toArray, List.getElem_cons_succ, List.getElem_cons_zero, Act.put, List.setIfInBounds_toArray, List.set_cons_zero, List.set_cons_succ])
            clear RA
            refine wpAnyH_ready (rs := [7]) (by kernel_rfl) (by simp) (AllReadyH.cons rfl (fun KQ hKQ => ?_) AllReadyH.nil)
            have PW := Lib.hid (PM.out z5 _ _ Rz5.out.hs (by rw [HLQ.out, ← HLQ.out, List.length_append, HM.out]; simp; omega))
            rw [huE_at SA.out] at PW
            go_simp
            refine PW.out.mono ?_
            rintro e z6 ⟨rfl, hb⟩
            have Bz6 := Lib.hid (bstep Bz5.out hb)
            have Kz6 := Lib.hid (Kz5.out.below hb)
            clear hb PW
            go_wp2_with fail
            refine hKQ.out _ _ Bz6.out (fun hH2 => ?_)
            clear hKQ KQ hHeld
            have hHeld := hH2
            clear hH2
            (try simp only [List.getElem_toArray, List.getElem_cons_succ, List.getElem_cons_zero, Act.put, List.setIfInBounds_toArray, List.set_cons_zero, List.set_cons_succ])
            refine wpAnyH_take (i := 8) (v := ?_) rfl (by kernel_rfl) (by kernel_rfl) (by kernel_rfl) (fun _ _ _ h => h) (Or.inl ⟨by rfl, ?_⟩) hHeld ?_
            rotate_left
            · ((intro w _; go_simp); try with_reducible rfl)
            (try simp only [List.getElem_toArray, List.getElem_cons_succ, List.getElem_cons_zero, Act.put, List.setIfInBounds_toArray, List.set_cons_zero, List.set_cons_succ])
            refine wpAnyH_take (i := 9) (v := ?_) rfl (by kernel_rfl) (by kernel_rfl) (by kernel_rfl) (fun _ _ _ h => h) (Or.inl ⟨by rfl, ?_⟩) hHeld ?_
            rotate_left
            · ((intro w _; go_simp); try with_reducible rfl)
            (try simp only [List.getElem_toArray, List.getElem_cons_succ, List.getElem_cons_zero, Act.put, List.setIfInBounds_toArray, List.set_cons_zero, List.set_cons_succ])
            refine wpAnyH_take (i := 10) (v := ?_) rfl (by kernel_rfl) (by kernel_rfl) (by kernel_rfl) (fun _ _ _ h => h) (Or.inl ⟨by rfl, ?_⟩) hHeld ?_
            rotate_left
            · ((intro w _; go_simp); try with_reducible rfl)
            (try simp only [List.getElem_toArray, List.getElem_cons_succ, List.getElem_cons_zero, Act.put, List.setIfInBounds_toArray, List.set_cons_zero, List.set_cons_succ])
            refine wpAnyH_ready (rs := [12]) (by kernel_rfl) (by simp) (AllReadyH.cons rfl (fun KQ hKQ => ?_) AllReadyH.nil)
            obtain ⟨p0, p1⟩ := blk2 Kz6.out (brefl _)
            have f0 := (Kz6.out.2 0 _ rfl).2
            have f1 := (Kz6.out.2 1 _ rfl).2
            have Kz7 := Lib.hid (blk_set (blk_set Kz6.out 0 (.int .i64 lo)) 1 (.int .i64 hi))
            have Bz7 := Lib.hid (below_set (below_set Bz6.out (Nat.le_refl _) 0 (.int .i64 lo)) (Nat.le_refl _) 1 (.int .i64 hi))
            go_simp
            refine hKQ.out _ _ Bz7.out (fun hH2 => ?_)
            clear hKQ KQ hHeld
            have hHeld := hH2
            clear hH2
            (try simp only [List.getElem_toArray, List.getElem_cons_succ, List.getElem_cons_zero, Act.put, List.setIfInBounds_toArray, List.set_cons_zero, List.set_cons_succ])
            refine wpAnyH_take (i := 13) (v := ?_) rfl (by kernel_rfl) (by kernel_rfl) (by kernel_rfl) (fun _ _ _ h => h) (Or.inl ⟨by rfl, ?_⟩) hHeld ?_
            rotate_left
            · ((intro w _; go_simp); try with_reducible rfl)
            (try simp only [List.getElem_toArray, List.getElem_cons_succ, List.getElem_cons_zero, Act.put, List.setIfInBounds_toArray, List.set_cons_zero, List.set_cons_succ])
            refine wpAnyH_done (by kernel_rfl) ?_ _
            go_wp2_with fail
            go_meet
            exact ⟨⟨_, rfl, Kz7.out⟩, rfl, Bz7.out⟩
      obtain ⟨⟨b13, rfl, hk⟩, rfl, hb⟩ := hcut
      rename World => w8
      have B8 := Lib.hid (bstep B6.out hb)
      have M8 := Lib.hid (M6.out.below hb)
      have L8 := Lib.hid (LH.out.below hb)
      have K8 := Lib.hid hk
      clear hb hk B6 M6 LH
      have O9 := Lib.hid (ownN1 w8 w8.heap.size (Nat.le_refl _) ⟨-2305843009213693952, 2305843009213693952⟩)
      have C9 := Lib.hid (balloc (brefl w8) (.cells #[.int .i64 (-2305843009213693952), .int .i64 2305843009213693952] 25))
      obtain ⟨va, w10, ra, oa, ba, _⟩ := appM O9.out L ⟨bl, ol, none⟩ cap (lh_cells (L8.out.below C9.out)) C9.out.size (by rw [HM.out]; simp; omega) 22
      have CA := Lib.hid (C9.out.trans ba)
      have PW := Lib.hid (PM.out w10 va _ oa.hs (by rw [List.length_append, HM.out]; simp; omega))
      rw [huE_at WI.out] at PW
      rw [HM.out] at ra
      obtain ⟨pa, pc', epv⟩ := oa.form
      subst epv
      have RA := Lib.hid ra
      clear ra oa ba O9
      go_wp2_with (first | (at_builtin; refine wpList_append_eqL rfl _ _ 22 rfl _ _ _ w10 rfl rfl RA.out ?_))
      refine PW.out.mono ?_
      rintro e w11 ⟨rfl, hb⟩
      have hb2 := balloc hb (.cells #[.int .i64 lo, .int .i64 hi] 25)
      have B11 := Lib.hid (bstep B8.out (bstep CA.out hb2))
      have M11 := Lib.hid (M8.out.below (bstep CA.out hb2))
      have K11 := Lib.hid (K8.out.below (bstep CA.out hb2))
      have N11 := Lib.hid (new2 w11 lo hi 25)
      clear hb hb2 B8 M8 K8 L8 CA C9 PW
      obtain ⟨z0, z1⟩ := blk2 M11.out (brefl _)
      obtain ⟨y0, y1'⟩ := blk2 K11.out (brefl _)
      obtain ⟨x0', x1'⟩ := blk2 N11.out (brefl _)
      go_wp2_with fail
      go_ret
      exact ⟨rfl, B11.out⟩
  · have ez2 : (e0 != 0) = true := by simpa using ez
    obtain ⟨rfl, rfl⟩ := huA_not hA ez
    obtain ⟨z0, z1⟩ := blk2 M2.out (brefl _)
    clear hA
    go_wp2_with fail
    go_ret
    exact ⟨rfl, B2.out⟩
set_option maxRecDepth 100000 in
theorem lifted (os : Os) (started : os.Started) (H : Type) (enc : TypeId × Value → H) :
    ReturnsInHanded {} Try.checked os 5 .any (Rows.hullGrowsSpec.pre6 enc Try.prog Try.f5 Rows.hullGrowsRow.domain false) (Rows.hullGrowsSpec.post enc Try.prog Try.f5 false true false false) := by
  refine returnsInHanded_of_change_sized (C := Try.checked) own started (by kernel_rfl) Try.func5
    (ChangeSpec.witness6 (enc := enc) (C := Try.checked) false ⟨#[], #[.slice none 0 0, .int .i64 0], []⟩ 8 (by kernel_rfl) (by kernel_rfl) (by kernel_rfl) (by kernel_rfl)) ?_
  intro W base args ds gs before hval0 hW hcnd hsz0 _
  have hsz : (DataW.weightsEach Try.prog (Try.f5.params.toList ++ Rows.hullGrowsSpec.plain.varTypes Try.prog) (ds ++ gs)).all (· ≤ reachBytes) = true := hsz0
  have hval : ∀ (j : Nat) t v, Try.f5.params[j]? = some t → args[j]? = some v → Value.okWide Try.prog W .any base t v := hval0
  have hW' := hW
  obtain ⟨p, q, hA0, hV, rfl, hfz, hnd⟩ := hW
  have hA : DataW.TrodAll enc Try.prog W 0 (fun _ => true) true Try.f5.params.toList args.toList ds p := hA0
  rw [Try.params5] at hA hval hsz
  obtain ⟨v0, vs0, d0, ds0, p0, q0, hargs, rfl, rfl, h0, r0⟩ := trodAll_cons hA
  obtain ⟨v1, vs1, d1, ds1, p1, q1, rfl, rfl, rfl, h1, r1⟩ := trodAll_cons r0
  obtain ⟨rfl, rfl, rfl⟩ := trodAll_nil r1
  obtain rfl : args = #[v0, v1] := by cases args; simp_all
  obtain ⟨rfl, rfl⟩ := trodVars_none hV
  have h0k := h0
  have hlt0 : ∀ x ∈ p0, x.block < W.heap.size := fun x hx => by have := hW'.lt x (by simp [hx]); simpa using this
  have hb0 : ∀ es sp, d0 = .slice es sp → (es.length + sp.length) * Try.prog.bytesOf 25 ≤ reachBytes := by
    intro es sp he
    exact sized_slice hsz (j := 0) (t := 22) (e := 25) rfl (by rw [he]; rfl) Try.underlying22
  have h1k := h1
  have hlt1 : ∀ x ∈ p1, x.block < W.heap.size := fun x hx => by have := hW'.lt x (by simp [hx]); simpa using this
  obtain ⟨L0, g0⟩ := open_sns (hval 0 22 v0 rfl rfl) h0 hb0
  obtain ⟨z1, rfl, _, _, g1⟩ := open_int Try.underlying3 (hval 1 3 v1 rfl rfl) h1
  clear hA0 hval0
  simp only [List.append_nil] at hW'
  refine (walk pc v0 L0 z1 W g0 g1).mono fun e W' ⟨he, hg⟩ => ?_
  subst he
  exact ⟨_, rfl, _, _, _, [], _, [], hW', trodAll_cons_mk (shut_bool Try.underlying4 _) trodAll_mk0,
    (trodAll_cons_mk (Below.trod laidOut (by kernel_rfl) (of_decide_eq_true (by kernel_rfl)) h0k hg hlt0) (trodAll_cons_mk (Below.trod laidOut (by kernel_rfl) (of_decide_eq_true (by kernel_rfl)) h1k hg hlt1) trodAll_mk0)), rfl, hg.frame _, fun h => nomatch h⟩

theorem over : Rows.hullGrowsRow.holds Try.pinned (OpenSpec.ofChange Rows.hullGrowsSpec) :=
  OpenClaim.holds_of_wide 5 Try.f5 rfl rfl rfl rfl rfl rfl rfl ⟨rfl, rfl, rfl, rfl, rfl⟩ rfl rfl rfl rfl rfl (by kernel_rfl) Try.func5 (by kernel_rfl)
    (of_decide_eq_true (by kernel_rfl)) (by unfold Func.isWrapper; first | (rw [if_pos (by decide +kernel)]; kernel_rfl) | (rw [if_neg (by decide +kernel)]; exact ⟨rfl, rfl⟩))
    (fun os started H enc _ => lifted os started H enc)

theorem proved : Rows.HullGrowsSaid :=
  over
end Go.Proofs.Ytppflfodkhhfhaa.hullGrows
