/-
  Samples in memory; small contracts of sundial/filt and sundial/sundialref14: is it right, its age, its distance, the closure that compares.
  Conditions: what each says.
-/
import Derived.Test.YtmlnmldcjbhhjaaFlA
import Derived.Test.YtmlnmldcjbhhjaaFlP
namespace Go.Proofs.Ytmlnmldcjbhhjaa.Fl
open Go.RowKit Go.ChangeShapes Go.WideShapes Go.ChangeAt Go.Joins
set_option linter.unusedVariables false
set_option linter.unusedSimpArgs false

/-- a sample as a value. -/
abbrev SV (s : Sm) : Value := .agg #[.int .i64 s.off, .int .i64 s.del, .int .i64 s.dis, .int .i64 s.at']
theorem dbelow {w w' : World} (h : Fx.Drawn w w') : Below w.heap.size w w' := by
  obtain ⟨n, rfl⟩ := h
  exact bdrew (brefl _) n
theorem info_sm : (Try.prog.info? 30).map (·.size) = some 4 := by kernel_rfl
def okN (now ppm : Int) : Prop := (0 ≤ now ∧ now ≤ 288230376151711744) ∧ (0 ≤ ppm ∧ ppm ≤ 1000)
theorem new4 (w : World) (a b c d : Int) (t : TypeId) : Blk (w.alloc (.cells #[.int .i64 a, .int .i64 b, .int .i64 c, .int .i64 d] t)) w.heap.size [.int .i64 a, .int .i64 b, .int .i64 c, .int .i64 d] :=
  Blk.new' w #[.int .i64 a, .int .i64 b, .int .i64 c, .int .i64 d] t
theorem blk4 {w : World} {b : Nat} {x y z u : Value} (h : Blk w b [x, y, z, u]) {w' : World} (q : Below w.heap.size w w') : w'.cell? ⟨b, 0, none⟩ = some x ∧ w'.cell? ⟨b, 1, none⟩ = some y ∧ w'.cell? ⟨b, 2, none⟩ = some z ∧ w'.cell? ⟨b, 3, none⟩ = some u :=
  ⟨(h.below q).2 0 _ rfl |>.1, (h.below q).2 1 _ rfl |>.1, (h.below q).2 2 _ rfl |>.1, (h.below q).2 3 _ rfl |>.1⟩

set_option maxRecDepth 100000 in
set_option maxHeartbeats 1000000 in
theorem age_c (s : Sm) (now ppm : Int) (w : World) (hs : okSm s) (h : s.at' ≤ now) (hn : okN now ppm) :
    Calls Try.prog 17 #[SV s, .int .i64 now, .int .i64 ppm] w fun e w' => e = .returned (.int .i64 (ag now ppm s)) ∧ Below w.heap.size w w' := by
  obtain ⟨a, b, c, d⟩ := s
  obtain ⟨_, _, _, h0, h1⟩ := hs
  obtain ⟨⟨n0, n1⟩, p0, p1⟩ := hn
  simp only at h h0 h1
  show Calls Try.prog 17 #[.agg #[.int .i64 a, .int .i64 b, .int .i64 c, .int .i64 d], .int .i64 now, .int .i64 ppm] w _
  have H := Lib.hid (fun w => Fx.Part_ok (now - d) ppm 1000000 true w ⟨⟨by omega, by omega⟩, ⟨by omega, by omega⟩, by decide, by decide⟩)
  have E : Hid (ag now ppm ⟨a, b, c, d⟩ = min (Fx.prt (now - d) ppm 1000000 true) 1099511627776) := Lib.hid (by rw [prt_ag (by omega) (by omega) p0 p1]; rfl)
  rw [E.out]
  generalize Fx.prt (now - d) ppm 1000000 true = r at *
  go_enter Try.func17, Try.ntmps17
  go_wp2_with fail
  refine (H.out _).mono ?_
  rintro e w1 ⟨rfl, hd⟩
  have hb := Lib.hid (bstep (balloc (brefl w) _) (dbelow hd))
  clear hd
  go_wp2_with fail
  go_ret
  exact ⟨rfl, hb.out⟩

set_option maxRecDepth 100000 in
set_option maxHeartbeats 1000000 in
theorem distance_c (s : Sm) (now ppm : Int) (w : World) (hs : okSm s) (h : s.at' ≤ now) (hn : okN now ppm) :
    Calls Try.prog 24 #[SV s, .int .i64 now, .int .i64 ppm] w fun e w' => e = .returned (.int .i64 (ds now ppm s)) ∧ Below w.heap.size w w' := by
  have AG := Lib.hid (fun w => age_c s now ppm w hs h hn)
  have rg := agE_range (d := now - s.at') (p := ppm) (by omega) hn.2.1
  obtain ⟨a, b, c, d⟩ := s
  obtain ⟨_, ⟨b0, b1⟩, ⟨c0, c1⟩, h0, h1⟩ := hs
  simp only at h b0 b1 c0 c1 h0 h1 rg
  show Calls Try.prog 24 #[.agg #[.int .i64 a, .int .i64 b, .int .i64 c, .int .i64 d], .int .i64 now, .int .i64 ppm] w _
  have E : Hid (ds now ppm ⟨a, b, c, d⟩ = min (b / 2 + c + ag now ppm ⟨a, b, c, d⟩) 1099511627776) := Lib.hid rfl
  replace AG : Hid (∀ w, Calls Try.prog 17 #[.agg #[.int .i64 a, .int .i64 b, .int .i64 c, .int .i64 d], .int .i64 now, .int .i64 ppm] w fun e w' => e = .returned (.int .i64 (ag now ppm ⟨a, b, c, d⟩)) ∧ Below w.heap.size w w') := AG
  rw [E.out]
  have q : b.tdiv 2 = b / 2 := by rw [Int.tdiv_eq_ediv_of_nonneg b0]
  have g0 : 0 ≤ b / 2 ∧ b / 2 ≤ 68719476736 := by omega
  obtain ⟨g0, g1⟩ := g0
  have rg' : 0 ≤ ag now ppm ⟨a, b, c, d⟩ ∧ ag now ppm ⟨a, b, c, d⟩ ≤ 1099511627776 := rg
  obtain ⟨r0, r1⟩ := rg'
  generalize b / 2 = hb2 at *
  generalize ag now ppm ⟨a, b, c, d⟩ = r at *
  have W2 : IntKind.i64.wrap hb2 = hb2 := wrap_in (by omega) (by omega)
  have W3 : IntKind.i64.wrap (hb2 + c) = hb2 + c := wrap_in (by omega) (by omega)
  have W4 : IntKind.i64.wrap (hb2 + c + r) = hb2 + c + r := wrap_in (by omega) (by omega)
  have N := Lib.hid (new4 w a b c d 30)
  have B0 := Lib.hid (balloc (brefl w) (.cells #[.int .i64 a, .int .i64 b, .int .i64 c, .int .i64 d] 30))
  clear E rg
  go_enter Try.func24, Try.ntmps24
  go_upto_region 1 with fail
  generalize w.alloc (.cells #[.int .i64 a, .int .i64 b, .int .i64 c, .int .i64 d] 30) = wa at *
  have hb0 : Below wa.heap.size wa wa.drew := (brefl wa).drew
  go_region_held3 (fun w' => w'.cell? ⟨w.heap.size, 0, none⟩ = some (.int .i64 a) ∧ w'.cell? ⟨w.heap.size, 1, none⟩ = some (.int .i64 b) ∧ w'.cell? ⟨w.heap.size, 2, none⟩ = some (.int .i64 c) ∧ w'.cell? ⟨w.heap.size, 3, none⟩ = some (.int .i64 d))
    (first | exact blk4 N.out (by assumption))
    (first | (go_at_call 17; (with_reducible refine (AG.out _).mono ?_); rintro e w' ⟨rfl, hb⟩; replace hb := bstep (a := wa) (by assumption) hb))
  all_goals (go_wp2_with fail)
  all_goals go_ret
  all_goals exact ⟨rfl, bstep B0.out (by assumption)⟩

set_option maxRecDepth 100000 in
set_option maxHeartbeats 1000000 in
theorem rAged_c (d ppm : Int) (w : World) (h0 : 0 ≤ d) (h1 : d ≤ 288230376151711744) (p0 : 0 ≤ ppm) (p1 : ppm ≤ 1000) :
    Calls Try.prog 18 #[.int .i64 d, .int .i64 ppm] w fun e w' => e = .returned (.int .i64 (agE d ppm)) ∧ w' = w := by
  have E : Hid (agE d ppm = min (d / 1000000 * ppm + (d % 1000000 * ppm + 999999) / 1000000) 1099511627776) := Lib.hid (by unfold agE; rw [ag_parts h0 p0])
  rw [E.out]
  obtain ⟨a0, a1, b0, b1⟩ := part_range h0 h1 p0 p1
  have q1 : d.tdiv 1000000 = d / 1000000 := by rw [Int.tdiv_eq_ediv_of_nonneg h0]
  have q2 : d.tmod 1000000 = d % 1000000 := by rw [Int.tmod_eq_emod_of_nonneg h0]
  have u1 : 0 ≤ d / 1000000 ∧ d / 1000000 ≤ 288230376151712 := by omega
  have u2 : 0 ≤ d % 1000000 ∧ d % 1000000 ≤ 999999 := by omega
  obtain ⟨u1, v1⟩ := u1
  obtain ⟨u2, v2⟩ := u2
  generalize d / 1000000 = x at *
  generalize d % 1000000 = y at *
  obtain ⟨xp, hx⟩ : ∃ z, x * ppm = z := ⟨_, rfl⟩
  obtain ⟨yp, hy⟩ : ∃ z, y * ppm = z := ⟨_, rfl⟩
  rw [hx] at a0 a1 ⊢
  rw [hy] at b0 b1 ⊢
  have q3 : (yp + 999999).tdiv 1000000 = (yp + 999999) / 1000000 := by rw [Int.tdiv_eq_ediv_of_nonneg (by omega)]
  have u3 : 0 ≤ (yp + 999999) / 1000000 ∧ (yp + 999999) / 1000000 ≤ 1001 := by omega
  obtain ⟨u3, v3⟩ := u3
  generalize (yp + 999999) / 1000000 = z at *
  clear E
  go_enter Try.func18, Try.ntmps18
  go_wp2_with fail
  go_ret
  exact ⟨rfl, rfl⟩

set_option maxRecDepth 100000 in
set_option maxHeartbeats 1000000 in
theorem rDistance_c (s : Sm) (now ppm : Int) (w : World) (hs : okSm s) (h : s.at' ≤ now) (hn : okN now ppm) :
    Calls Try.prog 10 #[SV s, .int .i64 now, .int .i64 ppm] w fun e w' => e = .returned (.int .i64 (ds now ppm s)) ∧ Below w.heap.size w w' := by
  have AG := Lib.hid (fun w => rAged_c (now - s.at') ppm w (by omega) (by have := hs.2.2.2.1; have := hn.1.2; omega) hn.2.1 hn.2.2)
  have rg := agE_range (d := now - s.at') (p := ppm) (by omega) hn.2.1
  obtain ⟨a, b, c, d⟩ := s
  obtain ⟨_, ⟨b0, b1⟩, ⟨c0, c1⟩, h0, h1⟩ := hs
  obtain ⟨⟨n0, n1⟩, p0, p1⟩ := hn
  simp only at h b0 b1 c0 c1 h0 h1 rg AG
  show Calls Try.prog 10 #[.agg #[.int .i64 a, .int .i64 b, .int .i64 c, .int .i64 d], .int .i64 now, .int .i64 ppm] w _
  have E : Hid (ds now ppm ⟨a, b, c, d⟩ = min (b / 2 + c + agE (now - d) ppm) 1099511627776) := Lib.hid rfl
  rw [E.out]
  have q : b.tdiv 2 = b / 2 := by rw [Int.tdiv_eq_ediv_of_nonneg b0]
  have g0 : 0 ≤ b / 2 ∧ b / 2 ≤ 68719476736 := by omega
  obtain ⟨g0, g1⟩ := g0
  obtain ⟨r0, r1⟩ := rg
  generalize b / 2 = hb2 at *
  have W1 : IntKind.i64.wrap (now - d) = now - d := wrap_in (by omega) (by omega)
  generalize agE (now - d) ppm = r at *
  have W2 : IntKind.i64.wrap hb2 = hb2 := wrap_in (by omega) (by omega)
  have W3 : IntKind.i64.wrap (hb2 + c) = hb2 + c := wrap_in (by omega) (by omega)
  have W4 : IntKind.i64.wrap (hb2 + c + r) = hb2 + c + r := wrap_in (by omega) (by omega)
  have N := Lib.hid (new4 w a b c d 30)
  have B0 := Lib.hid (balloc (brefl w) (.cells #[.int .i64 a, .int .i64 b, .int .i64 c, .int .i64 d] 30))
  clear E
  go_enter Try.func10, Try.ntmps10
  go_upto_region 1 with fail
  generalize w.alloc (.cells #[.int .i64 a, .int .i64 b, .int .i64 c, .int .i64 d] 30) = wa at *
  have hb0 : Below wa.heap.size wa wa.drew := (brefl wa).drew
  go_region_held3 (fun w' => w'.cell? ⟨w.heap.size, 0, none⟩ = some (.int .i64 a) ∧ w'.cell? ⟨w.heap.size, 1, none⟩ = some (.int .i64 b) ∧ w'.cell? ⟨w.heap.size, 2, none⟩ = some (.int .i64 c) ∧ w'.cell? ⟨w.heap.size, 3, none⟩ = some (.int .i64 d))
    (first | exact blk4 N.out (by assumption))
    (first | (go_at_call 18; (with_reducible refine (AG.out _).mono ?_); rintro e w' ⟨rfl, rfl⟩))
  all_goals (go_wp2_with fail)
  all_goals go_ret
  all_goals exact ⟨rfl, bstep B0.out (by assumption)⟩

theorem isNaN_c (a : Int) (w : World) : Calls Try.prog 27 #[.int .i64 a] w fun e w' => e = .returned (.bool false) ∧ w' = w := by
  go_enter Try.func27, Try.ntmps27
  go_wp2_with fail
  go_ret
  exact ⟨rfl, rfl⟩
def cmpI (a b : Int) : Int := if a < b then -1 else if b < a then 1 else 0
theorem compare_c (a b : Int) (w : World) : Calls Try.prog 23 #[.int .i64 a, .int .i64 b] w fun e w' => e = .returned (.int .i64 (cmpI a b)) ∧ w' = w := by
  have I1 := Lib.hid (fun w => isNaN_c a w)
  have I2 := Lib.hid (fun w => isNaN_c b w)
  by_cases c1 : a < b
  · have e1 := decide_eq_true c1
    rw [show cmpI a b = -1 from if_pos c1]
    go_enter Try.func23, Try.ntmps23
    go_wp2_with fail
    refine (I1.out _).mono ?_
    rintro e w1 ⟨rfl, rfl⟩
    go_wp2_with fail
    refine (I2.out _).mono ?_
    rintro e w1 ⟨rfl, rfl⟩
    go_wp2_with fail
    go_ret
    exact ⟨rfl, rfl⟩
  · have e1 := decide_eq_false c1
    by_cases c2 : b < a
    · have e2 := decide_eq_true c2
      rw [show cmpI a b = 1 from (if_neg c1).trans (if_pos c2)]
      go_enter Try.func23, Try.ntmps23
      go_wp2_with fail
      refine (I1.out _).mono ?_
      rintro e w1 ⟨rfl, rfl⟩
      go_wp2_with fail
      refine (I2.out _).mono ?_
      rintro e w1 ⟨rfl, rfl⟩
      go_wp2_with fail
      go_ret
      exact ⟨rfl, rfl⟩
    · have e2 := decide_eq_false c2
      rw [show cmpI a b = 0 from (if_neg c1).trans (if_neg c2)]
      go_enter Try.func23, Try.ntmps23
      go_wp2_with fail
      refine (I1.out _).mono ?_
      rintro e w1 ⟨rfl, rfl⟩
      go_wp2_with fail
      refine (I2.out _).mono ?_
      rintro e w1 ⟨rfl, rfl⟩
      go_wp2_with fail
      go_ret
      exact ⟨rfl, rfl⟩
end Go.Proofs.Ytmlnmldcjbhhjaa.Fl
