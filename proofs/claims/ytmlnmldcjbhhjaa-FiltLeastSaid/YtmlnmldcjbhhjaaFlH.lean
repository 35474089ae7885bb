/-
  Best of a filter; sundiallaw14.awake.
  Conditions: what each says.
-/
import Derived.Test.YtmlnmldcjbhhjaaFlG
namespace Go.Proofs.Ytmlnmldcjbhhjaa.Fl
open Go.RowKit Go.ChangeShapes Go.WideShapes Go.ChangeAt Go.Joins
set_option linter.unusedVariables false
set_option linter.unusedSimpArgs false

/-- the best one, aged. -/
def aged (now ppm : Int) (s : Sm) : Sm := ⟨s.off, s.del, s.dis + ag now ppm s, s.at'⟩
set_option maxRecDepth 100000 in
set_option maxHeartbeats 1000000 in
theorem Best_no {w : World} {p : Option Addr} {now ppm : Int} {k : Int} (hk : (k != 0) = true) (RF : ∀ w', Below w.heap.size w w' → Calls Try.prog 14 #[.pointer p, .int .i64 now, .int .i64 ppm] w' fun e w'' => e = .returned (.int .i64 k) ∧ w'' = w') :
    Calls Try.prog 9 #[.pointer p, .int .i64 now, .int .i64 ppm] w fun e w' => e = .returned (.tuple #[SV sm0, .int .i64 k]) ∧ Below w.heap.size w w' := by
  have RR := Lib.hid (RF _ (balloc (brefl w) (.cells #[.int .i64 0, .int .i64 0, .int .i64 0, .int .i64 0] 30)))
  have N := Lib.hid (new4 w 0 0 0 0 30)
  have B := Lib.hid (balloc (brefl w) (.cells #[.int .i64 0, .int .i64 0, .int .i64 0, .int .i64 0] 30))
  clear RF
  go_enter Try.func9, Try.ntmps9
  go_wp2_with fail
  refine RR.out.mono ?_
  rintro e w1 ⟨rfl, rfl⟩
  generalize w.alloc (.cells #[.int .i64 0, .int .i64 0, .int .i64 0, .int .i64 0] 30) = w1 at *
  obtain ⟨z0, z1, z2, z3⟩ := blk4 N.out (brefl w1)
  have f0 := (N.out.2 0 _ rfl).2
  have f1 := (N.out.2 1 _ rfl).2
  have f2 := (N.out.2 2 _ rfl).2
  have f3 := (N.out.2 3 _ rfl).2
  have S2 : Hid (Blk ((((w1.setCell ⟨w.heap.size, 0, none⟩ (.int .i64 0)).setCell ⟨w.heap.size, 1, none⟩ (.int .i64 0)).setCell ⟨w.heap.size, 2, none⟩ (.int .i64 0)).setCell ⟨w.heap.size, 3, none⟩ (.int .i64 0)) w.heap.size [.int .i64 0, .int .i64 0, .int .i64 0, .int .i64 0]) := Lib.hid (blk_set (blk_set (blk_set (blk_set N.out 0 _) 1 _) 2 _) 3 _)
  have B2 := Lib.hid (below_set (below_set (below_set (below_set B.out (Nat.le_refl _) 0 (.int .i64 0)) (Nat.le_refl _) 1 (.int .i64 0)) (Nat.le_refl _) 2 (.int .i64 0)) (Nat.le_refl _) 3 (.int .i64 0))
  go_wp2_with fail
  exact bodyPost_ret (v := .tuple #[.agg #[.int .i64 0, .int .i64 0, .int .i64 0, .int .i64 0], .int .i64 k]) (results_cell_slot rfl _ _ w.heap.size [.int .i64 0, .int .i64 0, .int .i64 0, .int .i64 0] _ _ rfl rfl S2.out.range Try.underlying30 rfl (by exact info_sm)) rfl ⟨rfl, B2.out⟩
set_option maxRecDepth 100000 in
set_option maxHeartbeats 4000000 in
theorem Best_c {w : World} {b : Nat} {L : List Sm} (h : Fm w b L) (h0 : 0 < L.length) (now ppm : Int) (hL : ∀ s ∈ L, okSm s ∧ s.at' ≤ now) (hn : okN now ppm) :
    Calls Try.prog 9 #[.pointer (some ⟨b, 0, none⟩), .int .i64 now, .int .i64 ppm] w fun e w' => e = .returned (.tuple #[SV (aged now ppm (best now ppm L)), .int .i64 0]) ∧ Below w.heap.size w w' := by
  have BC := Lib.hid (fun (w' : World) (q : Below w.heap.size w w') => best_c L now ppm b 0 8 w' hL h0 h.len h.len (by decide) hn (h.below q).ls)
  have SM := Lib.hid (fun (w' : World) (q : Below w.heap.size w w') => samples_c (h.below q))
  have RF : Hid (∀ w', Below w.heap.size w w' → Calls Try.prog 14 #[.pointer (some ⟨b, 0, none⟩), .int .i64 now, .int .i64 ppm] w' fun e w'' => e = .returned (.int .i64 0) ∧ w'' = w') := Lib.hid fun w' q => (by
    cases L with
    | nil => simp at h0
    | cons s R =>
      have := refusal_some (h.below q) now ppm
      rwa [if_pos ⟨(hL s (by simp)).2, hn.1.2, hn.2.1, hn.2.2⟩] at this)
  have bm := best_mem (now := now) (ppm := ppm) h0
  have AG := Lib.hid (fun w => age_c (best now ppm L) now ppm w (hL _ bm).1 (hL _ bm).2 hn)
  have rg := agE_range (d := now - (best now ppm L).at') (p := ppm) (by have := (hL _ bm).2; omega) hn.2.1
  have dr := (hL _ bm).1.2.2.1
  have HE : Hid (SV (aged now ppm (best now ppm L)) = .agg #[.int .i64 (best now ppm L).off, .int .i64 (best now ppm L).del, .int .i64 ((best now ppm L).dis + ag now ppm (best now ppm L)), .int .i64 (best now ppm L).at']) := Lib.hid rfl
  rw [HE.out]
  have rg' : 0 ≤ ag now ppm (best now ppm L) ∧ ag now ppm (best now ppm L) ≤ 1099511627776 := rg
  generalize ag now ppm (best now ppm L) = r at *
  generalize best now ppm L = x at *
  generalize L.length = m at *
  clear rg bm hL hn h HE
  obtain ⟨xo, xl, xd, xa⟩ := x
  simp only at dr ⊢
  replace BC : Hid (∀ w', Below w.heap.size w w' → Calls Try.prog 15 #[.slice (some ⟨b, 0, none⟩) m 8, .int .i64 now, .int .i64 ppm] w' fun e w'' => e = .returned (.agg #[.int .i64 xo, .int .i64 xl, .int .i64 xd, .int .i64 xa]) ∧ Below w'.heap.size w' w'') := BC
  replace AG : Hid (∀ w, Calls Try.prog 17 #[.agg #[.int .i64 xo, .int .i64 xl, .int .i64 xd, .int .i64 xa], .int .i64 now, .int .i64 ppm] w fun e w' => e = .returned (.int .i64 r) ∧ Below w.heap.size w w') := AG
  have wr : IntKind.i64.wrap (xd + r) = xd + r := wrap_in (by omega) (by omega)
  have N := Lib.hid (new4 w 0 0 0 0 30)
  have B := Lib.hid (balloc (brefl w) (.cells #[.int .i64 0, .int .i64 0, .int .i64 0, .int .i64 0] 30))
  go_enter Try.func9, Try.ntmps9
  go_wp2_with fail
  refine (RF.out _ B.out).mono ?_
  rintro e w1 ⟨rfl, rfl⟩
  generalize w.alloc (.cells #[.int .i64 0, .int .i64 0, .int .i64 0, .int .i64 0] 30) = w1 at *
  go_wp2_with fail
  refine (SM.out _ B.out).mono ?_
  rintro e w2 ⟨rfl, hb⟩
  have B2 := Lib.hid (bstep B.out hb)
  have N2 := Lib.hid (N.out.below hb)
  clear hb N
  go_wp2_with fail
  refine (BC.out _ B2.out).mono ?_
  rintro e w3 ⟨rfl, hb⟩
  have B3 := Lib.hid (balloc (bstep B2.out hb) (.cells #[.int .i64 xo, .int .i64 xl, .int .i64 xd, .int .i64 xa] 30))
  have N3 := Lib.hid ((N2.out.below hb).below (balloc (brefl w3) (.cells #[.int .i64 xo, .int .i64 xl, .int .i64 xd, .int .i64 xa] 30)))
  have M3 := Lib.hid (new4 w3 xo xl xd xa 30)
  have lt : w.heap.size < w3.heap.size := Nat.lt_of_lt_of_le N2.out.1 hb.size
  clear hb N2
  go_upto_region 5 with fail
  generalize w3.alloc (.cells #[.int .i64 xo, .int .i64 xl, .int .i64 xd, .int .i64 xa] 30) = wa at *
  have hb0 : Below wa.heap.size wa wa.drew := (brefl wa).drew
  have KP : Hid (∀ w', Below wa.heap.size wa w' → w'.cell? ⟨w3.heap.size, 0, none⟩ = some (.int .i64 xo) ∧ w'.cell? ⟨w3.heap.size, 1, none⟩ = some (.int .i64 xl) ∧ w'.cell? ⟨w3.heap.size, 2, none⟩ = some (.int .i64 xd) ∧ w'.cell? ⟨w3.heap.size, 3, none⟩ = some (.int .i64 xa) ∧ w'.frozen? ⟨w3.heap.size, 2, none⟩ = false) := Lib.hid fun w' q => by
    obtain ⟨z0, z1, z2, z3⟩ := blk4 M3.out q
    exact ⟨z0, z1, z2, z3, ((M3.out.below q).2 2 _ rfl).2⟩
  have TL : Hid (∀ w', Below wa.heap.size wa w' → Blk (w'.setCell ⟨w3.heap.size, 2, none⟩ (.int .i64 (xd + r))) w3.heap.size [.int .i64 xo, .int .i64 xl, .int .i64 (xd + r), .int .i64 xa] ∧ Blk (w'.setCell ⟨w3.heap.size, 2, none⟩ (.int .i64 (xd + r))) w.heap.size [.int .i64 0, .int .i64 0, .int .i64 0, .int .i64 0] ∧ Below w.heap.size w (w'.setCell ⟨w3.heap.size, 2, none⟩ (.int .i64 (xd + r)))) := Lib.hid fun w' q =>
    ⟨blk_set (M3.out.below q) 2 _, blk_other (N3.out.below q) (Nat.ne_of_lt lt) 2 _, below_set (bstep B3.out q) (Nat.le_of_lt lt) 2 _⟩
  have FN : Hid (∀ W, Blk W w.heap.size [.int .i64 0, .int .i64 0, .int .i64 0, .int .i64 0] → Below w.heap.size w W → Blk ((((W.setCell ⟨w.heap.size, 0, none⟩ (.int .i64 xo)).setCell ⟨w.heap.size, 1, none⟩ (.int .i64 xl)).setCell ⟨w.heap.size, 2, none⟩ (.int .i64 (xd + r))).setCell ⟨w.heap.size, 3, none⟩ (.int .i64 xa)) w.heap.size [.int .i64 xo, .int .i64 xl, .int .i64 (xd + r), .int .i64 xa] ∧ Below w.heap.size w ((((W.setCell ⟨w.heap.size, 0, none⟩ (.int .i64 xo)).setCell ⟨w.heap.size, 1, none⟩ (.int .i64 xl)).setCell ⟨w.heap.size, 2, none⟩ (.int .i64 (xd + r))).setCell ⟨w.heap.size, 3, none⟩ (.int .i64 xa))) := Lib.hid fun W h k =>
    ⟨blk_set (blk_set (blk_set (blk_set h 0 _) 1 _) 2 _) 3 _, below_set (below_set (below_set (below_set k (Nat.le_refl _) 0 _) (Nat.le_refl _) 1 _) (Nat.le_refl _) 2 _) (Nat.le_refl _) 3 _⟩
  obtain ⟨y0, y1, y2, y3, y4⟩ := KP.out _ hb0
  go_region_with (first | (go_at_call 17; (with_reducible refine (AG.out _).mono ?_); rintro e w' ⟨rfl, hb⟩; replace hb := bstep (a := wa) hb0 hb; obtain ⟨x0, x1, x2, x3, x4⟩ := KP.out _ hb))
  all_goals (obtain ⟨t1, t2, t3⟩ := TL.out _ (by assumption); clear y0 y1 y2 y3 y4)
  all_goals (try clear x0 x1 x2 x3 x4)
  all_goals (generalize World.setCell _ ⟨w3.heap.size, 2, none⟩ (.int .i64 (xd + r)) = wz at *)
  all_goals (obtain ⟨u1, u2⟩ := FN.out _ t2 t3)
  all_goals (obtain ⟨z0, z1, z2, z3⟩ := blk4 t1 (brefl wz); obtain ⟨v0, v1, v2, v3⟩ := blk4 t2 (brefl wz); have f0 := (t2.2 0 _ rfl).2; have f1 := (t2.2 1 _ rfl).2; have f2 := (t2.2 2 _ rfl).2; have f3 := (t2.2 3 _ rfl).2; have U1 := Lib.hid u1; have U2 := Lib.hid u2; clear u1 u2 t1 t2 t3 FN TL KP)
  all_goals (go_wp2_with fail)
  all_goals exact bodyPost_ret (v := .tuple #[.agg #[.int .i64 xo, .int .i64 xl, .int .i64 (xd + r), .int .i64 xa], .int .i64 0]) (results_cell_slot rfl _ _ w.heap.size [.int .i64 xo, .int .i64 xl, .int .i64 (xd + r), .int .i64 xa] _ _ rfl rfl U1.out.range Try.underlying30 rfl (by exact info_sm)) rfl ⟨rfl, U2.out⟩
end Go.Proofs.Ytmlnmldcjbhhjaa.Fl
