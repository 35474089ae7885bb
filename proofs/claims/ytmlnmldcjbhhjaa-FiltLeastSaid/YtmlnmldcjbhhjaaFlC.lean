/-
  Rows of samples in memory; the closure that compares; slices.MinFunc at samples; the best one.
  Conditions: what each says.
-/
import Derived.Test.YtmlnmldcjbhhjaaFlB
namespace Go.Proofs.Ytmlnmldcjbhhjaa.Fl
open Go.RowKit Go.ChangeShapes Go.WideShapes Go.ChangeAt Go.Joins
set_option linter.unusedVariables false
set_option linter.unusedSimpArgs false

/-- from off on, block b holds these samples. -/
def Ls (w : World) (b off : Nat) (L : List Sm) : Prop := b < w.heap.size ∧ ∀ j s, L[j]? = some s → w.rangeAt b (off + j * 4) (svs s)
theorem Ls.below {w w' : World} {b off : Nat} {L : List Sm} (h : Ls w b off L) (q : Below w.heap.size w w') : Ls w' b off L :=
  ⟨Nat.lt_of_lt_of_le h.1 q.size, fun j s hj i v hi => (q.cell (p := ⟨b, _, none⟩) h.1).trans (h.2 j s hj i v hi)⟩
theorem Ls.belowB {w w' : World} {b off B : Nat} {L : List Sm} (h : Ls w b off L) (hb : b < B) (q : Below B w w') : Ls w' b off L :=
  ⟨Nat.lt_of_lt_of_le h.1 q.size, fun j s hj i v hi => (q.cell (p := ⟨b, _, none⟩) hb).trans (h.2 j s hj i v hi)⟩

set_option maxRecDepth 100000 in
set_option maxHeartbeats 2000000 in
theorem closure_c (x y : Sm) (now ppm : Int) (p q : Nat) (w : World) (hx : okSm x) (hy : okSm y) (h1 : x.at' ≤ now) (h2 : y.at' ≤ now) (hn : okN now ppm) (hp : p < w.heap.size) (hq : q < w.heap.size)
    (cp : w.cell? ⟨p, 0, none⟩ = some (.int .i64 now)) (cq : w.cell? ⟨q, 0, none⟩ = some (.int .i64 ppm)) :
    Calls Try.prog 22 #[SV x, SV y, .pointer (some ⟨p, 0, none⟩), .pointer (some ⟨q, 0, none⟩)] w fun e w' => e = .returned (.int .i64 (cmpI (ds now ppm x) (ds now ppm y))) ∧ Below w.heap.size w w' := by
  have D1 := Lib.hid (fun w => distance_c x now ppm w hx h1 hn)
  have D2 := Lib.hid (fun w => distance_c y now ppm w hy h2 hn)
  have CM := Lib.hid (fun w => compare_c (ds now ppm x) (ds now ppm y) w)
  obtain ⟨a, b, c, d⟩ := x
  obtain ⟨a', b', c', d'⟩ := y
  generalize ds now ppm ⟨a, b, c, d⟩ = r1 at *
  generalize ds now ppm ⟨a', b', c', d'⟩ = r2 at *
  generalize cmpI r1 r2 = r at *
  show Calls Try.prog 22 #[.agg #[.int .i64 a, .int .i64 b, .int .i64 c, .int .i64 d], .agg #[.int .i64 a', .int .i64 b', .int .i64 c', .int .i64 d'], .pointer (some ⟨p, 0, none⟩), .pointer (some ⟨q, 0, none⟩)] w _
  replace D1 : Hid (∀ w, Calls Try.prog 24 #[.agg #[.int .i64 a, .int .i64 b, .int .i64 c, .int .i64 d], .int .i64 now, .int .i64 ppm] w fun e w' => e = .returned (.int .i64 r1) ∧ Below w.heap.size w w') := D1
  replace D2 : Hid (∀ w, Calls Try.prog 24 #[.agg #[.int .i64 a', .int .i64 b', .int .i64 c', .int .i64 d'], .int .i64 now, .int .i64 ppm] w fun e w' => e = .returned (.int .i64 r2) ∧ Below w.heap.size w w') := D2
  have N1 := Lib.hid ((new4 w a b c d 30).below (balloc (brefl _) (.cells #[.int .i64 a', .int .i64 b', .int .i64 c', .int .i64 d'] 30)))
  have N2 := Lib.hid (new4 (w.alloc (.cells #[.int .i64 a, .int .i64 b, .int .i64 c, .int .i64 d] 30)) a' b' c' d' 30)
  rw [show (w.alloc (.cells #[.int .i64 a, .int .i64 b, .int .i64 c, .int .i64 d] 30)).heap.size = w.heap.size + 1 by simp] at N2
  have B0 := Lib.hid (balloc (balloc (brefl w) (.cells #[.int .i64 a, .int .i64 b, .int .i64 c, .int .i64 d] 30)) (.cells #[.int .i64 a', .int .i64 b', .int .i64 c', .int .i64 d'] 30))
  clear hx hy h1 h2 hn
  go_enter Try.func22, Try.ntmps22
  go_upto_region 1 with fail
  generalize (w.alloc (.cells #[.int .i64 a, .int .i64 b, .int .i64 c, .int .i64 d] 30)).alloc (.cells #[.int .i64 a', .int .i64 b', .int .i64 c', .int .i64 d'] 30) = wa at *
  have hb0 : Below wa.heap.size wa wa.drew := (brefl wa).drew
  have KP : Hid (∀ w', Below wa.heap.size wa w' → w'.cell? ⟨w.heap.size, 0, none⟩ = some (.int .i64 a) ∧ w'.cell? ⟨w.heap.size, 1, none⟩ = some (.int .i64 b) ∧ w'.cell? ⟨w.heap.size, 2, none⟩ = some (.int .i64 c) ∧ w'.cell? ⟨w.heap.size, 3, none⟩ = some (.int .i64 d) ∧ w'.cell? ⟨w.heap.size + 1, 0, none⟩ = some (.int .i64 a') ∧ w'.cell? ⟨w.heap.size + 1, 1, none⟩ = some (.int .i64 b') ∧ w'.cell? ⟨w.heap.size + 1, 2, none⟩ = some (.int .i64 c') ∧ w'.cell? ⟨w.heap.size + 1, 3, none⟩ = some (.int .i64 d') ∧ w'.cell? ⟨p, 0, none⟩ = some (.int .i64 now) ∧ w'.cell? ⟨q, 0, none⟩ = some (.int .i64 ppm)) := Lib.hid fun w' k => by
    obtain ⟨x0, x1, x2, x3⟩ := blk4 N1.out k
    obtain ⟨y0, y1, y2, y3⟩ := blk4 N2.out k
    have kk := bstep B0.out k
    exact ⟨x0, x1, x2, x3, y0, y1, y2, y3, (kk.cell (p := ⟨p, 0, none⟩) hp).trans cp, (kk.cell (p := ⟨q, 0, none⟩) hq).trans cq⟩
  clear N1 N2 cp cq
  go_region_held3 (fun w' => w'.cell? ⟨w.heap.size, 0, none⟩ = some (.int .i64 a) ∧ w'.cell? ⟨w.heap.size, 1, none⟩ = some (.int .i64 b) ∧ w'.cell? ⟨w.heap.size, 2, none⟩ = some (.int .i64 c) ∧ w'.cell? ⟨w.heap.size, 3, none⟩ = some (.int .i64 d) ∧ w'.cell? ⟨w.heap.size + 1, 0, none⟩ = some (.int .i64 a') ∧ w'.cell? ⟨w.heap.size + 1, 1, none⟩ = some (.int .i64 b') ∧ w'.cell? ⟨w.heap.size + 1, 2, none⟩ = some (.int .i64 c') ∧ w'.cell? ⟨w.heap.size + 1, 3, none⟩ = some (.int .i64 d') ∧ w'.cell? ⟨p, 0, none⟩ = some (.int .i64 now) ∧ w'.cell? ⟨q, 0, none⟩ = some (.int .i64 ppm))
    (first | exact KP.out _ (by assumption))
    (first | (go_at_call 24; (with_reducible refine (D1.out _).mono ?_); rintro e w' ⟨rfl, hb⟩; replace hb := bstep (a := wa) (by assumption) hb) | (go_at_call 24; (with_reducible refine (D2.out _).mono ?_); rintro e w' ⟨rfl, hb⟩; replace hb := bstep (a := wa) (by assumption) hb) | (go_at_call 23; (with_reducible refine (CM.out _).mono ?_); rintro e w' ⟨rfl, rfl⟩))
  all_goals (go_wp2_with fail)
  all_goals go_ret
  all_goals exact ⟨rfl, bstep B0.out (by assumption)⟩
theorem cmp_lt (a b : Int) : decide (cmpI a b < 0) = decide (a < b) := by
  unfold cmpI
  by_cases c : a < b
  · simp [c]
  · by_cases c2 : b < a <;> simp [c, c2]

set_option maxRecDepth 100000 in
set_option maxHeartbeats 4000000 in
theorem MinFunc_c (L : List Sm) (now ppm : Int) (b off cap p q : Nat) (w : World) (hL : ∀ s ∈ L, okSm s ∧ s.at' ≤ now) (h0 : 0 < L.length) (h8 : L.length ≤ 8) (hc1 : L.length ≤ cap) (hc2 : cap ≤ 9223372036854775807) (hn : okN now ppm) (hp : p < w.heap.size) (hq : q < w.heap.size)
    (cp : w.cell? ⟨p, 0, none⟩ = some (.int .i64 now)) (cq : w.cell? ⟨q, 0, none⟩ = some (.int .i64 ppm)) (hl : Ls w b off L) :
    Calls Try.prog 21 #[.slice (some ⟨b, off, none⟩) L.length cap, .func (.func 22) #[] #[.pointer (some ⟨p, 0, none⟩), .pointer (some ⟨q, 0, none⟩)]] w fun e w' => e = .returned (SV (best now ppm L)) ∧ Below w.heap.size w w' := by
  have HL := Lib.hid hL
  have HS := Lib.hid hl
  have HN := Lib.hid hn
  have HP := Lib.hid hp
  have HQ := Lib.hid hq
  have CP := Lib.hid cp
  have CQ := Lib.hid cq
  have HB : Hid (best now ppm L = bst now ppm L (L.length - 1)) := Lib.hid rfl
  rw [HB.out]
  obtain ⟨x, hx⟩ : ∃ x, L[0]? = some x := ⟨_, List.getElem?_eq_getElem h0⟩
  have RG : Hid (w.rangeAt b off (svs x)) := Lib.hid (by have := hl.2 0 x hx; rwa [Nat.zero_mul, Nat.add_zero] at this)
  have X0 : Hid (bst now ppm L 0 = x) := Lib.hid (by unfold bst; rw [List.getD_eq_getElem?_getD, hx]; rfl)
  obtain ⟨m, hm⟩ : ∃ m, L.length = m := ⟨_, rfl⟩
  have HM := Lib.hid hm
  rw [hm] at h0 h8 hc1 ⊢
  have m0 : (0 : Int) < (m : Int) := by omega
  have m1 : (m : Int) ≤ 8 := by omega
  have m2 : (m : Int) ≤ (cap : Int) := by omega
  have m3 : (cap : Int) ≤ 9223372036854775807 := by omega
  obtain ⟨xa, xb, xc, xd⟩ := x
  have BA := Lib.hid (balloc (balloc (brefl w) (.cells #[.int .i64 0, .int .i64 0, .int .i64 0, .int .i64 0] 30)) (.cells #[.int .i64 xa, .int .i64 xb, .int .i64 xc, .int .i64 xd] 30))
  have N1 := Lib.hid ((new4 w 0 0 0 0 30).below (balloc (brefl _) (.cells #[.int .i64 xa, .int .i64 xb, .int .i64 xc, .int .i64 xd] 30)))
  have N2 := Lib.hid (new4 (w.alloc (.cells #[.int .i64 0, .int .i64 0, .int .i64 0, .int .i64 0] 30)) xa xb xc xd 30)
  rw [show (w.alloc (.cells #[.int .i64 0, .int .i64 0, .int .i64 0, .int .i64 0] 30)).heap.size = w.heap.size + 1 by simp] at N2
  obtain ⟨y0, y1, y2, y3⟩ : (w.alloc (.cells #[.int .i64 0, .int .i64 0, .int .i64 0, .int .i64 0] 30)).cell? ⟨b, off, none⟩ = some (.int .i64 xa) ∧ (w.alloc (.cells #[.int .i64 0, .int .i64 0, .int .i64 0, .int .i64 0] 30)).cell? ⟨b, off + 1, none⟩ = some (.int .i64 xb) ∧ (w.alloc (.cells #[.int .i64 0, .int .i64 0, .int .i64 0, .int .i64 0] 30)).cell? ⟨b, off + 2, none⟩ = some (.int .i64 xc) ∧ (w.alloc (.cells #[.int .i64 0, .int .i64 0, .int .i64 0, .int .i64 0] 30)).cell? ⟨b, off + 3, none⟩ = some (.int .i64 xd) := by
    have hb := HS.out.1
    have k := balloc (brefl w) (.cells #[.int .i64 0, .int .i64 0, .int .i64 0, .int .i64 0] 30)
    exact ⟨(k.cell (p := ⟨b, off, none⟩) hb).trans (RG.out 0 _ rfl), (k.cell (p := ⟨b, off + 1, none⟩) hb).trans (RG.out 1 _ rfl), (k.cell (p := ⟨b, off + 2, none⟩) hb).trans (RG.out 2 _ rfl), (k.cell (p := ⟨b, off + 3, none⟩) hb).trans (RG.out 3 _ rfl)⟩
  clear hL hl hn hp hq cp cq HB hm hx
  go_enter Try.func21, Try.ntmps21
  go_upto_region 4 with fail
  clear y0 y1 y2 y3
  generalize (w.alloc (.cells #[.int .i64 0, .int .i64 0, .int .i64 0, .int .i64 0] 30)).alloc (.cells #[.int .i64 xa, .int .i64 xb, .int .i64 xc, .int .i64 xd] 30) = wa at *
  go_wp2_with fail
  go_loopw [6] (fun iv wr => ∃ k : Nat, k + 1 ≤ m ∧ iv = .int .i64 ((k : Int) + 1) ∧ Blk wr (w.heap.size + 1) (svs (bst now ppm L k)) ∧ Blk wr w.heap.size [.int .i64 0, .int .i64 0, .int .i64 0, .int .i64 0] ∧ Below w.heap.size w wr) (fun iv _ => m - (intOf iv).toNat)
  case atStart => exact ⟨0, by omega, rfl, by rw [X0.out]; exact N2.out, N1.out, BA.out⟩
  case round =>
    obtain ⟨k, hk, rfl, hM, hR, hb⟩ := hrel
    rename World => wr
    have HM2 := Lib.hid hM
    have HR := Lib.hid hR
    have HB := Lib.hid hb
    clear hM hR hb N1 N2 X0 RG BA
    by_cases c : k + 1 < m
    · have e1 : decide ((k : Int) + 1 < (m : Int)) = true := decide_eq_true (by omega)
      have k1 : (k : Int) + 1 < (m : Int) := by omega
      have pa : (0 : Int) ≤ (k : Int) + 1 := by omega
      have ra : IntKind.i64.wrap ((k : Int) + 1) = (k : Int) + 1 := wrap_in (by omega) (by omega)
      obtain ⟨x, hx⟩ : ∃ x, L[k + 1]? = some x := ⟨_, List.getElem?_eq_getElem (by rw [HM.out]; omega)⟩
      obtain ⟨y, hy⟩ : ∃ y, bst now ppm L k = y := ⟨_, rfl⟩
      have hxm := HL.out x (List.mem_of_getElem? hx)
      have hym := HL.out y (by rw [← hy]; exact bst_mem now ppm L k (by rw [HM.out]; omega))
      have HX := Lib.hid hx
      have HY := Lib.hid hy
      have LS := Lib.hid ((HS.out.below HB.out).2 (k + 1) x hx)
      have CL := Lib.hid (fun (w' : World) (q' : Below wr.heap.size wr w') => closure_c x y now ppm p q w' hxm.1 hym.1 hxm.2 hym.2 HN.out (Nat.lt_of_lt_of_le HP.out (bstep HB.out q').size) (Nat.lt_of_lt_of_le HQ.out (bstep HB.out q').size) (((bstep HB.out q').cell (p := ⟨p, 0, none⟩) HP.out).trans CP.out) (((bstep HB.out q').cell (p := ⟨q, 0, none⟩) HQ.out).trans CQ.out))
      rw [hy] at HM2
      have hbw : b < wr.heap.size := Nat.lt_of_lt_of_le HS.out.1 HB.out.size
      clear hx hy hxm hym
      obtain ⟨xa, xb, xc, xd⟩ := x
      obtain ⟨ya, yb, yc, yd⟩ := y
      have KP : Hid (∀ w', Below wr.heap.size wr w' → w'.cell? ⟨w.heap.size + 1, 0, none⟩ = some (.int .i64 ya) ∧ w'.cell? ⟨w.heap.size + 1, 1, none⟩ = some (.int .i64 yb) ∧ w'.cell? ⟨w.heap.size + 1, 2, none⟩ = some (.int .i64 yc) ∧ w'.cell? ⟨w.heap.size + 1, 3, none⟩ = some (.int .i64 yd) ∧ w'.cell? ⟨b, off + (k + 1) * 4, none⟩ = some (.int .i64 xa) ∧ w'.cell? ⟨b, off + (k + 1) * 4 + 1, none⟩ = some (.int .i64 xb) ∧ w'.cell? ⟨b, off + (k + 1) * 4 + 2, none⟩ = some (.int .i64 xc) ∧ w'.cell? ⟨b, off + (k + 1) * 4 + 3, none⟩ = some (.int .i64 xd)) := Lib.hid fun w' z => by
        obtain ⟨z0, z1, z2, z3⟩ := blk4 HM2.out z
        exact ⟨z0, z1, z2, z3, (z.cell (p := ⟨b, off + (k + 1) * 4, none⟩) hbw).trans (LS.out 0 _ rfl), (z.cell (p := ⟨b, off + (k + 1) * 4 + 1, none⟩) hbw).trans (LS.out 1 _ rfl), (z.cell (p := ⟨b, off + (k + 1) * 4 + 2, none⟩) hbw).trans (LS.out 2 _ rfl), (z.cell (p := ⟨b, off + (k + 1) * 4 + 3, none⟩) hbw).trans (LS.out 3 _ rfl)⟩
      have hb0 : Below wr.heap.size wr wr.drew := (brefl wr).drew
      have ST : Hid (∀ w', Below wr.heap.size wr w' → Blk ((((w'.setCell ⟨w.heap.size + 1, 0, none⟩ (.int .i64 xa)).setCell ⟨w.heap.size + 1, 1, none⟩ (.int .i64 xb)).setCell ⟨w.heap.size + 1, 2, none⟩ (.int .i64 xc)).setCell ⟨w.heap.size + 1, 3, none⟩ (.int .i64 xd)) (w.heap.size + 1) [.int .i64 xa, .int .i64 xb, .int .i64 xc, .int .i64 xd] ∧ Blk ((((w'.setCell ⟨w.heap.size + 1, 0, none⟩ (.int .i64 xa)).setCell ⟨w.heap.size + 1, 1, none⟩ (.int .i64 xb)).setCell ⟨w.heap.size + 1, 2, none⟩ (.int .i64 xc)).setCell ⟨w.heap.size + 1, 3, none⟩ (.int .i64 xd)) w.heap.size [.int .i64 0, .int .i64 0, .int .i64 0, .int .i64 0] ∧ Below w.heap.size w ((((w'.setCell ⟨w.heap.size + 1, 0, none⟩ (.int .i64 xa)).setCell ⟨w.heap.size + 1, 1, none⟩ (.int .i64 xb)).setCell ⟨w.heap.size + 1, 2, none⟩ (.int .i64 xc)).setCell ⟨w.heap.size + 1, 3, none⟩ (.int .i64 xd))) := Lib.hid fun w' z =>
        ⟨blk_set (blk_set (blk_set (blk_set (HM2.out.below z) 0 _) 1 _) 2 _) 3 _, blk_other (blk_other (blk_other (blk_other (HR.out.below z) (by omega) 0 _) (by omega) 1 _) (by omega) 2 _) (by omega) 3 _, below_set (below_set (below_set (below_set (bstep HB.out z) (by omega) 0 _) (by omega) 1 _) (by omega) 2 _) (by omega) 3 _⟩
      have FZ : Hid (∀ w', Below wr.heap.size wr w' → w'.frozen? ⟨w.heap.size + 1, 0, none⟩ = false ∧ w'.frozen? ⟨w.heap.size + 1, 1, none⟩ = false ∧ w'.frozen? ⟨w.heap.size + 1, 2, none⟩ = false ∧ w'.frozen? ⟨w.heap.size + 1, 3, none⟩ = false) := Lib.hid fun w' z =>
        ⟨((HM2.out.below z).2 0 _ rfl).2, ((HM2.out.below z).2 1 _ rfl).2, ((HM2.out.below z).2 2 _ rfl).2, ((HM2.out.below z).2 3 _ rfl).2⟩
      have GD : Hid (L.getD (k + 1) sm0 = ⟨xa, xb, xc, xd⟩) := Lib.hid (by rw [List.getD_eq_getElem?_getD, HX.out]; rfl)
      replace CL : Hid (∀ w', Below wr.heap.size wr w' → Calls Try.prog 22 #[.agg #[.int .i64 xa, .int .i64 xb, .int .i64 xc, .int .i64 xd], .agg #[.int .i64 ya, .int .i64 yb, .int .i64 yc, .int .i64 yd], .pointer (some ⟨p, 0, none⟩), .pointer (some ⟨q, 0, none⟩)] w' fun e w'' => e = .returned (.int .i64 (cmpI (ds now ppm ⟨xa, xb, xc, xd⟩) (ds now ppm ⟨ya, yb, yc, yd⟩))) ∧ Below w'.heap.size w' w'') := CL
      by_cases c3 : ds now ppm ⟨xa, xb, xc, xd⟩ < ds now ppm ⟨ya, yb, yc, yd⟩
      · have e3 : decide (cmpI (ds now ppm ⟨xa, xb, xc, xd⟩) (ds now ppm ⟨ya, yb, yc, yd⟩) < 0) = true := by rw [cmp_lt, decide_eq_true c3]
        have NX : Hid (bst now ppm L (k + 1) = ⟨xa, xb, xc, xd⟩) := Lib.hid (by rw [bst, GD.out, HY.out, if_pos c3])
        clear c3 GD
        generalize cmpI (ds now ppm ⟨xa, xb, xc, xd⟩) (ds now ppm ⟨ya, yb, yc, yd⟩) = r at *
        go_upto_region 7 with fail
        go_region_held3 (fun w' => w'.cell? ⟨w.heap.size + 1, 0, none⟩ = some (.int .i64 ya) ∧ w'.cell? ⟨w.heap.size + 1, 1, none⟩ = some (.int .i64 yb) ∧ w'.cell? ⟨w.heap.size + 1, 2, none⟩ = some (.int .i64 yc) ∧ w'.cell? ⟨w.heap.size + 1, 3, none⟩ = some (.int .i64 yd) ∧ w'.cell? ⟨b, off + (k + 1) * 4, none⟩ = some (.int .i64 xa) ∧ w'.cell? ⟨b, off + (k + 1) * 4 + 1, none⟩ = some (.int .i64 xb) ∧ w'.cell? ⟨b, off + (k + 1) * 4 + 2, none⟩ = some (.int .i64 xc) ∧ w'.cell? ⟨b, off + (k + 1) * 4 + 3, none⟩ = some (.int .i64 xd))
          (first | exact KP.out _ (by assumption))
          (first | (go_at_call 22; (with_reducible refine (CL.out _ (by assumption)).mono ?_); rintro e w' ⟨rfl, hb⟩; replace hb := bstep (a := wr) (by assumption) hb))
        all_goals obtain ⟨z0, z1, z2, z3, z4, z5, z6, z7⟩ := KP.out _ (by assumption)
        all_goals obtain ⟨f0, f1, f2, f3⟩ := FZ.out _ (by assumption)
        all_goals have S2 := Lib.hid (ST.out _ (by assumption))
        all_goals (go_wp2_with fail)
        all_goals exact ⟨⟨k + 1, by omega, by go_num, by rw [NX.out]; exact S2.out.1, S2.out.2.1, S2.out.2.2⟩, by simp [intOf]; omega⟩
      · have e3 : decide (cmpI (ds now ppm ⟨xa, xb, xc, xd⟩) (ds now ppm ⟨ya, yb, yc, yd⟩) < 0) = false := by rw [cmp_lt, decide_eq_false c3]
        have NX : Hid (bst now ppm L (k + 1) = ⟨ya, yb, yc, yd⟩) := Lib.hid (by rw [bst, GD.out, HY.out, if_neg c3])
        clear c3 GD
        generalize cmpI (ds now ppm ⟨xa, xb, xc, xd⟩) (ds now ppm ⟨ya, yb, yc, yd⟩) = r at *
        go_upto_region 7 with fail
        go_region_held3 (fun w' => w'.cell? ⟨w.heap.size + 1, 0, none⟩ = some (.int .i64 ya) ∧ w'.cell? ⟨w.heap.size + 1, 1, none⟩ = some (.int .i64 yb) ∧ w'.cell? ⟨w.heap.size + 1, 2, none⟩ = some (.int .i64 yc) ∧ w'.cell? ⟨w.heap.size + 1, 3, none⟩ = some (.int .i64 yd) ∧ w'.cell? ⟨b, off + (k + 1) * 4, none⟩ = some (.int .i64 xa) ∧ w'.cell? ⟨b, off + (k + 1) * 4 + 1, none⟩ = some (.int .i64 xb) ∧ w'.cell? ⟨b, off + (k + 1) * 4 + 2, none⟩ = some (.int .i64 xc) ∧ w'.cell? ⟨b, off + (k + 1) * 4 + 3, none⟩ = some (.int .i64 xd))
          (first | exact KP.out _ (by assumption))
          (first | (go_at_call 22; (with_reducible refine (CL.out _ (by assumption)).mono ?_); rintro e w' ⟨rfl, hb⟩; replace hb := bstep (a := wr) (by assumption) hb))
        all_goals (go_wp2_with fail)
        all_goals exact ⟨⟨k + 1, by omega, by go_num, by rw [NX.out]; exact HM2.out.below (by assumption), HR.out.below (by assumption), bstep HB.out (by assumption)⟩, by simp [intOf]; omega⟩
    · have e1 : decide ((k : Int) + 1 < (m : Int)) = false := decide_eq_false (by omega)
      obtain rfl : k + 1 = m := by omega
      obtain ⟨y, hy⟩ : ∃ y, bst now ppm L k = y := ⟨_, rfl⟩
      rw [hy] at HM2
      obtain ⟨ya, yb, yc, yd⟩ := y
      have EY : Hid (SV (bst now ppm L (k + 1 - 1)) = .agg #[.int .i64 ya, .int .i64 yb, .int .i64 yc, .int .i64 yd]) := Lib.hid (by rw [Nat.add_sub_cancel, hy])
      clear hy
      obtain ⟨z0, z1, z2, z3⟩ := blk4 HM2.out (brefl wr)
      obtain ⟨v0, v1, v2, v3⟩ := blk4 HR.out (brefl wr)
      have f0 := (HR.out.2 0 _ rfl).2
      have f1 := (HR.out.2 1 _ rfl).2
      have f2 := (HR.out.2 2 _ rfl).2
      have f3 := (HR.out.2 3 _ rfl).2
      have S2 : Hid (Blk ((((wr.setCell ⟨w.heap.size, 0, none⟩ (.int .i64 ya)).setCell ⟨w.heap.size, 1, none⟩ (.int .i64 yb)).setCell ⟨w.heap.size, 2, none⟩ (.int .i64 yc)).setCell ⟨w.heap.size, 3, none⟩ (.int .i64 yd)) w.heap.size [.int .i64 ya, .int .i64 yb, .int .i64 yc, .int .i64 yd]) := Lib.hid (blk_set (blk_set (blk_set (blk_set HR.out 0 _) 1 _) 2 _) 3 _)
      have B2 := Lib.hid (below_set (below_set (below_set (below_set HB.out (Nat.le_refl w.heap.size) 0 (.int .i64 ya)) (Nat.le_refl w.heap.size) 1 (.int .i64 yb)) (Nat.le_refl w.heap.size) 2 (.int .i64 yc)) (Nat.le_refl w.heap.size) 3 (.int .i64 yd))
      go_wp2_with fail
      exact bodyPost_ret (v := .agg #[.int .i64 ya, .int .i64 yb, .int .i64 yc, .int .i64 yd]) (results_cell_mid Try.results21 _ _ w.heap.size [.int .i64 ya, .int .i64 yb, .int .i64 yc, .int .i64 yd] _ rfl S2.out.range Try.underlying30 rfl (by exact info_sm)) rfl ⟨congrArg Ending.returned EY.out.symm, B2.out⟩

set_option maxRecDepth 100000 in
set_option maxHeartbeats 2000000 in
theorem best_c (L : List Sm) (now ppm : Int) (b off cap : Nat) (w : World) (hL : ∀ s ∈ L, okSm s ∧ s.at' ≤ now) (h0 : 0 < L.length) (h8 : L.length ≤ 8) (hc1 : L.length ≤ cap) (hc2 : cap ≤ 9223372036854775807) (hn : okN now ppm) (hl : Ls w b off L) :
    Calls Try.prog 15 #[.slice (some ⟨b, off, none⟩) L.length cap, .int .i64 now, .int .i64 ppm] w fun e w' => e = .returned (SV (best now ppm L)) ∧ Below w.heap.size w w' := by
  have N1 := Lib.hid (balloc (balloc (balloc (brefl w) (.cells #[.int .i64 now] 23)) (.cells #[.int .i64 ppm] 3)) (.cells #[.int .i64 0, .int .i64 0, .int .i64 0, .int .i64 0] 30))
  have MF := Lib.hid (MinFunc_c L now ppm b off cap w.heap.size (w.heap.size + 1) (((w.alloc (.cells #[.int .i64 now] 23)).alloc (.cells #[.int .i64 ppm] 3)).alloc (.cells #[.int .i64 0, .int .i64 0, .int .i64 0, .int .i64 0] 30)) hL h0 h8 hc1 hc2 hn (by simp; try omega) (by simp; try omega) (by simp [go_sem]) (by simp [go_sem]) (hl.below N1.out))
  obtain ⟨m, hm⟩ : ∃ m, L.length = m := ⟨_, rfl⟩
  rw [hm] at MF h0 h8 hc1 ⊢
  generalize best now ppm L = x at *
  clear hm hL hl
  obtain ⟨a, c, d, e⟩ := x
  have NB := Lib.hid (new4 ((w.alloc (.cells #[.int .i64 now] 23)).alloc (.cells #[.int .i64 ppm] 3)) 0 0 0 0 30)
  rw [show ((w.alloc (.cells #[.int .i64 now] 23)).alloc (.cells #[.int .i64 ppm] 3)).heap.size = w.heap.size + 2 by simp] at NB
  go_enter Try.func15, Try.ntmps15
  go_wp2_with fail
  refine MF.out.mono ?_
  rintro e w1 ⟨rfl, hb⟩
  have HB := Lib.hid (bstep N1.out hb)
  have NR := Lib.hid (NB.out.below hb)
  clear hb NB MF N1
  obtain ⟨z0, z1, z2, z3⟩ := blk4 NR.out (brefl w1)
  have f0 := (NR.out.2 0 _ rfl).2
  have f1 := (NR.out.2 1 _ rfl).2
  have f2 := (NR.out.2 2 _ rfl).2
  have f3 := (NR.out.2 3 _ rfl).2
  have S2 : Hid (Blk ((((w1.setCell ⟨w.heap.size + 2, 0, none⟩ (.int .i64 a)).setCell ⟨w.heap.size + 2, 1, none⟩ (.int .i64 c)).setCell ⟨w.heap.size + 2, 2, none⟩ (.int .i64 d)).setCell ⟨w.heap.size + 2, 3, none⟩ (.int .i64 e)) (w.heap.size + 2) [.int .i64 a, .int .i64 c, .int .i64 d, .int .i64 e]) := Lib.hid (blk_set (blk_set (blk_set (blk_set NR.out 0 _) 1 _) 2 _) 3 _)
  have B2 := Lib.hid (below_set (below_set (below_set (below_set HB.out (show w.heap.size ≤ w.heap.size + 2 by omega) 0 (.int .i64 a)) (show w.heap.size ≤ w.heap.size + 2 by omega) 1 (.int .i64 c)) (show w.heap.size ≤ w.heap.size + 2 by omega) 2 (.int .i64 d)) (show w.heap.size ≤ w.heap.size + 2 by omega) 3 (.int .i64 e))
  go_wp2_with fail
  exact bodyPost_ret (v := .agg #[.int .i64 a, .int .i64 c, .int .i64 d, .int .i64 e]) (results_cell_mid Try.results15 _ _ (w.heap.size + 2) [.int .i64 a, .int .i64 c, .int .i64 d, .int .i64 e] _ rfl S2.out.range Try.underlying30 rfl (by exact info_sm)) rfl ⟨rfl, B2.out⟩
end Go.Proofs.Ytmlnmldcjbhhjaa.Fl
