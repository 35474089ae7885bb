/-
  The contracts of osc.Age and sundialref02.Age, and of sundiallaw02.awake and into: a span moved on by what a count says.
  Conditions: the arguments are of their kinds.
-/
import Derived.Test.YthdkkcibomigcaaOscE
namespace Go.Proofs.Ythdkkcibomigcaa.Fx
open Go.RowKit

theorem el_bd {d rho : Int} (hd : 0 ≤ d) (hr : 0 ≤ rho) (hr' : rho ≤ 1000) : 0 ≤ elLo d rho ∧ elLo d rho ≤ 1099511627776 ∧ elLo d rho ≤ elHi d rho ∧ elHi d rho ≤ 2305843009213693952 := by
  have a := low_bd (d := d) hr
  have b := high_bd hd hr hr'
  unfold elLo elHi
  split <;> omega

/-- block b holds the span from lo to hi, and may be written. -/
def Sq (w : World) (b : Nat) (lo hi : Int) : Prop :=
  b < w.heap.size ∧ w.cell? ⟨b, 0, none⟩ = some (.int .i64 lo) ∧ w.cell? ⟨b, 1, none⟩ = some (.int .i64 hi) ∧ w.frozen? ⟨b, 0, none⟩ = false ∧ w.frozen? ⟨b, 1, none⟩ = false

theorem Sq.below {w w' : World} {b : Nat} {lo hi : Int} (h : Sq w b lo hi) (k : Below w.heap.size w w') : Sq w' b lo hi :=
  ⟨Nat.lt_of_lt_of_le h.1 k.size, (k.cell (p := ⟨b, 0, none⟩) h.1).trans h.2.1, (k.cell (p := ⟨b, 1, none⟩) h.1).trans h.2.2.1, (k.frozen (p := ⟨b, 0, none⟩) h.1).trans h.2.2.2.1, (k.frozen (p := ⟨b, 1, none⟩) h.1).trans h.2.2.2.2⟩
theorem Sq.alloc {w : World} {b : Nat} {lo hi : Int} (h : Sq w b lo hi) (o : Obj) : Sq (w.alloc o) b lo hi := h.below (balloc (brefl w) o)
theorem Sq.new (w : World) (lo hi : Int) : Sq (w.alloc (.cells #[.int .i64 lo, .int .i64 hi] 34)) w.heap.size lo hi :=
  ⟨by simp, by simp [go_sem], by simp [go_sem], by simp [go_sem], by simp [go_sem]⟩
theorem Sq.new1 (w : World) (o : Obj) (lo hi : Int) : Sq ((w.alloc o).alloc (.cells #[.int .i64 lo, .int .i64 hi] 34)) (w.heap.size + 1) lo hi := by
  have h := Sq.new (w.alloc o) lo hi
  rwa [show (w.alloc o).heap.size = w.heap.size + 1 from by simp] at h

theorem Sq.set {w : World} {b : Nat} {lo hi : Int} (h : Sq w b lo hi) (u v : Value) (o : Obj) :
    (((w.setCell ⟨b, 0, none⟩ u).setCell ⟨b, 1, none⟩ v).alloc o).cell? ⟨b, 0, none⟩ = some u ∧ (((w.setCell ⟨b, 0, none⟩ u).setCell ⟨b, 1, none⟩ v).alloc o).cell? ⟨b, 1, none⟩ = some v := by
  obtain ⟨h0, h1, h2, _, _⟩ := h
  have k := balloc (brefl ((w.setCell ⟨b, 0, none⟩ u).setCell ⟨b, 1, none⟩ v)) o
  have hs : b < ((w.setCell ⟨b, 0, none⟩ u).setCell ⟨b, 1, none⟩ v).heap.size := by simpa [World.setCell] using h0
  have n1 : (⟨b, 1, none⟩ : Addr) ≠ ⟨b, 0, none⟩ := by simp
  have n2 : (⟨b, 0, none⟩ : Addr) ≠ ⟨b, 1, none⟩ := by simp
  have s1 : (w.setCell ⟨b, 0, none⟩ u).cell? ⟨b, 1, none⟩ = some (.int .i64 hi) := (World.cell?_setCell_other _ _ _ _ n2).trans h2
  refine ⟨(k.cell (p := ⟨b, 0, none⟩) hs).trans ((World.cell?_setCell_other _ _ _ _ n1).trans (World.cell?_setCell_same _ _ _ h1)), (k.cell (p := ⟨b, 1, none⟩) hs).trans (World.cell?_setCell_same _ _ _ s1)⟩

set_option maxRecDepth 100000 in
set_option maxHeartbeats 1000000 in
theorem Age_shape (lo hi d rho : Int) (w : World) (h : ¬ okS lo hi) :
    Calls Try.prog 14 #[.agg #[.int .i64 lo, .int .i64 hi], .int .i64 d, .int .i64 rho] w fun e w' => e = .returned (.tuple #[.agg #[.int .i64 0, .int .i64 0], .int .i64 3]) ∧ Below w.heap.size w w' := by
  have HA := Lib.hid h
  clear h
  go_enter Try.func14, Try.ntmps14
  go_wp2_with fail
  refine (Check_badx _ _ _ HA.out).mono ?_
  rintro e w' ⟨rfl, rfl⟩
  go_wp2_with fail
  exact bodyPost_ret (v := .tuple #[.agg #[.int .i64 0, .int .i64 0], .int .i64 3]) (by simp [results, Try.results14, go_sem]) rfl ⟨rfl, by repeat (first | exact brefl _ | refine balloc ?_ _ | refine bdrew ?_ _ | refine Below.setCell ?_ (by first | (simp; done) | (simp; omega)) _)⟩

set_option maxRecDepth 100000 in
set_option maxHeartbeats 1000000 in
theorem Age_range (lo hi d rho : Int) (w : World) (h : okS lo hi) (hd : ¬ (0 ≤ d ∧ 0 ≤ rho ∧ rho ≤ 1000)) :
    Calls Try.prog 14 #[.agg #[.int .i64 lo, .int .i64 hi], .int .i64 d, .int .i64 rho] w fun e w' => e = .returned (.tuple #[.agg #[.int .i64 0, .int .i64 0], .int .i64 2]) ∧ Below w.heap.size w w' := by
  have HA := Lib.hid h
  have HD := Lib.hid hd
  clear h hd
  go_enter Try.func14, Try.ntmps14
  go_wp2_with fail
  refine (Check_okx _ _ _ HA.out).mono ?_
  rintro e w' ⟨rfl, rfl⟩
  go_wp2_with fail
  refine (Elapsed_bad _ _ _ HD.out).mono ?_
  rintro e w1 ⟨rfl, hb⟩
  obtain ⟨hc, hf⟩ := bcell hb
  have HB := Lib.hid hb
  clear hb
  go_wp2_with fail
  exact bodyPost_ret (v := .tuple #[.agg #[.int .i64 0, .int .i64 0], .int .i64 2]) (by simp [results, Try.results14, go_sem, hc]) rfl ⟨rfl, by repeat (first | exact bstep (balloc (balloc (balloc (brefl _) _) _) _) HB.out | refine Below.setCell ?_ (by first | (simp; done) | (simp; omega)) _)⟩

set_option maxRecDepth 100000 in
set_option maxHeartbeats 2000000 in
theorem Age_ok (lo hi d rho : Int) (w : World) (h : okS lo hi) (hd : 0 ≤ d) (hr : 0 ≤ rho) (hr' : rho ≤ 1000) :
    Calls Try.prog 14 #[.agg #[.int .i64 lo, .int .i64 hi], .int .i64 d, .int .i64 rho] w fun e w' => e = .returned (.tuple #[.agg #[.int .i64 (shl lo (elLo d rho)), .int .i64 (shh hi (elHi d rho))], .int .i64 0]) ∧ Below w.heap.size w w' := by
  have HA := Lib.hid h
  have HE := Lib.hid (el_bd hd hr hr')
  have HD := Lib.hid (fun w => Elapsed_ok d rho w hd hr hr')
  clear h
  generalize elLo d rho = l at *
  generalize elHi d rho = m at *
  go_enter Try.func14, Try.ntmps14
  go_wp2_with fail
  refine (Check_okx _ _ _ HA.out).mono ?_
  rintro e w' ⟨rfl, rfl⟩
  go_wp2_with fail
  refine (HD.out _).mono ?_
  rintro e w1 ⟨rfl, hb⟩
  have A1 := Lib.hid ((((Sq.new w lo hi).alloc _).alloc _).below hb)
  have A2 := Lib.hid (((Sq.new1 w _ 0 0).alloc _).below hb)
  have HB := Lib.hid (bstep (balloc (balloc (balloc (brefl w) _) _) _) hb)
  clear hb
  obtain ⟨a1, a2, a3, a4, a5⟩ := A1.out
  go_wp2_with fail
  clear a1 a2 a3 a4 a5
  refine (Shift_ok _ _ _ _ HA.out (by have := HE.out; omega) (by have := HE.out; omega)).mono ?_
  rintro e w2 ⟨rfl, hb⟩
  have A3 := Lib.hid (A1.out.below hb)
  have A4 := Lib.hid (A2.out.below hb)
  have HB2 := Lib.hid (bstep HB.out hb)
  clear hb A1 A2 HB
  obtain ⟨a1, a2, a3, a4, a5⟩ := A3.out
  go_wp2_with fail
  clear a1 a2 a3 a4 a5
  refine (Shift_ok _ _ _ _ HA.out (by have := HE.out; omega) (by have := HE.out; omega)).mono ?_
  rintro e w3 ⟨rfl, hb⟩
  have A5 := Lib.hid ((A4.out.alloc _).below hb)
  have A6 := Lib.hid ((Sq.new w2 _ _).below hb)
  have HB3 := Lib.hid (bstep (balloc HB2.out _) hb)
  clear hb A3 A4 HB2
  obtain ⟨a1, a2, a3, a4, a5⟩ := A5.out
  obtain ⟨b1, b2, b3, b4, b5⟩ := A6.out
  go_wp2_with fail
  obtain ⟨t1, t2⟩ := A5.out.set (.int .i64 (shl lo l)) (.int .i64 (shh hi m)) (Obj.cells #[Value.int IntKind.i64 (shl lo m), Value.int IntKind.i64 (shh hi m)] 34)
  exact bodyPost_ret (v := .tuple #[.agg #[.int .i64 (shl lo l), .int .i64 (shh hi m)], .int .i64 0]) (by simp [results, Try.results14, go_sem, t1, t2]) rfl ⟨rfl, by repeat (first | exact HB3.out | refine balloc ?_ _ | refine bdrew ?_ _ | refine Below.setCell ?_ (by first | (simp; done) | (simp; omega)) _)⟩

set_option maxRecDepth 100000 in
set_option maxHeartbeats 1000000 in
theorem rAge_shape (lo hi d rho : Int) (w : World) (h : ¬ okS lo hi) :
    Calls Try.prog 15 #[.agg #[.int .i64 lo, .int .i64 hi], .int .i64 d, .int .i64 rho] w fun e w' => e = .returned (.tuple #[.agg #[.int .i64 0, .int .i64 0], .int .i64 3]) ∧ Below w.heap.size w w' := by
  have HA := Lib.hid h
  clear h
  go_enter Try.func15, Try.ntmps15
  go_wp2_with fail
  refine (rCheck_badx _ _ _ HA.out).mono ?_
  rintro e w' ⟨rfl, rfl⟩
  go_wp2_with fail
  exact bodyPost_ret (v := .tuple #[.agg #[.int .i64 0, .int .i64 0], .int .i64 3]) (by simp [results, Try.results15, go_sem]) rfl ⟨rfl, by repeat (first | exact brefl _ | refine balloc ?_ _ | refine bdrew ?_ _ | refine Below.setCell ?_ (by first | (simp; done) | (simp; omega)) _)⟩

set_option maxRecDepth 100000 in
set_option maxHeartbeats 1000000 in
theorem rAge_range (lo hi d rho : Int) (w : World) (h : okS lo hi) (hd : ¬ (0 ≤ d ∧ 0 ≤ rho ∧ rho ≤ 1000)) :
    Calls Try.prog 15 #[.agg #[.int .i64 lo, .int .i64 hi], .int .i64 d, .int .i64 rho] w fun e w' => e = .returned (.tuple #[.agg #[.int .i64 0, .int .i64 0], .int .i64 2]) ∧ Below w.heap.size w w' := by
  have HA := Lib.hid h
  have HD := Lib.hid hd
  clear h hd
  go_enter Try.func15, Try.ntmps15
  go_wp2_with fail
  refine (rCheck_okx _ _ _ HA.out).mono ?_
  rintro e w' ⟨rfl, rfl⟩
  go_wp2_with fail
  refine (rElapsed_bad _ _ _ HD.out).mono ?_
  rintro e w1 ⟨rfl, hb⟩
  obtain ⟨hc, hf⟩ := bcell hb
  have HB := Lib.hid hb
  clear hb
  go_wp2_with fail
  exact bodyPost_ret (v := .tuple #[.agg #[.int .i64 0, .int .i64 0], .int .i64 2]) (by simp [results, Try.results15, go_sem, hc]) rfl ⟨rfl, by repeat (first | exact bstep (balloc (balloc (balloc (brefl _) _) _) _) HB.out | refine Below.setCell ?_ (by first | (simp; done) | (simp; omega)) _)⟩

set_option maxRecDepth 100000 in
set_option maxHeartbeats 2000000 in
theorem rAge_ok (lo hi d rho : Int) (w : World) (h : okS lo hi) (hd : 0 ≤ d) (hr : 0 ≤ rho) (hr' : rho ≤ 1000) :
    Calls Try.prog 15 #[.agg #[.int .i64 lo, .int .i64 hi], .int .i64 d, .int .i64 rho] w fun e w' => e = .returned (.tuple #[.agg #[.int .i64 (shl lo (elLo d rho)), .int .i64 (shh hi (elHi d rho))], .int .i64 0]) ∧ Below w.heap.size w w' := by
  have HA := Lib.hid h
  have HE := Lib.hid (el_bd hd hr hr')
  have HD := Lib.hid (fun w => rElapsed_ok d rho w hd hr hr')
  obtain ⟨h1, h2, h3⟩ := h
  generalize elLo d rho = l at *
  generalize elHi d rho = m at *
  obtain ⟨E1, E2, E3, E4⟩ := HE.out
  clear HE
  by_cases c1 : lo = -2305843009213693952
  · have k1 : (lo != -2305843009213693952) = false := by simp [c1]
    by_cases c2 : hi = 2305843009213693952
    · have k2 : (hi != 2305843009213693952) = false := by simp [c2]
      have E : Hid (shl lo l = lo ∧ shh hi m = hi) := by
        constructor
        · unfold shl; rw [if_pos c1]
        · unfold shh; rw [if_pos c2]
      clear c1 c2
      go_enter Try.func15, Try.ntmps15
      go_wp2_with fail
      refine (rCheck_okx _ _ _ HA.out).mono ?_
      rintro e w' ⟨rfl, rfl⟩
      go_wp2_with fail
      refine (HD.out _).mono ?_
      rintro e w1 ⟨rfl, hb⟩
      have A1 := Lib.hid ((((Sq.new w lo hi).alloc _).alloc _).below hb)
      have A2 := Lib.hid (((Sq.new1 w _ 0 0).alloc _).below hb)
      have HB := Lib.hid (bstep (balloc (balloc (balloc (brefl w) _) _) _) hb)
      clear hb
      obtain ⟨a1, a2, a3, a4, a5⟩ := A1.out
      obtain ⟨b1, b2, b3, b4, b5⟩ := A2.out
      go_wp2_with fail
      rw [E.out.1, E.out.2]
      obtain ⟨t1, t2⟩ := A2.out.set (.int .i64 (lo)) (.int .i64 (hi)) (Obj.cells #[Value.int IntKind.i64 (lo), Value.int IntKind.i64 (hi)] 34)
      exact bodyPost_ret (v := .tuple #[.agg #[.int .i64 (lo), .int .i64 (hi)], .int .i64 0]) (by simp [results, Try.results15, go_sem, t1, t2]) rfl ⟨rfl, by repeat (first | exact HB.out | refine balloc ?_ _ | refine bdrew ?_ _ | refine Below.setCell ?_ (by first | (simp; done) | (simp; omega)) _)⟩
    · have k2 : (hi != 2305843009213693952) = true := by simp [c2]
      have E : Hid (shl lo l = lo ∧ shh hi m = bnd (hi + m)) := by
        constructor
        · unfold shl; rw [if_pos c1]
        · unfold shh; rw [if_neg c2]
      clear c1 c2
      go_enter Try.func15, Try.ntmps15
      go_wp2_with fail
      refine (rCheck_okx _ _ _ HA.out).mono ?_
      rintro e w' ⟨rfl, rfl⟩
      go_wp2_with fail
      refine (HD.out _).mono ?_
      rintro e w1 ⟨rfl, hb⟩
      have A1 := Lib.hid ((((Sq.new w lo hi).alloc _).alloc _).below hb)
      have A2 := Lib.hid (((Sq.new1 w _ 0 0).alloc _).below hb)
      have HB := Lib.hid (bstep (balloc (balloc (balloc (brefl w) _) _) _) hb)
      clear hb
      obtain ⟨a1, a2, a3, a4, a5⟩ := A1.out
      obtain ⟨b1, b2, b3, b4, b5⟩ := A2.out
      go_wp2_with fail
      refine (Bound_c _ _).mono ?_
      rintro e w' ⟨rfl, rfl⟩
      go_wp2_with fail
      rw [E.out.1, E.out.2]
      obtain ⟨t1, t2⟩ := A2.out.set (.int .i64 (lo)) (.int .i64 (bnd (hi + m))) (Obj.cells #[Value.int IntKind.i64 (lo), Value.int IntKind.i64 (bnd (hi + m))] 34)
      exact bodyPost_ret (v := .tuple #[.agg #[.int .i64 (lo), .int .i64 (bnd (hi + m))], .int .i64 0]) (by simp [results, Try.results15, go_sem, t1, t2]) rfl ⟨rfl, by repeat (first | exact HB.out | refine balloc ?_ _ | refine bdrew ?_ _ | refine Below.setCell ?_ (by first | (simp; done) | (simp; omega)) _)⟩
  · have k1 : (lo != -2305843009213693952) = true := by simp [c1]
    by_cases c2 : hi = 2305843009213693952
    · have k2 : (hi != 2305843009213693952) = false := by simp [c2]
      have E : Hid (shl lo l = bnd (lo + l) ∧ shh hi m = hi) := by
        constructor
        · unfold shl; rw [if_neg c1]
        · unfold shh; rw [if_pos c2]
      clear c1 c2
      go_enter Try.func15, Try.ntmps15
      go_wp2_with fail
      refine (rCheck_okx _ _ _ HA.out).mono ?_
      rintro e w' ⟨rfl, rfl⟩
      go_wp2_with fail
      refine (HD.out _).mono ?_
      rintro e w1 ⟨rfl, hb⟩
      have A1 := Lib.hid ((((Sq.new w lo hi).alloc _).alloc _).below hb)
      have A2 := Lib.hid (((Sq.new1 w _ 0 0).alloc _).below hb)
      have HB := Lib.hid (bstep (balloc (balloc (balloc (brefl w) _) _) _) hb)
      clear hb
      obtain ⟨a1, a2, a3, a4, a5⟩ := A1.out
      obtain ⟨b1, b2, b3, b4, b5⟩ := A2.out
      go_wp2_with fail
      refine (Bound_c _ _).mono ?_
      rintro e w' ⟨rfl, rfl⟩
      go_wp2_with fail
      rw [E.out.1, E.out.2]
      obtain ⟨t1, t2⟩ := A2.out.set (.int .i64 (bnd (lo + l))) (.int .i64 (hi)) (Obj.cells #[Value.int IntKind.i64 (bnd (lo + l)), Value.int IntKind.i64 (hi)] 34)
      exact bodyPost_ret (v := .tuple #[.agg #[.int .i64 (bnd (lo + l)), .int .i64 (hi)], .int .i64 0]) (by simp [results, Try.results15, go_sem, t1, t2]) rfl ⟨rfl, by repeat (first | exact HB.out | refine balloc ?_ _ | refine bdrew ?_ _ | refine Below.setCell ?_ (by first | (simp; done) | (simp; omega)) _)⟩
    · have k2 : (hi != 2305843009213693952) = true := by simp [c2]
      have E : Hid (shl lo l = bnd (lo + l) ∧ shh hi m = bnd (hi + m)) := by
        constructor
        · unfold shl; rw [if_neg c1]
        · unfold shh; rw [if_neg c2]
      clear c1 c2
      go_enter Try.func15, Try.ntmps15
      go_wp2_with fail
      refine (rCheck_okx _ _ _ HA.out).mono ?_
      rintro e w' ⟨rfl, rfl⟩
      go_wp2_with fail
      refine (HD.out _).mono ?_
      rintro e w1 ⟨rfl, hb⟩
      have A1 := Lib.hid ((((Sq.new w lo hi).alloc _).alloc _).below hb)
      have A2 := Lib.hid (((Sq.new1 w _ 0 0).alloc _).below hb)
      have HB := Lib.hid (bstep (balloc (balloc (balloc (brefl w) _) _) _) hb)
      clear hb
      obtain ⟨a1, a2, a3, a4, a5⟩ := A1.out
      obtain ⟨b1, b2, b3, b4, b5⟩ := A2.out
      go_wp2_with fail
      refine (Bound_c _ _).mono ?_
      rintro e w' ⟨rfl, rfl⟩
      go_wp2_with fail
      refine (Bound_c _ _).mono ?_
      rintro e w' ⟨rfl, rfl⟩
      go_wp2_with fail
      rw [E.out.1, E.out.2]
      obtain ⟨t1, t2⟩ := A2.out.set (.int .i64 (bnd (lo + l))) (.int .i64 (bnd (hi + m))) (Obj.cells #[Value.int IntKind.i64 (bnd (lo + l)), Value.int IntKind.i64 (bnd (hi + m))] 34)
      exact bodyPost_ret (v := .tuple #[.agg #[.int .i64 (bnd (lo + l)), .int .i64 (bnd (hi + m))], .int .i64 0]) (by simp [results, Try.results15, go_sem, t1, t2]) rfl ⟨rfl, by repeat (first | exact HB.out | refine balloc ?_ _ | refine bdrew ?_ _ | refine Below.setCell ?_ (by first | (simp; done) | (simp; omega)) _)⟩
end Go.Proofs.Ythdkkcibomigcaa.Fx
