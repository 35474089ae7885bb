/-
  The contracts of leap.offsetOf, adds, start and checkCall.
  Conditions: none.
-/
import Derived.Test.YtoecgabdjpgleaaLpJ
namespace Go.Proofs.Ytoecgabdjpgleaa.Lp
open Go.RowKit Go.ChangeShapes Go.WideShapes Go.ChangeAt Go.Joins Cv
set_option linter.unusedVariables false
set_option linter.unusedSimpArgs false

theorem cell_new {w : World} {C : Array Value} {ty : TypeId} {i : Nat} {v : Value} (h : C[i]? = some v) : (w.alloc (.cells C ty)).cell? ⟨w.heap.size, i, none⟩ = some v := by
  simp only [World.cell?, heap_alloc_new]
  exact h
theorem cell_new1 {w : World} {o : Obj} {C : Array Value} {ty : TypeId} {i : Nat} {v : Value} (h : C[i]? = some v) : ((w.alloc o).alloc (.cells C ty)).cell? ⟨w.heap.size + 1, i, none⟩ = some v := by
  have := cell_new (w := w.alloc o) (ty := ty) h
  rwa [show (w.alloc o).heap.size = w.heap.size + 1 from by simp] at this
theorem cell_old1 {w : World} {o o' : Obj} {p : Addr} (h : p.block < w.heap.size) : ((w.alloc o).alloc o').cell? p = w.cell? p := (balloc (balloc (brefl w) o) o').cell h
theorem cell_old2 {w : World} {C : Array Value} {ty : TypeId} {o' : Obj} {i : Nat} {v : Value} (h : C[i]? = some v) : ((w.alloc (.cells C ty)).alloc o').cell? ⟨w.heap.size, i, none⟩ = some v :=
  (cell_alloc_old (w := w.alloc (.cells C ty)) (o := o') (p := ⟨w.heap.size, i, none⟩) (by simp)).trans (cell_new h)

theorem offsetOf_c (x y : Int) (h0 : 0 ≤ y) (h1 : y ≤ 200) (w : World) :
    Calls Try.prog 17 #[.agg #[.int .i64 x, .int .i64 y]] w fun e w' => e = .returned (.int .i64 (y * 1048576)) ∧ Below w.heap.size w w' := by
  go_enter Try.func17, Try.ntmps17
  go_wp2_with fail
  go_ret
  exact ⟨rfl, balloc (brefl _) _⟩

set_option maxRecDepth 100000 in
set_option maxHeartbeats 4000000 in
theorem adds_c {w : World} {v : Value} {n : Nat} {a o : Nat → Int} {e : Int} (A : Cs w v n a o) (j : Nat) (hj : j + 1 < n) :
    Calls Try.prog 34 #[lv v e, .int .i64 ((j : Int) + 1)] w fun x w' => x = .returned (.bool (decide (o j < o (j + 1)))) ∧ Below w.heap.size w w' := by
  obtain ⟨ad, cap, rfl, a1, a2, a3, a4⟩ := A
  obtain ⟨b, off, rfl, hbl, hK⟩ := a4 (by omega)
  obtain ⟨x1, x2⟩ := hK j (by omega)
  obtain ⟨y1, y2⟩ := hK (j + 1) (by omega)
  unfold lv
  have X1 : Below w.heap.size w (w.alloc (.cells #[.slice (some ⟨b, off, none⟩) n cap, .int .i64 e] 32)) := balloc (brefl w) _
  have X2 := Lib.hid X1
  have g0 : (w.alloc (.cells #[.slice (some ⟨b, off, none⟩) n cap, .int .i64 e] 32)).cell? ⟨w.heap.size, 0, none⟩ = some (.slice (some ⟨b, off, none⟩) n cap) := by
    simp only [World.cell?, heap_alloc_new]
    rfl
  have x2' := (X1.cell (p := ⟨b, _, none⟩) hbl).trans x2
  have y2' := (X1.cell (p := ⟨b, _, none⟩) hbl).trans y2
  have l0 : (0 : Int) ≤ (j : Int) := by omega
  have l1 : (j : Int) < (n : Int) := by omega
  have l2 : (j : Int) + 1 < (n : Int) := by omega
  have l3 : IntKind.i64.wrap (j : Int) = (j : Int) := IntWalk.i64_in _ (by omega)
  have l4 : ((j : Int) + 1).toNat = j + 1 := by omega
  have l5 : (0 : Int) ≤ (j : Int) + 1 := by omega
  clear X1 x1 x2 y1 y2 hK a4
  generalize o j = oj at *
  generalize o (j + 1) = ok at *
  go_enter Try.func34, Try.ntmps34
  go_wp2_with fail
  go_quiet (fail)
  go_wp2_with fail
  go_ret
  exact ⟨rfl, bdrew X2.out nq⟩

set_option maxRecDepth 100000 in
set_option maxHeartbeats 4000000 in
theorem start_c {w : World} {v : Value} {n : Nat} {a o : Nat → Int} {e : Int} (A : Cs w v n a o) (j : Nat) (hj : j + 1 < n) (b0 : 0 ≤ a (j + 1)) (b1 : a (j + 1) ≤ 10485759998951424) (b2 : 0 ≤ o (j + 1)) (b3 : o (j + 1) ≤ 200) :
    Calls Try.prog 16 #[lv v e, .int .i64 ((j : Int) + 1)] w fun x w' => x = .returned (.int .i64 (bg a o (j + 1))) ∧ Below w.heap.size w w' := by
  have A0 := Lib.hid A
  obtain ⟨ad, cap, rfl, a1, a2, a3, a4⟩ := A
  obtain ⟨b, off, rfl, hbl, hK⟩ := a4 (by omega)
  obtain ⟨y1, y2⟩ := hK (j + 1) (by omega)
  unfold lv
  have l2 : (j : Int) + 1 < (n : Int) := by omega
  have l4 : ((j : Int) + 1).toNat = j + 1 := by omega
  have l5 : (0 : Int) ≤ (j : Int) + 1 := by omega
  have AD : Hid (∀ w', Below w.heap.size w w' → Calls Try.prog 34 #[.agg #[.slice (some ⟨b, off, none⟩) n cap, .int .i64 e], .int .i64 ((j : Int) + 1)] w' fun x w'' => x = .returned (.bool (decide (o j < o (j + 1)))) ∧ Below w'.heap.size w' w'') := Lib.hid fun w' h => adds_c (A0.out.below h) j hj
  have BG : Hid (bg a o (j + 1) = if o j < o (j + 1) then a (j + 1) + o (j + 1) * 1048576 - 1048576 else a (j + 1) + o (j + 1) * 1048576) := Lib.hid rfl
  have OC := Lib.hid (fun w => offsetOf_c (a (j + 1)) (o (j + 1)) b2 b3 w)
  generalize bg a o (j + 1) = B at *
  clear hK a4 A0 a3
  have ho : ∃ p : Int, o (j + 1) * 1048576 = p ∧ 0 ≤ p ∧ p ≤ 209715200 := ⟨_, rfl, by omega, by omega⟩
  obtain ⟨p, hp, p0, p1⟩ := ho
  rw [hp] at OC BG
  clear hp
  have s0 : IntKind.i64.wrap (a (j + 1) + p) = a (j + 1) + p := IntWalk.i64_in _ (by omega)
  generalize o j = oj at *
  generalize a (j + 1) = ak at *
  generalize o (j + 1) = ok at *
  have q1 := fun (o1 o2 : Obj) => (cell_old1 (o := o1) (o' := o2) (p := ⟨b, _, none⟩) hbl).trans y1
  go_enter Try.func16, Try.ntmps16
  go_wp2_with fail
  clear q1
  have X2 : Hid (Below w.heap.size w ((w.alloc (.cells #[.slice (some ⟨b, off, none⟩) n cap, .int .i64 e] 32)).alloc (.cells #[.int .i64 ak, .int .i64 ok] 49))) := Lib.hid (balloc (balloc (brefl w) _) _)
  have z2 : w.heap.size + 1 < ((w.alloc (.cells #[.slice (some ⟨b, off, none⟩) n cap, .int .i64 e] 32)).alloc (.cells #[.int .i64 ak, .int .i64 ok] 49)).heap.size := by simp
  have c0 := Lib.hid (cell_old2 (w := w) (C := #[.slice (some ⟨b, off, none⟩) n cap, .int .i64 e]) (ty := 32) (o' := .cells #[.int .i64 ak, .int .i64 ok] 49) (i := 0) rfl)
  have c1 := Lib.hid (cell_old2 (w := w) (C := #[.slice (some ⟨b, off, none⟩) n cap, .int .i64 e]) (ty := 32) (o' := .cells #[.int .i64 ak, .int .i64 ok] 49) (i := 1) rfl)
  have d0 := Lib.hid (cell_new1 (w := w) (o := .cells #[.slice (some ⟨b, off, none⟩) n cap, .int .i64 e] 32) (C := #[.int .i64 ak, .int .i64 ok]) (ty := 49) (i := 0) rfl)
  have d1 := Lib.hid (cell_new1 (w := w) (o := .cells #[.slice (some ⟨b, off, none⟩) n cap, .int .i64 e] 32) (C := #[.int .i64 ak, .int .i64 ok]) (ty := 49) (i := 1) rfl)
  generalize (w.alloc (.cells #[.slice (some ⟨b, off, none⟩) n cap, .int .i64 e] 32)).alloc (.cells #[.int .i64 ak, .int .i64 ok] 49) = w2 at *
  have KP : Hid (∀ w', Below w2.heap.size w2 w' → w'.cell? ⟨w.heap.size + 1, 0, none⟩ = some (.int .i64 ak) ∧ w'.cell? ⟨w.heap.size + 1, 1, none⟩ = some (.int .i64 ok)) := Lib.hid fun w' h => ⟨(h.cell (p := ⟨w.heap.size + 1, 0, none⟩) z2).trans d0.out, (h.cell (p := ⟨w.heap.size + 1, 1, none⟩) z2).trans d1.out⟩
  have hb0 : Below w2.heap.size w2 w2.drew := (brefl w2).drew
  go_region_held3 (fun w' => w'.cell? ⟨w.heap.size + 1, 0, none⟩ = some (.int .i64 ak) ∧ w'.cell? ⟨w.heap.size + 1, 1, none⟩ = some (.int .i64 ok))
    (first | exact KP.out _ (by assumption))
    (first | (go_at_call 17; (with_reducible refine (OC.out _).mono ?_); rintro e w' ⟨rfl, hb⟩; replace hb := bstep (w := w2) (by assumption) hb))
  all_goals
    rename Below w2.heap.size w2 _ => hb
    have k0 := (hb.cell (p := ⟨w.heap.size, 0, none⟩) (by show w.heap.size < _; omega)).trans c0.out
    have k1 := (hb.cell (p := ⟨w.heap.size, 1, none⟩) (by show w.heap.size < _; omega)).trans c1.out
    have BB := Lib.hid (bstep X2.out hb)
    clear hb s0
    go_wp2_with fail
    refine (AD.out _ BB.out).mono ?_
    rintro x w4 ⟨rfl, hb4⟩
    have B4 := Lib.hid (bstep BB.out hb4)
    clear hb4
    by_cases c : oj < ok
    · have e0 : decide (oj < ok) = true := decide_eq_true c
      rw [if_pos c] at BG
      clear c
      go_wp2_with fail
      go_ret
      exact ⟨by rw [BG.out]; rfl, B4.out⟩
    · have e0 : decide (oj < ok) = false := decide_eq_false c
      rw [if_neg c] at BG
      clear c
      go_wp2_with fail
      go_ret
      exact ⟨by rw [BG.out]; rfl, B4.out⟩

theorem checkCall_ok {w : World} {v : Value} {n : Nat} {a o : Nat → Int} {e t : Int} (A : Cs w v n a o) (h : Tb n a o e) (h0 : 0 ≤ t) (h1 : t ≤ 288230376151711744) :
    Calls Try.prog 15 #[lv v e, .int .i64 t] w fun x w' => x = .returned (.int .i64 0) ∧ Below w.heap.size w w' := by
  have C := Lib.hid (fun w (A : Cs w v n a o) => Check_c (e := e) A)
  have A0 := Lib.hid A
  have H := Lib.hid h
  have e0 : decide (t < 0) = false := decide_eq_false (by omega)
  have e1 : decide (288230376151711744 < t) = false := decide_eq_false (by omega)
  clear A h
  unfold lv at *
  go_enter Try.func15, Try.ntmps15
  go_wp2_with fail
  refine (C.out _ (A0.out.below (balloc (brefl w) _))).mono ?_
  rintro x w1 ⟨hc, hb⟩
  obtain ⟨_, rfl⟩ := hc.resolve_right (fun g => g.1 H.out)
  have HB := Lib.hid (bstep (balloc (brefl w) _) hb)
  clear hb hc
  go_wp2_with fail
  go_ret
  exact ⟨rfl, HB.out⟩
theorem checkCall_range {w : World} {v : Value} {n : Nat} {a o : Nat → Int} {e t : Int} (A : Cs w v n a o) (h : Tb n a o e) (h0 : ¬ (0 ≤ t ∧ t ≤ 288230376151711744)) :
    Calls Try.prog 15 #[lv v e, .int .i64 t] w fun x w' => x = .returned (.int .i64 2) ∧ Below w.heap.size w w' := by
  have C := Lib.hid (fun w (A : Cs w v n a o) => Check_c (e := e) A)
  have A0 := Lib.hid A
  have H := Lib.hid h
  clear A h
  unfold lv at *
  by_cases c : t < 0
  all_goals
    first | have e0 : decide (t < 0) = true := decide_eq_true (by omega) | have e0 : decide (t < 0) = false := decide_eq_false (by omega)
    have e1 : decide (288230376151711744 < t) = decide (288230376151711744 < t) := rfl
    go_enter Try.func15, Try.ntmps15
    go_wp2_with fail
    refine (C.out _ (A0.out.below (balloc (brefl w) _))).mono ?_
    rintro x w1 ⟨hc, hb⟩
    obtain ⟨_, rfl⟩ := hc.resolve_right (fun g => g.1 H.out)
    have HB := Lib.hid (bstep (balloc (brefl w) _) hb)
    clear hb hc e1
    first | (have e2 : decide (288230376151711744 < t) = true := decide_eq_true (by omega)) | skip
    clear h0
    go_wp2_with fail
    go_ret
    exact ⟨rfl, HB.out⟩
theorem checkCall_shape {w : World} {v : Value} {n : Nat} {a o : Nat → Int} {e t : Int} (A : Cs w v n a o) (h : ¬ Tb n a o e) :
    Calls Try.prog 15 #[lv v e, .int .i64 t] w fun x w' => x = .returned (.int .i64 3) ∧ Below w.heap.size w w' := by
  have C := Lib.hid (fun w (A : Cs w v n a o) => Check_c (e := e) A)
  have A0 := Lib.hid A
  have H := Lib.hid h
  clear A h
  unfold lv at *
  go_enter Try.func15, Try.ntmps15
  go_wp2_with fail
  refine (C.out _ (A0.out.below (balloc (brefl w) _))).mono ?_
  rintro x w1 ⟨hc, hb⟩
  obtain ⟨_, rfl⟩ := hc.resolve_left (fun g => H.out g.1)
  have HB := Lib.hid (bstep (balloc (brefl w) _) hb)
  clear hb hc
  go_wp2_with fail
  go_ret
  exact ⟨rfl, HB.out⟩
end Go.Proofs.Ytoecgabdjpgleaa.Lp
