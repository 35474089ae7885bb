/-
  The contracts of leap.isSecond, beginsMonth, follows and Check: a right table.
  Conditions: none.
-/
import Derived.Test.YtoecgabdjpgleaaLpF
import Derived.Test.YtoecgabdjpgleaaLpH
import Derived.Test.YtoecgabdjpgleaaLpI
import Derived.Deep.RegionHeld3
import Derived.IntWalk
namespace Go.Proofs.Ytoecgabdjpgleaa.Lp
open Go.RowKit Go.ChangeShapes Go.WideShapes Go.ChangeAt Go.Joins Cv
set_option linter.unusedVariables false
set_option linter.unusedSimpArgs false

theorem isSecond_yes (t : Int) (h0 : 0 ≤ t) (h1 : t ≤ 10485759998951424) (h2 : t % 1048576 = 0) (w : World) :
    Calls Try.prog 54 #[.int .i64 t] w fun e w' => e = .returned (.bool true) ∧ w' = w := by
  have e0 : decide (0 ≤ t) = true := decide_eq_true h0
  have e1 : decide (t ≤ 10485759998951424) = true := decide_eq_true h1
  have e2 : t.tmod 1048576 = 0 := (tm0 _ _).2 h2
  go_enter Try.func54, Try.ntmps54
  go_wp2
  go_ret
  exact ⟨rfl, rfl⟩
theorem isSecond_no (t : Int) (h : ¬ (0 ≤ t ∧ t ≤ 10485759998951424 ∧ t % 1048576 = 0)) (w : World) :
    Calls Try.prog 54 #[.int .i64 t] w fun e w' => e = .returned (.bool false) ∧ w' = w := by
  by_cases c0 : 0 ≤ t
  · have e0 : decide (0 ≤ t) = true := decide_eq_true c0
    by_cases c1 : t ≤ 10485759998951424
    · have e1 : decide (t ≤ 10485759998951424) = true := decide_eq_true c1
      have e2 : Hid ((t % 1048576 == 0) = false) := Lib.hid (by simp; exact fun q => h ⟨c0, c1, q⟩)
      clear h
      go_enter Try.func54, Try.ntmps54
      go_wp2
      go_ret
      exact ⟨ret_b e2.out, rfl⟩
    · have e1 : decide (t ≤ 10485759998951424) = false := decide_eq_false c1
      clear h
      go_enter Try.func54, Try.ntmps54
      go_wp2
      go_ret
      exact ⟨rfl, rfl⟩
  · have e0 : decide (0 ≤ t) = false := decide_eq_false c0
    clear h
    go_enter Try.func54, Try.ntmps54
    go_wp2
    go_ret
    exact ⟨rfl, rfl⟩

theorem beginsMonth_yes (t : Int) (h : mo t) (h1 : t ≤ 10485759998951424) (w : World) :
    Calls Try.prog 55 #[.int .i64 t] w fun e w' => e = .returned (.bool true) ∧ Below w.heap.size w w' := by
  obtain ⟨h0, h2, y, m, hd⟩ := h
  have S := Lib.hid (fun w => isSecond_yes t h0 h1 (by omega) w)
  have D := Lib.hid (fun w => Day_is hd w)
  have e2 : (t % 90596966400 != 0) = false := by simpa using h2
  clear hd h2
  go_enter Try.func55, Try.ntmps55
  go_wp2_with fail
  refine (S.out _).mono ?_
  rintro e w1 ⟨rfl, rfl⟩
  go_wp2_with fail
  refine (D.out _).mono ?_
  rintro e w2 ⟨rfl, hb⟩
  have HB := Lib.hid hb
  clear hb
  go_wp2_with fail
  go_ret
  exact ⟨rfl, balloc HB.out _⟩
theorem beginsMonth_no (t : Int) (h : ¬ (mo t ∧ t ≤ 10485759998951424)) (w : World) :
    Calls Try.prog 55 #[.int .i64 t] w fun e w' => e = .returned (.bool false) ∧ Below w.heap.size w w' := by
  by_cases c : 0 ≤ t ∧ t ≤ 10485759998951424 ∧ t % 1048576 = 0
  · have S := Lib.hid (fun w => isSecond_yes t c.1 c.2.1 c.2.2 w)
    obtain ⟨c0, c1, _⟩ := c
    by_cases c2 : t % 90596966400 = 0
    · have e2 : (t % 90596966400 != 0) = false := by simpa using c2
      obtain ⟨y, m, d, hd⟩ := day_ex (n := t / 90596966400) (by omega) (by omega)
      have D := Lib.hid (fun w => Day_is hd w)
      have e3 : (d == 1) = false := by
        rw [beq_eq_false_iff_ne]
        intro q
        subst q
        exact h ⟨⟨c0, c2, y, m, hd⟩, c1⟩
      clear hd h c2
      go_enter Try.func55, Try.ntmps55
      go_wp2_with fail
      refine (S.out _).mono ?_
      rintro e w1 ⟨rfl, rfl⟩
      go_wp2_with fail
      refine (D.out _).mono ?_
      rintro e w2 ⟨rfl, hb⟩
      have HB := Lib.hid hb
      clear hb
      go_wp2_with fail
      go_ret
      exact ⟨rfl, balloc HB.out _⟩
    · have e2 : (t % 90596966400 != 0) = true := by simpa using c2
      clear h c2
      go_enter Try.func55, Try.ntmps55
      go_wp2_with fail
      refine (S.out _).mono ?_
      rintro e w1 ⟨rfl, rfl⟩
      go_wp2_with fail
      go_ret
      exact ⟨rfl, brefl _⟩
  · have S := Lib.hid (fun w => isSecond_no t c w)
    clear h c
    go_enter Try.func55, Try.ntmps55
    go_wp2_with fail
    refine (S.out _).mono ?_
    rintro e w1 ⟨rfl, rfl⟩
    go_wp2_with fail
    go_ret
    exact ⟨rfl, brefl _⟩

theorem follows_c (x y x' y' : Int) (b1 : 0 ≤ y) (b2 : y ≤ 200) (b3 : 0 ≤ y') (b4 : y' ≤ 200) (w : World) :
    Calls Try.prog 56 #[.agg #[.int .i64 x', .int .i64 y'], .agg #[.int .i64 x, .int .i64 y]] w fun e w' => e = .returned (.bool (decide (x < x') && (decide (y' = y + 1) || decide (y' = y - 1)))) ∧ Below w.heap.size w w' := by
  by_cases c1 : x < x'
  · by_cases c2 : y' = y + 1
    · have e2 : (y' - y == 1) = true := by simp; omega
      have H := Lib.hid c2
      clear c2
      go_enter Try.func56, Try.ntmps56
      go_wp2_with fail
      go_ret
      exact ⟨ret_b (by simp [H.out, c1]), balloc (balloc (brefl _) _) _⟩
    · have e2 : (y' - y == 1) = false := by simp; omega
      by_cases c3 : y' = y - 1
      · have e3 : (y' - y == -1) = true := by simp; omega
        have H := Lib.hid c3
        clear c2 c3
        go_enter Try.func56, Try.ntmps56
        go_wp2_with fail
        go_ret
        exact ⟨ret_b (by simp [H.out, c1]), balloc (balloc (brefl _) _) _⟩
      · have e3 : (y' - y == -1) = false := by simp; omega
        have H := Lib.hid (And.intro c2 c3)
        clear c2 c3
        go_enter Try.func56, Try.ntmps56
        go_wp2_with fail
        go_ret
        exact ⟨ret_b (by simp [H.out.1, H.out.2]), balloc (balloc (brefl _) _) _⟩
  · have e1 : decide (x < x') = false := decide_eq_false c1
    go_enter Try.func56, Try.ntmps56
    go_wp2_with fail
    go_ret
    exact ⟨ret_b (by simp [e1]), balloc (balloc (brefl _) _) _⟩

/-- what is gone through so far: right changes. -/
def Okk (a o : Nat → Int) (k : Nat) : Prop := ∀ i, i < k → ch1 (a i) (o i) ∧ (0 < i → ch2 (a (i - 1)) (o (i - 1)) (a i) (o i))
theorem Okk.next {a o : Nat → Int} {k : Nat} (h : Okk a o k) (h1 : ch1 (a k) (o k)) (h2 : 0 < k → ch2 (a (k - 1)) (o (k - 1)) (a k) (o k)) : Okk a o (k + 1) := fun i hi => by
  by_cases e : i = k
  · subst e; exact ⟨h1, h2⟩
  · exact h i (by omega)
theorem cell_alloc_old {w : World} {o : Obj} {p : Addr} (h : p.block < w.heap.size) : (w.alloc o).cell? p = w.cell? p := (balloc (brefl w) o).cell h
def ChP (n : Nat) (a o : Nat → Int) (e : Int) (x : Ending) : Prop := (Tb n a o e ∧ x = .returned (.int .i64 0)) ∨ (¬ Tb n a o e ∧ x = .returned (.int .i64 3))
theorem ch2_b {x y x' y' : Int} : ch2 x y x' y' ↔ (decide (x < x') && (decide (y' = y + 1) || decide (y' = y - 1))) = true := by
  unfold ch2
  simp only [Bool.and_eq_true, Bool.or_eq_true, decide_eq_true_iff]

set_option maxRecDepth 100000 in
set_option maxHeartbeats 4000000 in
theorem Check_c {w : World} {v : Value} {n : Nat} {a o : Nat → Int} {e : Int} (A : Cs w v n a o) :
    Calls Try.prog 33 #[lv v e] w fun x w' => ChP n a o e x ∧ Below w.heap.size w w' := by
  obtain ⟨ad, cap, rfl, a1, a2, a3, a4⟩ := A
  have H3 := Lib.hid a3
  have H4 := Lib.hid a4
  clear a3 a4
  unfold lv
  by_cases cn : n = 0
  · subst cn
    have NT : Hid (¬ Tb 0 a o e) := Lib.hid (fun h => Nat.lt_irrefl _ h.1.pos)
    go_enter Try.func33, Try.ntmps33
    go_wp2_with fail
    go_ret
    exact ⟨.inr ⟨NT.out, rfl⟩, balloc (brefl _) _⟩
  · have n0 : ((n : Int) == 0) = false := by simp; omega
    by_cases ce : 0 ≤ e ∧ e ≤ 10485759998951424 ∧ e % 1048576 = 0
    · have S := Lib.hid (fun w => isSecond_yes e ce.1 ce.2.1 ce.2.2 w)
      have CE := Lib.hid ce
      have CN := Lib.hid cn
      clear ce cn
      go_enter Try.func33, Try.ntmps33
      go_wp2_with fail
      refine (S.out _).mono ?_
      rintro x w1 ⟨rfl, rfl⟩
      go_wp2_with fail
      have X1 : Below w.heap.size w (w.alloc (.cells #[.slice ad n cap, .int .i64 e] 32)) := balloc (brefl w) _
      have X2 := Lib.hid X1
      have z2 : w.heap.size < (w.alloc (.cells #[.slice ad n cap, .int .i64 e] 32)).heap.size := by simp
      have g0 : (w.alloc (.cells #[.slice ad n cap, .int .i64 e] 32)).cell? ⟨w.heap.size, 0, none⟩ = some (.slice ad n cap) := by
        simp only [World.cell?, heap_alloc_new]
        rfl
      generalize w.alloc (.cells #[.slice ad n cap, .int .i64 e] 32) = w2 at *
      have G0 := Lib.hid g0
      clear g0 X1
      go_loopw [18] (fun iv wr => ∃ k : Nat, k ≤ n ∧ iv = .int .i64 k ∧ Okk a o k ∧ Below w2.heap.size w2 wr) (fun iv _ => n - (intOf iv).toNat)
      case atStart => exact ⟨0, Nat.zero_le _, rfl, fun j hj => absurd hj (Nat.not_lt_zero _), brefl w2⟩
      case round =>
        obtain ⟨k, hk, rfl, hok, hb⟩ := hrel
        rename World => wr
        have OK := Lib.hid hok
        have BB := Lib.hid hb
        have c0 := (hb.cell (p := ⟨w.heap.size, 0, none⟩) z2).trans G0.out
        have z3 : w.heap.size < wr.heap.size := Nat.lt_of_lt_of_le z2 hb.size
        clear hok hb
        by_cases c : k < n
        · have f1 : decide ((k : Int) < (n : Int)) = true := by rw [decide_eq_true_iff]; omega
          obtain ⟨b, off, rfl, hbl, hK⟩ := H4.out (by omega)
          have hbr : b < wr.heap.size := by have := X2.out.size; have := BB.out.size; omega
          have q := bstep X2.out BB.out
          obtain ⟨x1, x2⟩ := hK k c
          rw [← q.cell (p := ⟨b, _, none⟩) hbl] at x1 x2
          have HC := Lib.hid c0
          have HK : Hid (∀ i, i < n → wr.cell? ⟨b, off + i * 2, none⟩ = some (.int .i64 (a i)) ∧ wr.cell? ⟨b, off + i * 2 + 1, none⟩ = some (.int .i64 (o i))) := Lib.hid fun i hi => ⟨(q.cell (p := ⟨b, _, none⟩) hbl).trans (hK i hi).1, (q.cell (p := ⟨b, _, none⟩) hbl).trans (hK i hi).2⟩
          have NX : Hid (ch1 (a k) (o k) → (0 < k → ch2 (a (k - 1)) (o (k - 1)) (a k) (o k)) → Okk a o (k + 1)) := Lib.hid fun h1 h2 => OK.out.next h1 h2
          have NO : Hid ((¬ ch1 (a k) (o k) ∨ (0 < k ∧ ¬ ch2 (a (k - 1)) (o (k - 1)) (a k) (o k))) → ¬ Tb n a o e) := Lib.hid fun h t => rt_no c h t.1
          clear hK H4 q c0
          by_cases d1 : mo (a k) ∧ a k ≤ 10485759998951424
          · have M := Lib.hid (fun w => beginsMonth_yes (a k) d1.1 d1.2 w)
            by_cases d2 : 0 ≤ o k
            · have e2 : decide (o k < 0) = false := decide_eq_false (by omega)
              by_cases d3 : o k ≤ 200
              · have e3 : decide (200 < o k) = false := decide_eq_false (by omega)
                have C1 : Hid (ch1 (a k) (o k)) := Lib.hid ⟨d1.1, d1.2, d2, d3⟩
                clear d1
                by_cases k0 : k = 0
                · subst k0
                  have NXT : Hid (Okk a o (0 + 1)) := Lib.hid (NX.out C1.out (fun h => absurd h (Nat.lt_irrefl _)))
                  clear NX NO OK
                  simp only [Nat.zero_mul, Nat.add_zero] at x1 x2
                  generalize a 0 = ak at *
                  generalize o 0 = ok at *
                  go_wp2_with fail
                  (with_reducible refine (M.out _).mono ?_)
                  rintro x w3 ⟨rfl, hb3⟩
                  have q1 := hb3.cell (p := ⟨wr.heap.size, 1, none⟩) (by simp)
                  simp [go_sem] at q1
                  have B3 := Lib.hid (bstep (balloc BB.out _) hb3)
                  clear hb3
                  go_wp2_with fail
                  go_quiet (fail)
                  go_wp2_with fail
                  go_roundw
                  case rel => exact ⟨1, by omega, by go_num, NXT.out, bdrew B3.out nq⟩
                  case measure => simp [intOf]; omega
                · obtain ⟨j, rfl⟩ : ∃ j, k = j + 1 := ⟨k - 1, by omega⟩
                  obtain ⟨y1, y2⟩ := HK.out j (by omega)
                  obtain ⟨_, _, b1, b2⟩ := (OK.out j (by omega)).1
                  have f2 : decide (0 < (j : Int) + 1) = true := decide_eq_true (by omega)
                  have FC := fun w => follows_c (a j) (o j) (a (j + 1)) (o (j + 1)) b1 b2 d2 d3 w
                  by_cases d4 : ch2 (a j) (o j) (a (j + 1)) (o (j + 1))
                  · have NXT : Hid (Okk a o (j + 1 + 1)) := Lib.hid (NX.out C1.out (fun _ => d4))
                    rw [ch2_b.1 d4] at FC
                    have F := Lib.hid FC
                    clear NX NO OK FC d4 HK C1
                    generalize a j = aj at *
                    generalize o j = oj at *
                    generalize a (j + 1) = ak at *
                    generalize o (j + 1) = ok at *
                    go_wp2_with fail
                    (with_reducible refine (M.out _).mono ?_)
                    rintro x w3 ⟨rfl, hb3⟩
                    have q0 := hb3.cell (p := ⟨wr.heap.size, 0, none⟩) (by simp)
                    have q1 := hb3.cell (p := ⟨wr.heap.size, 1, none⟩) (by simp)
                    simp [go_sem] at q0 q1
                    have p1 := (hb3.cell (p := ⟨b, off + j * 2, none⟩) (by show b < _; simp; omega))
                    have p2 := (hb3.cell (p := ⟨b, off + j * 2 + 1, none⟩) (by show b < _; simp; omega))
                    have p3 := (hb3.cell (p := ⟨w.heap.size, 0, none⟩) (by show w.heap.size < _; simp; omega))
                    rw [cell_alloc_old (by show b < _; omega)] at p1 p2
                    rw [cell_alloc_old (by show w.heap.size < _; omega)] at p3
                    have p1' := p1.trans y1
                    have p2' := p2.trans y2
                    have p3' := p3.trans HC.out
                    have z5 : wr.heap.size < w3.heap.size := Nat.lt_of_lt_of_le (by simp) hb3.size
                    have z6 : b < w3.heap.size := by omega
                    have z7 : w.heap.size < w3.heap.size := by omega
                    have B3 := Lib.hid (bstep (balloc BB.out _) hb3)
                    have KP : Hid (∀ w', Below w3.heap.size w3 w' → w'.cell? ⟨wr.heap.size, 0, none⟩ = some (.int .i64 ak) ∧ w'.cell? ⟨wr.heap.size, 1, none⟩ = some (.int .i64 ok) ∧ w'.cell? ⟨b, off + j * 2, none⟩ = some (.int .i64 aj) ∧ w'.cell? ⟨b, off + j * 2 + 1, none⟩ = some (.int .i64 oj) ∧ w'.cell? ⟨w.heap.size, 0, none⟩ = some (.slice (some ⟨b, off, none⟩) n cap)) := Lib.hid fun w' h => ⟨(h.cell (p := ⟨wr.heap.size, 0, none⟩) z5).trans q0, (h.cell (p := ⟨wr.heap.size, 1, none⟩) z5).trans q1, (h.cell (p := ⟨b, _, none⟩) z6).trans p1', (h.cell (p := ⟨b, _, none⟩) z6).trans p2', (h.cell (p := ⟨w.heap.size, 0, none⟩) z7).trans p3'⟩
                    have l0 : (0 : Int) ≤ (j : Int) := by omega
                    have l1 : (j : Int) < (n : Int) := by omega
                    have l2 : (j : Int) < (cap : Int) := by omega
                    have l3 : IntKind.i64.wrap (j : Int) = (j : Int) := IntWalk.i64_in _ (by omega)
                    clear hb3 p1 p2 p3 y1 y2 HC
                    go_wp2_with fail
                    have hb0 : Below w3.heap.size w3 w3.drew := (brefl w3).drew
                    go_region_held3 (fun w' => w'.cell? ⟨wr.heap.size, 0, none⟩ = some (.int .i64 ak) ∧ w'.cell? ⟨wr.heap.size, 1, none⟩ = some (.int .i64 ok) ∧ w'.cell? ⟨b, off + j * 2, none⟩ = some (.int .i64 aj) ∧ w'.cell? ⟨b, off + j * 2 + 1, none⟩ = some (.int .i64 oj) ∧ w'.cell? ⟨w.heap.size, 0, none⟩ = some (.slice (some ⟨b, off, none⟩) n cap))
                      (first | exact KP.out _ (by assumption))
                      (first | (go_at_call 56; (with_reducible refine (F.out _).mono ?_); rintro e w' ⟨rfl, hb⟩; replace hb := bstep (w := w3) (by assumption) hb))
                    all_goals
                      have BZ := Lib.hid (bstep B3.out (by assumption))
                      go_wp2_with fail
                      go_roundw
                    case rel => exact ⟨j + 1 + 1, by omega, by go_num, NXT.out, BZ.out⟩
                    case measure => simp [intOf]; omega
                  · have NT : Hid (¬ Tb n a o e) := Lib.hid (NO.out (.inr ⟨by omega, d4⟩))
                    rw [eq_false_of_ne_true (fun h => d4 (ch2_b.2 h))] at FC
                    have F := Lib.hid FC
                    clear NX NO OK FC d4 HK C1
                    generalize a j = aj at *
                    generalize o j = oj at *
                    generalize a (j + 1) = ak at *
                    generalize o (j + 1) = ok at *
                    go_wp2_with fail
                    (with_reducible refine (M.out _).mono ?_)
                    rintro x w3 ⟨rfl, hb3⟩
                    have q0 := hb3.cell (p := ⟨wr.heap.size, 0, none⟩) (by simp)
                    have q1 := hb3.cell (p := ⟨wr.heap.size, 1, none⟩) (by simp)
                    simp [go_sem] at q0 q1
                    have p1 := (hb3.cell (p := ⟨b, off + j * 2, none⟩) (by show b < _; simp; omega))
                    have p2 := (hb3.cell (p := ⟨b, off + j * 2 + 1, none⟩) (by show b < _; simp; omega))
                    have p3 := (hb3.cell (p := ⟨w.heap.size, 0, none⟩) (by show w.heap.size < _; simp; omega))
                    rw [cell_alloc_old (by show b < _; omega)] at p1 p2
                    rw [cell_alloc_old (by show w.heap.size < _; omega)] at p3
                    have p1' := p1.trans y1
                    have p2' := p2.trans y2
                    have p3' := p3.trans HC.out
                    have z5 : wr.heap.size < w3.heap.size := Nat.lt_of_lt_of_le (by simp) hb3.size
                    have z6 : b < w3.heap.size := by omega
                    have z7 : w.heap.size < w3.heap.size := by omega
                    have B3 := Lib.hid (bstep (balloc BB.out _) hb3)
                    have KP : Hid (∀ w', Below w3.heap.size w3 w' → w'.cell? ⟨wr.heap.size, 0, none⟩ = some (.int .i64 ak) ∧ w'.cell? ⟨wr.heap.size, 1, none⟩ = some (.int .i64 ok) ∧ w'.cell? ⟨b, off + j * 2, none⟩ = some (.int .i64 aj) ∧ w'.cell? ⟨b, off + j * 2 + 1, none⟩ = some (.int .i64 oj) ∧ w'.cell? ⟨w.heap.size, 0, none⟩ = some (.slice (some ⟨b, off, none⟩) n cap)) := Lib.hid fun w' h => ⟨(h.cell (p := ⟨wr.heap.size, 0, none⟩) z5).trans q0, (h.cell (p := ⟨wr.heap.size, 1, none⟩) z5).trans q1, (h.cell (p := ⟨b, _, none⟩) z6).trans p1', (h.cell (p := ⟨b, _, none⟩) z6).trans p2', (h.cell (p := ⟨w.heap.size, 0, none⟩) z7).trans p3'⟩
                    have l0 : (0 : Int) ≤ (j : Int) := by omega
                    have l1 : (j : Int) < (n : Int) := by omega
                    have l2 : (j : Int) < (cap : Int) := by omega
                    have l3 : IntKind.i64.wrap (j : Int) = (j : Int) := IntWalk.i64_in _ (by omega)
                    clear hb3 p1 p2 p3 y1 y2 HC
                    go_wp2_with fail
                    have hb0 : Below w3.heap.size w3 w3.drew := (brefl w3).drew
                    go_region_held3 (fun w' => w'.cell? ⟨wr.heap.size, 0, none⟩ = some (.int .i64 ak) ∧ w'.cell? ⟨wr.heap.size, 1, none⟩ = some (.int .i64 ok) ∧ w'.cell? ⟨b, off + j * 2, none⟩ = some (.int .i64 aj) ∧ w'.cell? ⟨b, off + j * 2 + 1, none⟩ = some (.int .i64 oj) ∧ w'.cell? ⟨w.heap.size, 0, none⟩ = some (.slice (some ⟨b, off, none⟩) n cap))
                      (first | exact KP.out _ (by assumption))
                      (first | (go_at_call 56; (with_reducible refine (F.out _).mono ?_); rintro e w' ⟨rfl, hb⟩; replace hb := bstep (w := w3) (by assumption) hb))
                    all_goals
                      have BZ := Lib.hid (bstep B3.out (by assumption))
                      go_wp2_with fail
                      go_ret
                      exact ⟨.inr ⟨NT.out, rfl⟩, bstep X2.out BZ.out⟩
              · have e3 : decide (200 < o k) = true := decide_eq_true (by omega)
                have NT : Hid (¬ Tb n a o e) := Lib.hid (NO.out (.inl fun h => d3 h.2.2.2))
                clear NX NO d1 d3
                generalize a k = ak at *
                generalize o k = ok at *
                go_wp2_with fail
                (with_reducible refine (M.out _).mono ?_)
                rintro x w3 ⟨rfl, hb3⟩
                have q1 := hb3.cell (p := ⟨wr.heap.size, 1, none⟩) (by simp)
                simp [go_sem] at q1
                have B3 := Lib.hid (bstep (balloc BB.out _) hb3)
                clear hb3
                go_wp2_with fail
                go_ret
                exact ⟨.inr ⟨NT.out, rfl⟩, bstep X2.out B3.out⟩
            · have e2 : decide (o k < 0) = true := decide_eq_true (by omega)
              have NT : Hid (¬ Tb n a o e) := Lib.hid (NO.out (.inl fun h => d2 h.2.2.1))
              clear NX NO d1 d2
              generalize a k = ak at *
              generalize o k = ok at *
              go_wp2_with fail
              (with_reducible refine (M.out _).mono ?_)
              rintro x w3 ⟨rfl, hb3⟩
              have q1 := hb3.cell (p := ⟨wr.heap.size, 1, none⟩) (by simp)
              simp [go_sem] at q1
              have B3 := Lib.hid (bstep (balloc BB.out _) hb3)
              clear hb3
              go_wp2_with fail
              go_ret
              exact ⟨.inr ⟨NT.out, rfl⟩, bstep X2.out B3.out⟩
          · have M := Lib.hid (fun w => beginsMonth_no (a k) d1 w)
            have NT : Hid (¬ Tb n a o e) := Lib.hid (NO.out (.inl fun h => d1 ⟨h.1, h.2.1⟩))
            clear NX NO d1
            generalize a k = ak at *
            generalize o k = ok at *
            go_wp2_with fail
            (with_reducible refine (M.out _).mono ?_)
            rintro x w3 ⟨rfl, hb3⟩
            have B3 := Lib.hid (bstep (balloc BB.out _) hb3)
            clear hb3
            go_wp2_with fail
            go_ret
            exact ⟨.inr ⟨NT.out, rfl⟩, bstep X2.out B3.out⟩
        · have f1 : decide ((k : Int) < (n : Int)) = false := by rw [decide_eq_false_iff_not]; omega
          have YT : Hid (Tb n a o e) := Lib.hid ⟨rt_iff.2 ⟨Nat.pos_of_ne_zero CN.out, fun i hi => OK.out i (by omega)⟩, CE.out⟩
          go_wp2_with fail
          go_ret
          exact ⟨.inl ⟨YT.out, rfl⟩, bstep X2.out BB.out⟩
    · have S := Lib.hid (fun w => isSecond_no e ce w)
      have NT : Hid (¬ Tb n a o e) := Lib.hid (fun h => ce h.2)
      clear ce cn
      go_enter Try.func33, Try.ntmps33
      go_wp2_with fail
      refine (S.out _).mono ?_
      rintro x w1 ⟨rfl, rfl⟩
      go_wp2_with fail
      go_ret
      exact ⟨.inr ⟨NT.out, rfl⟩, balloc (brefl _) _⟩
end Go.Proofs.Ytoecgabdjpgleaa.Lp
