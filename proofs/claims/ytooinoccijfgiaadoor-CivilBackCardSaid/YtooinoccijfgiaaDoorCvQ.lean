/-
  The contract of civil.Parse: of ten bytes with digits and hyphens in their places, that say a date, that date; else ErrText.
  Conditions: none.
-/
import Derived.Test.YtooinoccijfgiaaDoorCvP
namespace Go.Proofs.YtooinoccijfgiaaDoor.Cv
open Go.RowKit
set_option linter.unusedVariables false
set_option linter.unusedSimpArgs false

theorem Dt.same {w w' : World} {b : Nat} {y m d : Int} (h : Dt w b y m d) (hs : w.heap.size ≤ w'.heap.size) (hb : w'.heap[b]? = w.heap[b]?) : Dt w' b y m d := by
  obtain ⟨h0, h1, h2, h3, h4, h5, h6⟩ := h
  have c : ∀ o, w'.cell? ⟨b, o, none⟩ = w.cell? ⟨b, o, none⟩ := fun o => by simp [World.cell?, hb]
  have f : ∀ o, w'.frozen? ⟨b, o, none⟩ = w.frozen? ⟨b, o, none⟩ := fun o => by simp [World.frozen?, hb]
  exact ⟨Nat.lt_of_lt_of_le h0 hs, (c 0).trans h1, (c 1).trans h2, (c 2).trans h3, (f 0).trans h4, (f 1).trans h5, (f 2).trans h6⟩
theorem Dt.newT (w : World) (y m d : Int) (t : TypeId) : Dt (w.alloc (.cells #[.int .i64 y, .int .i64 m, .int .i64 d] t)) w.heap.size y m d :=
  ⟨by simp, by simp [go_sem], by simp [go_sem], by simp [go_sem], by simp [go_sem], by simp [go_sem], by simp [go_sem]⟩
theorem Dt.newT1 (w : World) (o : Obj) (y m d : Int) (t : TypeId) : Dt ((w.alloc o).alloc (.cells #[.int .i64 y, .int .i64 m, .int .i64 d] t)) (w.heap.size + 1) y m d := by
  have h := Dt.newT (w.alloc o) y m d t
  rwa [show (w.alloc o).heap.size = w.heap.size + 1 from by simp] at h
theorem Dt.set2 {w : World} {b : Nat} {y m d : Int} (h : Dt w b y m d) (z : Int) : Dt (w.setCell ⟨b, 2, none⟩ (.int .i64 z)) b y m z := by
  obtain ⟨h0, h1, h2, h3, h4, h5, h6⟩ := h
  exact ⟨by simpa [World.setCell] using h0, (World.cell?_setCell_other _ _ _ _ (by simp)).trans h1, (World.cell?_setCell_other _ _ _ _ (by simp)).trans h2, World.cell?_setCell_same _ _ _ h3, by simpa [go_sem] using h4, by simpa [go_sem] using h5, by simpa [go_sem] using h6⟩

set_option maxRecDepth 100000 in
theorem Parse_len (s : ByteArray) (w : World) (hs : ¬ s.size = 10) :
    Calls Tryd.prog 21 #[.string s] w fun e w' => e = .returned (.tuple #[.agg #[.int .i64 0, .int .i64 0, .int .i64 0], .int .i64 4]) ∧ Below w.heap.size w w' := by
  have e0 : ((s.size : Int) == 10) = false := by simp; omega
  have e1 : ((s.size : Int) != 10) = true := by simp; omega
  go_enter Tryd.func21, Tryd.ntmps21
  go_wp2_with fail
  exact bodyPost_ret (v := .tuple #[.agg #[.int .i64 0, .int .i64 0, .int .i64 0], .int .i64 4]) (by simp [results, Tryd.results21, go_sem]) rfl ⟨rfl, by repeat (first | with_reducible exact HB.out | with_reducible exact brefl _ | with_reducible refine balloc ?_ _ | with_reducible refine Below.setCell ?_ (by first | (simp; done) | (simp; omega)) _)⟩

/-- what the walk over the bytes keeps. -/
def PI (s : ByteArray) (w : World) (p : Nat) (wr : World) : Prop :=
  (∀ i, i < p → gd s i) ∧ Dt wr w.heap.size 0 0 0 ∧ Dt wr (w.heap.size + 1) (av s 0 p) (av s 1 p) (av s 2 p) ∧ wr.heap[w.heap.size + 1 + 1]? = some (.stringIter s p) ∧ Below w.heap.size w wr
/-- a text that says no date. -/
def noDate (s : ByteArray) : Prop := ¬ (good s ∧ ok (tY s) (tM s) (tD s))
def atp (p : Nat) : Int := if p ≤ 4 then 0 else if p ≤ 7 then 1 else 2

theorem dec_cases (s : ByteArray) (p : Nat) (h : p < s.size) : (((Utf8.decode s p).1 : Int) = gb s p ∧ (Utf8.decode s p).2 = 1) ∨ (128 ≤ ((Utf8.decode s p).1 : Int) ∧ 128 ≤ gb s p) := by
  by_cases c : (s[p]'h).toNat < 128
  · refine Or.inl ?_
    rw [decode_ascii s p h c, ← gb_at s p h]
    exact ⟨rfl, rfl⟩
  · have a := decode_high s p h (by omega)
    have b := gb_at s p h
    refine Or.inr ⟨by omega, by omega⟩
theorem gd_dig' {s : ByteArray} {p : Nat} (hp : ¬ (p = 4 ∨ p = 7)) : gd s p ↔ (48 ≤ gb s p ∧ gb s p ≤ 57) := by unfold gd; rw [if_neg hp]
theorem gd_sep {s : ByteArray} {p : Nat} (hp : p = 4 ∨ p = 7) : gd s p ↔ gb s p = 45 := by unfold gd; rw [if_pos hp]
theorem gd_on {s : ByteArray} {p : Nat} (h : ∀ i, i < p → gd s i) (h' : gd s p) : ∀ i, i < p + 1 → gd s i := fun i hi => by
  by_cases c : i < p
  · exact h i c
  · obtain rfl : i = p := by omega
    exact h'
theorem not_good {s : ByteArray} {p : Nat} (hp : p < 10) (h : ¬ gd s p) : noDate s := fun g => h (g.1 p hp)
theorem av_in {s : ByteArray} {j p : Nat} (z : zone j p = true) : av s j (p + 1) = 10 * av s j p + (gb s p - 48) := by simp only [av]; rw [if_pos z]
theorem av_out {s : ByteArray} {j p : Nat} (z : zone j p = false) : av s j (p + 1) = av s j p := by simp only [av]; rw [if_neg (by rw [z]; exact Bool.false_ne_true)]
theorem PI.start (s : ByteArray) (w : World) : PI s w 0 (((w.alloc (.cells #[.int .i64 0, .int .i64 0, .int .i64 0] 23)).alloc (.cells #[.int .i64 0, .int .i64 0, .int .i64 0] 63)).iter s 0) :=
  ⟨fun i hi => absurd hi (Nat.not_lt_zero _), ((Dt.newT w 0 0 0 23).alloc (.cells #[.int .i64 0, .int .i64 0, .int .i64 0] 63)).alloc (.stringIter s 0), (Dt.newT1 w (.cells #[.int .i64 0, .int .i64 0, .int .i64 0] 23) 0 0 0 63).alloc (.stringIter s 0), by
    have := World.iter_heap ((w.alloc (.cells #[.int .i64 0, .int .i64 0, .int .i64 0] 23)).alloc (.cells #[.int .i64 0, .int .i64 0, .int .i64 0] 63)) s 0
    simpa using this, balloc (balloc (balloc (brefl w) _) _) (.stringIter s 0)⟩
theorem iterPos_of {w : World} {k : Nat} {s : ByteArray} {p : Nat} (h : w.heap[k]? = some (.stringIter s p)) : w.iterPos k = p := by simp [World.iterPos, h]
/-- the world behind a step of the iterator. -/
theorem PI.step {s : ByteArray} {w wr w2 : World} {p n : Nat} (h : PI s w p wr) (e : wr.iterAt (w.heap.size + 1 + 1) s (p + n) = w2) :
    Dt w2 w.heap.size 0 0 0 ∧ Dt w2 (w.heap.size + 1) (av s 0 p) (av s 1 p) (av s 2 p) ∧ w2.heap[w.heap.size + 1 + 1]? = some (.stringIter s (p + n)) ∧ Below w.heap.size w w2 := by
  obtain ⟨_, da, db, hk, hb⟩ := h
  subst e
  exact ⟨da.same (by rw [Lib.iterAt_size]; exact Nat.le_refl _) (Lib.iterAt_other _ _ _ _ _ (by omega)), db.same (by rw [Lib.iterAt_size]; exact Nat.le_refl _) (Lib.iterAt_other _ _ _ _ _ (by omega)), Lib.iterAt_heap _ _ _ _ _ hk, Lib.below_iterAt hb (by omega) _ _⟩

set_option maxRecDepth 100000 in
set_option maxHeartbeats 8000000 in
theorem Parse_ten (s : ByteArray) (w : World) (hs : s.size = 10) :
    Calls Tryd.prog 21 #[.string s] w fun e w' => ((good s ∧ ok (tY s) (tM s) (tD s) ∧ e = .returned (.tuple #[.agg #[.int .i64 (tY s), .int .i64 (tM s), .int .i64 (tD s)], .int .i64 0])) ∨ (noDate s ∧ e = .returned (.tuple #[.agg #[.int .i64 0, .int .i64 0, .int .i64 0], .int .i64 4]))) ∧ Below w.heap.size w w' := by
  have e0 : (s.size : Int) = 10 := by omega
  go_enter Tryd.func21, Tryd.ntmps21
  go_wp2_with fail
  clear e0
  go_loopw [5] (fun a wr => ∃ p : Nat, p ≤ 10 ∧ a = .int .i64 (atp p) ∧ PI s w p wr) (fun _ wr => 10 - wr.iterPos (w.heap.size + 1 + 1))
  case atStart => exact ⟨0, by omega, rfl, PI.start s w⟩
  case round =>
    obtain ⟨p, hp, rfl, pi⟩ := hrel
    have PH := Lib.hid pi
    have IP := Lib.hid (iterPos_of pi.2.2.2.1)
    have B0 := av_bd (j := 0) hp pi.1
    have B1 := av_bd (j := 1) hp pi.1
    have B2 := av_bd (j := 2) hp pi.1
    by_cases c : p < 10
    · have hnx := fun ty => Lib.run_next_any_at (P := Tryd.prog) wr (w.heap.size + 1 + 1) s p ty pi.2.2.2.1 (by omega)
      have DC := dec_cases s p (by omega)
      have DL := decode_le s p
      generalize (Utf8.decode s p).1 = r at *
      generalize (Utf8.decode s p).2 = n at *
      obtain ⟨w2, ew⟩ : ∃ w2, wr.iterAt (w.heap.size + 1 + 1) s (p + n) = w2 := ⟨_, rfl⟩
      rw [ew] at hnx
      obtain ⟨da, db, hk, hb⟩ := pi.step ew
      have DA := Lib.hid da
      have DB := Lib.hid db
      have HK := Lib.hid hk
      have HB := Lib.hid hb
      have HG := Lib.hid pi.1
      have HC := Lib.hid DC
      have S0 : Hid (∀ h : zone 0 p = true, av s 0 (p + 1) = 10 * av s 0 p + (gb s p - 48)) := fun h => av_in h
      have S1 : Hid (∀ h : zone 1 p = true, av s 1 (p + 1) = 10 * av s 1 p + (gb s p - 48)) := fun h => av_in h
      have S2 : Hid (∀ h : zone 2 p = true, av s 2 (p + 1) = 10 * av s 2 p + (gb s p - 48)) := fun h => av_in h
      have O0 : Hid (∀ h : zone 0 p = false, av s 0 (p + 1) = av s 0 p) := fun h => av_out h
      have O1 : Hid (∀ h : zone 1 p = false, av s 1 (p + 1) = av s 1 p) := fun h => av_out h
      have O2 : Hid (∀ h : zone 2 p = false, av s 2 (p + 1) = av s 2 p) := fun h => av_out h
      obtain ⟨a1, a2, a3, a4, a5, a6, a7⟩ := da
      obtain ⟨b1, b2, b3, b4, b5, b6, b7⟩ := db
      clear pi hk hb DC PH
      generalize av s 0 p = A0 at *
      generalize av s 1 p = A1 at *
      generalize av s 2 p = A2 at *
      obtain ⟨B01, B02⟩ := B0
      obtain ⟨B11, B12⟩ := B1
      obtain ⟨B21, B22⟩ := B2
      by_cases c4 : p < 4
      · have z4 : ((p : Int) == 4) = false := by simp; omega
        have z7 : ((p : Int) == 7) = false := by simp; omega
        rw [show atp p = 0 from by unfold atp; (repeat' split) <;> omega]
        by_cases dg : 48 ≤ (r : Int) ∧ (r : Int) ≤ 57
        · have E : Hid (gb s p = r ∧ n = 1) := Lib.hid (by rcases HC.out with q | q <;> omega)
          have G : Hid (gd s p) := Lib.hid ((gd_dig' (by omega)).2 (by have := E.out; omega))
          obtain ⟨d1, d2⟩ := dg
          obtain rfl : n = 1 := E.out.2
          have t1 : decide (48 ≤ (r : Int)) = true := decide_eq_true d1
          have t2 : decide ((r : Int) ≤ 57) = true := decide_eq_true d2
          go_wp2_with fail
          go_roundw
          case rel => exact ⟨p + 1, by omega, by rw [show atp (p + 1) = 0 from by unfold atp; (repeat' split) <;> omega], gd_on HG.out G.out, DA.out.setx _ _ _ (by omega), by rw [show av s 0 (p + 1) = (10 * A0 + ((r : Int) - 48)) from (S0.out (by simp [zone]; omega)).trans (by rw [E.out.1]), show av s 1 (p + 1) = A1 from O1.out (by simp [zone]; omega), show av s 2 (p + 1) = A2 from O2.out (by simp [zone]; omega)]; exact DB.out.set0 _, (Deep.blk_setCell_other _ _ _ _ (by simp)).trans HK.out, HB.out.setCell (by simp) _⟩
          case measure => rw [IP.out, iterPos_of ((Deep.blk_setCell_other _ _ _ _ (by simp)).trans HK.out)]; omega
        · have NG : Hid (¬ gd s p) := Lib.hid (fun g => by have g := (gd_dig' (by omega)).1 g; rcases HC.out with q | q <;> omega)
          by_cases d1 : 48 ≤ (r : Int)
          · have t1 : decide (48 ≤ (r : Int)) = true := decide_eq_true d1
            have t2 : decide ((r : Int) ≤ 57) = false := by rw [decide_eq_false_iff_not]; omega
            go_wp2_with fail
            exact bodyPost_ret (v := .tuple #[.agg #[.int .i64 0, .int .i64 0, .int .i64 0], .int .i64 4]) (by simp [results, Tryd.results21, go_sem, a2, a3, a4]) rfl ⟨Or.inr ⟨not_good c NG.out, rfl⟩, by repeat (first | with_reducible exact HB.out | with_reducible exact brefl _ | with_reducible refine balloc ?_ _ | with_reducible refine Below.setCell ?_ (by first | (simp; done) | (simp; omega)) _)⟩
          · have t1 : decide (48 ≤ (r : Int)) = false := decide_eq_false d1
            go_wp2_with fail
            exact bodyPost_ret (v := .tuple #[.agg #[.int .i64 0, .int .i64 0, .int .i64 0], .int .i64 4]) (by simp [results, Tryd.results21, go_sem, a2, a3, a4]) rfl ⟨Or.inr ⟨not_good c NG.out, rfl⟩, by repeat (first | with_reducible exact HB.out | with_reducible exact brefl _ | with_reducible refine balloc ?_ _ | with_reducible refine Below.setCell ?_ (by first | (simp; done) | (simp; omega)) _)⟩
      · by_cases c5 : p = 4
        · have z4 : ((p : Int) == 4) = true := by simp; omega
          have z7 : ((p : Int) == 7) = false := by simp; omega
          rw [show atp p = 0 from by unfold atp; (repeat' split) <;> omega]
          by_cases dg : (r : Int) = 45
          · have E : Hid (gb s p = r ∧ n = 1) := Lib.hid (by rcases HC.out with q | q <;> omega)
            have G : Hid (gd s p) := Lib.hid ((gd_sep (by omega)).2 (by have := E.out; omega))
            obtain rfl : n = 1 := E.out.2
            have t1 : ((r : Int) == 45) = true := by simp; omega
            have t2 : ((r : Int) != 45) = false := by simp; omega
            go_wp2_with fail
            go_roundw
            case rel => exact ⟨p + 1, by omega, by rw [show atp (p + 1) = 1 from by unfold atp; (repeat' split) <;> omega], gd_on HG.out G.out, DA.out, by rw [O0.out (by simp [zone]; omega), O1.out (by simp [zone]; omega), O2.out (by simp [zone]; omega)]; exact DB.out, HK.out, HB.out⟩
            case measure => rw [IP.out, iterPos_of HK.out]; omega
          · have NG : Hid (¬ gd s p) := Lib.hid (fun g => by have g := (gd_sep (by omega)).1 g; rcases HC.out with q | q <;> omega)
            have t1 : ((r : Int) == 45) = false := by simp; omega
            have t2 : ((r : Int) != 45) = true := by simp; omega
            go_wp2_with fail
            exact bodyPost_ret (v := .tuple #[.agg #[.int .i64 0, .int .i64 0, .int .i64 0], .int .i64 4]) (by simp [results, Tryd.results21, go_sem, a2, a3, a4]) rfl ⟨Or.inr ⟨not_good c NG.out, rfl⟩, by repeat (first | with_reducible exact HB.out | with_reducible exact brefl _ | with_reducible refine balloc ?_ _ | with_reducible refine Below.setCell ?_ (by first | (simp; done) | (simp; omega)) _)⟩
        · by_cases c7 : p < 7
          · have z4 : ((p : Int) == 4) = false := by simp; omega
            have z7 : ((p : Int) == 7) = false := by simp; omega
            rw [show atp p = 1 from by unfold atp; (repeat' split) <;> omega]
            by_cases dg : 48 ≤ (r : Int) ∧ (r : Int) ≤ 57
            · have E : Hid (gb s p = r ∧ n = 1) := Lib.hid (by rcases HC.out with q | q <;> omega)
              have G : Hid (gd s p) := Lib.hid ((gd_dig' (by omega)).2 (by have := E.out; omega))
              obtain ⟨d1, d2⟩ := dg
              obtain rfl : n = 1 := E.out.2
              have t1 : decide (48 ≤ (r : Int)) = true := decide_eq_true d1
              have t2 : decide ((r : Int) ≤ 57) = true := decide_eq_true d2
              go_wp2_with fail
              go_roundw
              case rel => exact ⟨p + 1, by omega, by rw [show atp (p + 1) = 1 from by unfold atp; (repeat' split) <;> omega], gd_on HG.out G.out, DA.out.setx _ _ _ (by omega), by rw [show av s 0 (p + 1) = A0 from O0.out (by simp [zone]; omega), show av s 1 (p + 1) = (10 * A1 + ((r : Int) - 48)) from (S1.out (by simp [zone]; omega)).trans (by rw [E.out.1]), show av s 2 (p + 1) = A2 from O2.out (by simp [zone]; omega)]; exact DB.out.set1 _, (Deep.blk_setCell_other _ _ _ _ (by simp)).trans HK.out, HB.out.setCell (by simp) _⟩
              case measure => rw [IP.out, iterPos_of ((Deep.blk_setCell_other _ _ _ _ (by simp)).trans HK.out)]; omega
            · have NG : Hid (¬ gd s p) := Lib.hid (fun g => by have g := (gd_dig' (by omega)).1 g; rcases HC.out with q | q <;> omega)
              by_cases d1 : 48 ≤ (r : Int)
              · have t1 : decide (48 ≤ (r : Int)) = true := decide_eq_true d1
                have t2 : decide ((r : Int) ≤ 57) = false := by rw [decide_eq_false_iff_not]; omega
                go_wp2_with fail
                exact bodyPost_ret (v := .tuple #[.agg #[.int .i64 0, .int .i64 0, .int .i64 0], .int .i64 4]) (by simp [results, Tryd.results21, go_sem, a2, a3, a4]) rfl ⟨Or.inr ⟨not_good c NG.out, rfl⟩, by repeat (first | with_reducible exact HB.out | with_reducible exact brefl _ | with_reducible refine balloc ?_ _ | with_reducible refine Below.setCell ?_ (by first | (simp; done) | (simp; omega)) _)⟩
              · have t1 : decide (48 ≤ (r : Int)) = false := decide_eq_false d1
                go_wp2_with fail
                exact bodyPost_ret (v := .tuple #[.agg #[.int .i64 0, .int .i64 0, .int .i64 0], .int .i64 4]) (by simp [results, Tryd.results21, go_sem, a2, a3, a4]) rfl ⟨Or.inr ⟨not_good c NG.out, rfl⟩, by repeat (first | with_reducible exact HB.out | with_reducible exact brefl _ | with_reducible refine balloc ?_ _ | with_reducible refine Below.setCell ?_ (by first | (simp; done) | (simp; omega)) _)⟩
          · by_cases c8 : p = 7
            · have z4 : ((p : Int) == 4) = false := by simp; omega
              have z7 : ((p : Int) == 7) = true := by simp; omega
              rw [show atp p = 1 from by unfold atp; (repeat' split) <;> omega]
              by_cases dg : (r : Int) = 45
              · have E : Hid (gb s p = r ∧ n = 1) := Lib.hid (by rcases HC.out with q | q <;> omega)
                have G : Hid (gd s p) := Lib.hid ((gd_sep (by omega)).2 (by have := E.out; omega))
                obtain rfl : n = 1 := E.out.2
                have t1 : ((r : Int) == 45) = true := by simp; omega
                have t2 : ((r : Int) != 45) = false := by simp; omega
                go_wp2_with fail
                go_roundw
                case rel => exact ⟨p + 1, by omega, by rw [show atp (p + 1) = 2 from by unfold atp; (repeat' split) <;> omega], gd_on HG.out G.out, DA.out, by rw [O0.out (by simp [zone]; omega), O1.out (by simp [zone]; omega), O2.out (by simp [zone]; omega)]; exact DB.out, HK.out, HB.out⟩
                case measure => rw [IP.out, iterPos_of HK.out]; omega
              · have NG : Hid (¬ gd s p) := Lib.hid (fun g => by have g := (gd_sep (by omega)).1 g; rcases HC.out with q | q <;> omega)
                have t1 : ((r : Int) == 45) = false := by simp; omega
                have t2 : ((r : Int) != 45) = true := by simp; omega
                go_wp2_with fail
                exact bodyPost_ret (v := .tuple #[.agg #[.int .i64 0, .int .i64 0, .int .i64 0], .int .i64 4]) (by simp [results, Tryd.results21, go_sem, a2, a3, a4]) rfl ⟨Or.inr ⟨not_good c NG.out, rfl⟩, by repeat (first | with_reducible exact HB.out | with_reducible exact brefl _ | with_reducible refine balloc ?_ _ | with_reducible refine Below.setCell ?_ (by first | (simp; done) | (simp; omega)) _)⟩
            · have z4 : ((p : Int) == 4) = false := by simp; omega
              have z7 : ((p : Int) == 7) = false := by simp; omega
              rw [show atp p = 2 from by unfold atp; (repeat' split) <;> omega]
              by_cases dg : 48 ≤ (r : Int) ∧ (r : Int) ≤ 57
              · have E : Hid (gb s p = r ∧ n = 1) := Lib.hid (by rcases HC.out with q | q <;> omega)
                have G : Hid (gd s p) := Lib.hid ((gd_dig' (by omega)).2 (by have := E.out; omega))
                obtain ⟨d1, d2⟩ := dg
                obtain rfl : n = 1 := E.out.2
                have t1 : decide (48 ≤ (r : Int)) = true := decide_eq_true d1
                have t2 : decide ((r : Int) ≤ 57) = true := decide_eq_true d2
                go_wp2_with fail
                go_roundw
                case rel => exact ⟨p + 1, by omega, by rw [show atp (p + 1) = 2 from by unfold atp; (repeat' split) <;> omega], gd_on HG.out G.out, DA.out.setx _ _ _ (by omega), by rw [show av s 0 (p + 1) = A0 from O0.out (by simp [zone]; omega), show av s 1 (p + 1) = A1 from O1.out (by simp [zone]; omega), show av s 2 (p + 1) = (10 * A2 + ((r : Int) - 48)) from (S2.out (by simp [zone]; omega)).trans (by rw [E.out.1])]; exact DB.out.set2 _, (Deep.blk_setCell_other _ _ _ _ (by simp)).trans HK.out, HB.out.setCell (by simp) _⟩
                case measure => rw [IP.out, iterPos_of ((Deep.blk_setCell_other _ _ _ _ (by simp)).trans HK.out)]; omega
              · have NG : Hid (¬ gd s p) := Lib.hid (fun g => by have g := (gd_dig' (by omega)).1 g; rcases HC.out with q | q <;> omega)
                by_cases d1 : 48 ≤ (r : Int)
                · have t1 : decide (48 ≤ (r : Int)) = true := decide_eq_true d1
                  have t2 : decide ((r : Int) ≤ 57) = false := by rw [decide_eq_false_iff_not]; omega
                  go_wp2_with fail
                  exact bodyPost_ret (v := .tuple #[.agg #[.int .i64 0, .int .i64 0, .int .i64 0], .int .i64 4]) (by simp [results, Tryd.results21, go_sem, a2, a3, a4]) rfl ⟨Or.inr ⟨not_good c NG.out, rfl⟩, by repeat (first | with_reducible exact HB.out | with_reducible exact brefl _ | with_reducible refine balloc ?_ _ | with_reducible refine Below.setCell ?_ (by first | (simp; done) | (simp; omega)) _)⟩
                · have t1 : decide (48 ≤ (r : Int)) = false := decide_eq_false d1
                  go_wp2_with fail
                  exact bodyPost_ret (v := .tuple #[.agg #[.int .i64 0, .int .i64 0, .int .i64 0], .int .i64 4]) (by simp [results, Tryd.results21, go_sem, a2, a3, a4]) rfl ⟨Or.inr ⟨not_good c NG.out, rfl⟩, by repeat (first | with_reducible exact HB.out | with_reducible exact brefl _ | with_reducible refine balloc ?_ _ | with_reducible refine Below.setCell ?_ (by first | (simp; done) | (simp; omega)) _)⟩
    · obtain rfl : p = 10 := by omega
      have hnx := fun ty => Lib.run_next_end_at (P := Tryd.prog) wr (w.heap.size + 1 + 1) s 10 ty pi.2.2.2.1 (by omega)
      obtain ⟨hg, da, db, hk, hb⟩ := pi
      have HG : Hid (good s) := Lib.hid hg
      have DA := Lib.hid da
      have HB := Lib.hid hb
      have eY : av s 0 10 = tY s := rfl
      have eM : av s 1 10 = tM s := rfl
      have eD : av s 2 10 = tD s := rfl
      rw [eY, eM, eD] at db
      have DB := Lib.hid db
      clear eY eM eD hg da hk hb B0 B1 B2 PH IP
      obtain ⟨b1, b2, b3, b4, b5, b6, b7⟩ := db
      go_wp2_with fail
      by_cases o : ok (tY s) (tM s) (tD s)
      · have O := Lib.hid o
        clear o
        refine (isDate_yes _ _ _ _ O.out).mono ?_
        rintro e w3 ⟨rfl, hb⟩
        replace DA := Lib.hid ((DA.out.alloc (.cells #[.int .i64 (tY s), .int .i64 (tM s), .int .i64 (tD s)] 23)).below hb)
        have DD := Lib.hid ((Dt.new wr (tY s) (tM s) (tD s)).below hb)
        replace HB := Lib.hid (bstep (balloc HB.out (.cells #[.int .i64 (tY s), .int .i64 (tM s), .int .i64 (tD s)] 23)) hb)
        clear hb b1 b2 b3 b4 b5 b6 b7
        obtain ⟨a1, a2, a3, a4, a5, a6, a7⟩ := DA.out
        obtain ⟨b1, b2, b3, b4, b5, b6, b7⟩ := DD.out
        go_wp2_with fail
        exact bodyPost_ret (v := .tuple #[.agg #[.int .i64 (tY s), .int .i64 (tM s), .int .i64 (tD s)], .int .i64 0]) (by simp [results, Tryd.results21, go_sem, a2, a3, a4]) rfl ⟨Or.inl ⟨HG.out, O.out, rfl⟩, by repeat (first | with_reducible exact HB.out | with_reducible exact brefl _ | with_reducible refine balloc ?_ _ | with_reducible refine Below.setCell ?_ (by first | (simp; done) | (simp; omega)) _)⟩
      · have O := Lib.hid o
        clear o
        refine (isDate_no _ _ _ _ O.out).mono ?_
        rintro e w3 ⟨rfl, hb⟩
        replace DA := Lib.hid ((DA.out.alloc (.cells #[.int .i64 (tY s), .int .i64 (tM s), .int .i64 (tD s)] 23)).below hb)
        replace HB := Lib.hid (bstep (balloc HB.out (.cells #[.int .i64 (tY s), .int .i64 (tM s), .int .i64 (tD s)] 23)) hb)
        clear hb b1 b2 b3 b4 b5 b6 b7
        obtain ⟨a1, a2, a3, a4, a5, a6, a7⟩ := DA.out
        go_wp2_with fail
        exact bodyPost_ret (v := .tuple #[.agg #[.int .i64 0, .int .i64 0, .int .i64 0], .int .i64 4]) (by simp [results, Tryd.results21, go_sem, a2, a3, a4]) rfl ⟨Or.inr ⟨fun g => O.out g.2, rfl⟩, by repeat (first | with_reducible exact HB.out | with_reducible exact brefl _ | with_reducible refine balloc ?_ _ | with_reducible refine Below.setCell ?_ (by first | (simp; done) | (simp; omega)) _)⟩
end Go.Proofs.YtooinoccijfgiaaDoor.Cv
