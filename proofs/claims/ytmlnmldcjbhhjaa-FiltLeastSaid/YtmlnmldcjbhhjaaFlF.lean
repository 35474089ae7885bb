/-
  filt.jitter and filt.spread; Best and Jitter of a filter.
  Conditions: what each says.
-/
import Derived.Test.YtmlnmldcjbhhjaaFlE
import Derived.Test.YtmlnmldcjbhhjaaFlS
namespace Go.Proofs.Ytmlnmldcjbhhjaa.Fl
open Go.RowKit Go.ChangeShapes Go.WideShapes Go.ChangeAt Go.Joins
set_option linter.unusedVariables false
set_option linter.unusedSimpArgs false

theorem Ls.four {w : World} {b off : Nat} {L : List Sm} (h : Ls w b off L) {k : Nat} {s : Sm} (hk : L[k]? = some s) : w.cell? ⟨b, off + k * 4, none⟩ = some (.int .i64 s.off) ∧ w.cell? ⟨b, off + k * 4 + 1, none⟩ = some (.int .i64 s.del) ∧ w.cell? ⟨b, off + k * 4 + 2, none⟩ = some (.int .i64 s.dis) ∧ w.cell? ⟨b, off + k * 4 + 3, none⟩ = some (.int .i64 s.at') :=
  ⟨h.2 k s hk 0 _ rfl, h.2 k s hk 1 _ rfl, h.2 k s hk 2 _ rfl, h.2 k s hk 3 _ rfl⟩
set_option maxRecDepth 100000 in
set_option maxHeartbeats 4000000 in
theorem jitter_c (L : List Sm) (now ppm : Int) (b off cap : Nat) (w : World) (hL : ∀ s ∈ L, okSm s ∧ s.at' ≤ now) (h0 : 0 < L.length) (h8 : L.length ≤ 8) (hc1 : L.length ≤ cap) (hc2 : cap ≤ 9223372036854775807) (hn : okN now ppm) (hl : Ls w b off L) :
    Calls Try.prog 19 #[.slice (some ⟨b, off, none⟩) L.length cap, .int .i64 now, .int .i64 ppm] w fun e w' => e = .returned (.int .i64 (jit now ppm L)) ∧ Below w.heap.size w w' := by
  have BC := Lib.hid (fun (w' : World) (q : Below w.heap.size w w') => best_c L now ppm b off cap w' hL h0 h8 hc1 hc2 hn (hl.below q))
  have HL := Lib.hid (fun s h => (hL s h).1)
  have HS := Lib.hid hl
  have HB := Lib.hid (best_mem (now := now) (ppm := ppm) h0)
  have HJ : Hid (jit now ppm L = if L.length = 1 then 0 else upE (far (best now ppm L).off L L.length) (L.length - 1 : Int)) := Lib.hid rfl
  have hm := (HL.out _ HB.out).1
  rw [HJ.out]
  generalize best now ppm L = x at *
  have FR := Lib.hid (fun k hk => far_range (fun s h => HL.out s h) hm.1 hm.2 k hk)
  obtain ⟨mo, xb, xc, xd⟩ := x
  simp only at hm FR ⊢
  obtain ⟨hm0, hm1⟩ := hm
  replace BC : Hid (∀ w', Below w.heap.size w w' → Calls Try.prog 15 #[.slice (some ⟨b, off, none⟩) L.length cap, .int .i64 now, .int .i64 ppm] w' fun e w'' => e = .returned (.agg #[.int .i64 mo, .int .i64 xb, .int .i64 xc, .int .i64 xd]) ∧ Below w'.heap.size w' w'') := BC
  obtain ⟨m, hm⟩ : ∃ m, L.length = m := ⟨_, rfl⟩
  have HM := Lib.hid hm
  rw [hm] at BC h0 h8 hc1 FR ⊢
  have m0 : (0 : Int) < (m : Int) := by omega
  have m1 : (m : Int) ≤ 8 := by omega
  have m2 : (m : Int) ≤ (cap : Int) := by omega
  have m3 : (cap : Int) ≤ 9223372036854775807 := by omega
  have hw1 : IntKind.i64.wrap ((m : Int) - 1) = (m : Int) - 1 := wrap_in (by omega) (by omega)
  clear hm hL hl hn HJ HB
  by_cases c1 : m = 1
  · subst c1
    rw [if_pos rfl]
    go_enter Try.func19, Try.ntmps19
    go_wp2_with fail
    go_ret
    exact ⟨rfl, brefl w⟩
  · rw [if_neg c1]
    have z1 : ((m : Int) - 1 == 0) = false := by rw [beq_eq_false_iff_ne]; omega
    have PT := Lib.hid (fun w => Fx.Part_ok (far mo L m) 1 ((m : Int) - 1) true w ⟨⟨by have := FR.out m (Nat.le_refl _); omega, by have := FR.out m (Nat.le_refl _); omega⟩, ⟨by omega, by omega⟩, by omega, by omega⟩)
    rw [prt_up (FR.out m (Nat.le_refl _)).1 (by have := (FR.out m (Nat.le_refl _)).2; omega) (by omega) (by omega)] at PT
    have PE : Hid (upE (far mo L m) ((m : Int) - 1) = upE (far mo L m) ((m : Int) - 1)) := Lib.hid rfl
    obtain ⟨rr, hrr⟩ : ∃ r, upE (far mo L m) ((m : Int) - 1) = r := ⟨_, rfl⟩
    rw [hrr] at PT ⊢
    clear hrr PE
    go_enter Try.func19, Try.ntmps19
    go_wp2_with fail
    refine (BC.out _ (brefl w)).mono ?_
    rintro e w1 ⟨rfl, hb⟩
    have hfd : ∀ w : World, (Instr.field 30 (.agg #[.int .i64 mo, .int .i64 xb, .int .i64 xc, .int .i64 xd]) 0).run Try.prog w = .ok (.int .i64 mo) w := fun _ => by kernel_rfl
    have B1 := Lib.hid hb
    clear hb BC
    go_wp2_with fail
    go_loopw [9, 26] (fun sv iv wr => ∃ k : Nat, k ≤ m ∧ iv = .int .i64 (k : Nat) ∧ sv = .int .i64 (far mo L k) ∧ Below w.heap.size w wr) (fun _ iv _ => m - (intOf iv).toNat)
    case atStart => exact ⟨0, by omega, rfl, rfl, B1.out⟩
    case round =>
      obtain ⟨k, hk, rfl, rfl, hb⟩ := hrel
      rename World => wr
      have B2 := Lib.hid hb
      clear hb B1
      by_cases c : k < m
      · have e1 : decide ((k : Int) < (m : Int)) = true := decide_eq_true (by omega)
        have e2 : decide (k < m) = true := decide_eq_true c
        have k1 : (k : Int) < (m : Int) := by omega
        have wk : IntKind.i64.wrap ((k : Int) + 1) = (k : Int) + 1 := wrap_in (by omega) (by omega)
        obtain ⟨x, hx⟩ : ∃ x, L[k]? = some x := ⟨_, List.getElem?_eq_getElem (by rw [HM.out]; exact c)⟩
        obtain ⟨y0, y1, y2, y3⟩ := (HS.out.below B2.out).four hx
        have hxr := (HL.out x (List.mem_of_getElem? hx)).1
        have fk := FR.out k (by omega)
        have NX : Hid (far mo L (k + 1) = far mo L k + max (x.off - mo) (mo - x.off)) := Lib.hid (by rw [far, List.getD_eq_getElem?_getD, hx]; rfl)
        obtain ⟨xo, x2, x3, x4⟩ := x
        simp only at y0 y1 y2 y3 hxr NX
        generalize far mo L k = sm at *
        have w1' : IntKind.i64.wrap (xo - mo) = xo - mo := wrap_in (by omega) (by omega)
        have w2' : IntKind.i64.wrap (mo - xo) = mo - xo := wrap_in (by omega) (by omega)
        have w3' : IntKind.i64.wrap (sm + max (xo - mo) (mo - xo)) = sm + max (xo - mo) (mo - xo) := wrap_in (by omega) (by omega)
        have B3 := Lib.hid (balloc B2.out (.cells #[.int .i64 xo, .int .i64 x2, .int .i64 x3, .int .i64 x4] 30))
        clear hx
        go_wp2_with fail
        exact ⟨⟨k + 1, by omega, by go_num, by rw [NX.out], B3.out⟩, by simp [intOf]; omega⟩
      · have e1 : decide ((k : Int) < (m : Int)) = false := decide_eq_false (by omega)
        have e2 : decide (k < m) = false := decide_eq_false c
        obtain rfl : k = m := by omega
        generalize far mo L k = sm at *
        go_wp2_with fail
        refine (PT.out _).mono ?_
        rintro e w3 ⟨rfl, hd⟩
        have B3 := Lib.hid (bstep B2.out (dbelow hd))
        clear hd
        go_wp2_with fail
        go_ret
        exact ⟨rfl, B3.out⟩
end Go.Proofs.Ytmlnmldcjbhhjaa.Fl
