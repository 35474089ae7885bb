/-
  Contracts of layer 1 over spans: fix.Check, Meet, Cover, Shift, Sum, Stamp, Unfold, Short, Long, for every argument.
  Conditions: none but that the arguments are of their kinds.
-/
import Derived.Test.YtppflfodkhhfhaaFxA
import Derived.Test.YtppflfodkhhfhaaFxP
namespace Go.Proofs.Ytppflfodkhhfhaa.Fx
open Go.RowKit

theorem bcell {W w1 : World} (hb : Below W.heap.size W w1) : (∀ b o, b < W.heap.size → w1.cell? ⟨b, o, none⟩ = W.cell? ⟨b, o, none⟩) ∧ (∀ b o, b < W.heap.size → w1.frozen? ⟨b, o, none⟩ = W.frozen? ⟨b, o, none⟩) :=
  ⟨fun b o h => hb.cell (p := ⟨b, o, none⟩) h, fun b o h => hb.frozen (p := ⟨b, o, none⟩) h⟩

/-- of what was there nothing changes: step upon step. -/
theorem bstep {a b c : World} (h : Below a.heap.size a b) (k : Below b.heap.size b c) : Below a.heap.size a c := h.trans (k.mono h.size)
theorem balloc {a b : World} (h : Below a.heap.size a b) (o : Obj) : Below a.heap.size a (b.alloc o) := h.alloc h.size o
theorem bdrew {a b : World} (h : Below a.heap.size a b) (n : Nat) : Below a.heap.size a (b.drewN n) := h.trans ⟨rfl, rfl, rfl, Nat.le_refl _, fun _ _ => rfl⟩
theorem brefl (a : World) : Below a.heap.size a a := Below.refl _ _
theorem Drawn.below {a b : World} (h : Drawn a b) : Below a.heap.size a b := by
  obtain ⟨n, rfl⟩ := h
  exact bdrew (brefl a) n

def okS (lo hi : Int) : Prop := -2305843009213693952 ≤ lo ∧ lo ≤ hi ∧ hi ≤ 2305843009213693952

set_option maxRecDepth 100000 in
set_option maxHeartbeats 1000000 in
theorem Check_ok (lo hi : Int) (w : World) (h : okS lo hi) :
    Calls Try.prog 20 #[.agg #[.int .i64 lo, .int .i64 hi]] w fun e w' => e = .returned (.int .i64 0) ∧ Below w.heap.size w w' := by
  obtain ⟨h1, h2, h3⟩ := h
  have e1 : decide (hi < lo) = false := by rw [decide_eq_false_iff_not]; omega
  go_enter Try.func20, Try.ntmps20
  go_wp2_with fail
  refine (isTime_yes _ _ (by omega) (by omega)).mono ?_
  rintro e w' ⟨rfl, rfl⟩
  go_wp2_with fail
  refine (isTime_yes _ _ (by omega) (by omega)).mono ?_
  rintro e w' ⟨rfl, rfl⟩
  go_wp2_with fail
  go_ret
  exact ⟨rfl, (Below.refl _ _).alloc (Nat.le_refl _) _⟩

set_option maxRecDepth 100000 in
set_option maxHeartbeats 1000000 in
theorem Check_bad (lo hi : Int) (w : World) (h : ¬ okS lo hi) :
    Calls Try.prog 20 #[.agg #[.int .i64 lo, .int .i64 hi]] w fun e w' => e = .returned (.int .i64 3) ∧ Below w.heap.size w w' := by
  unfold okS at h
  by_cases c1 : -2305843009213693952 ≤ lo ∧ lo ≤ 2305843009213693952
  · obtain ⟨a1, a2⟩ := c1
    by_cases c2 : -2305843009213693952 ≤ hi ∧ hi ≤ 2305843009213693952
    · obtain ⟨b1, b2⟩ := c2
      have e0 : hi < lo := by omega
      have e1 : decide (hi < lo) = true := decide_eq_true e0
      clear h
      go_enter Try.func20, Try.ntmps20
      go_wp2_with fail
      refine (isTime_yes _ _ (by omega) (by omega)).mono ?_
      rintro e w' ⟨rfl, rfl⟩
      go_wp2_with fail
      refine (isTime_yes _ _ (by omega) (by omega)).mono ?_
      rintro e w' ⟨rfl, rfl⟩
      go_wp2_with fail
      go_ret
      exact ⟨rfl, (Below.refl _ _).alloc (Nat.le_refl _) _⟩
    · have c3 : hi < -2305843009213693952 ∨ 2305843009213693952 < hi := by omega
      clear h c2
      go_enter Try.func20, Try.ntmps20
      go_wp2_with fail
      refine (isTime_yes _ _ (by omega) (by omega)).mono ?_
      rintro e w' ⟨rfl, rfl⟩
      go_wp2_with fail
      refine (isTime_no _ _ (by omega)).mono ?_
      rintro e w' ⟨rfl, rfl⟩
      go_wp2_with fail
      go_ret
      exact ⟨rfl, (Below.refl _ _).alloc (Nat.le_refl _) _⟩
  · have c3 : lo < -2305843009213693952 ∨ 2305843009213693952 < lo := by omega
    clear h c1
    go_enter Try.func20, Try.ntmps20
    go_wp2_with fail
    refine (isTime_no _ _ (by omega)).mono ?_
    rintro e w' ⟨rfl, rfl⟩
    go_wp2_with fail
    go_ret
    exact ⟨rfl, (Below.refl _ _).alloc (Nat.le_refl _) _⟩

/-- the short form. -/
def shortF (d : Int) : Int := if d < 0 then 0 else if 4294967295 < (d + 15) / 16 then 4294967295 else (d + 15) / 16

/-- the stamp. -/
def stampF (t : Int) : Int := t * 4096 % 18446744073709551616

theorem stamp_wrap (t : Int) : IntKind.u64.wrap (IntKind.u64.wrap t * 4096) = stampF t := by
  unfold stampF; simp only [IntKind.wrap_u64]; omega

/-- the time next to the pivot that a stamp stands for. -/
def unfT (s pivot : Int) : Int := pivot - 2251799813685248 + (s / 4096 - (pivot - 2251799813685248)) % 4503599627370496
/-- the upper end of what a stamp may stand for. -/
def unfHi (s t : Int) : Int := if s % 4096 = 0 then t else t + 1

theorem unfT_bd (s pivot : Int) : pivot - 2251799813685248 ≤ unfT s pivot ∧ unfT s pivot < pivot + 2251799813685248 := by unfold unfT; omega

theorem unf_wrap (s pivot : Int) : pivot - 2251799813685248 + IntKind.u64.wrap (s / 4096 - IntKind.u64.wrap (pivot - 2251799813685248)) % 4503599627370496 = unfT s pivot := by
  unfold unfT; simp only [IntKind.wrap_u64]; omega

end Go.Proofs.Ytppflfodkhhfhaa.Fx
