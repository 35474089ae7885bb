/-
  The document's New of a clock.
  Conditions: none.
-/
import Derived.Test.YtojcckikgnbgiaaCkC
namespace Go.Proofs.Ytojcckikgnbgiaa.Ck
open Go.RowKit Go.ChangeShapes Go.WideShapes Go.ChangeAt Go.Joins Fl
set_option linter.unusedVariables false
set_option linter.unusedSimpArgs false

theorem newE_bad {r b f : Int} (h : ¬ ((0 ≤ r ∧ r ≤ 288230376151711744) ∧ (0 ≤ b ∧ b ≤ 288230376151711744) ∧ -500000 ≤ f ∧ f ≤ 500000)) : newE r b f = 2 := by unfold newE; rw [if_neg h]
theorem newE_ok {r b f : Int} (h : (0 ≤ r ∧ r ≤ 288230376151711744) ∧ (0 ≤ b ∧ b ≤ 288230376151711744) ∧ -500000 ≤ f ∧ f ≤ 500000) : newE r b f = 0 := by unfold newE; rw [if_pos h]
/-- what the document's New answers. -/
def NwP (w : World) (r b f : Int) (e : Ending) (w' : World) : Prop :=
  (newE r b f = 0 ∧ e = .returned (.tuple #[.pointer (some ⟨w.heap.size, 0, none⟩), .int .i64 0]) ∧ Blk w' w.heap.size (kvs (new r b f))) ∨ (newE r b f = 2 ∧ e = .returned (.tuple #[.pointer none, .int .i64 2]))
theorem rNew_c (r b f : Int) (w : World) : Calls Try.prog 9 #[.int .i64 r, .int .i64 b, .int .i64 f] w fun e w' => NwP w r b f e w' ∧ Below w.heap.size w w' := by
  have NB := Lib.hid (Blk.new' w #[.int .i64 b, .int .i64 r, .int .i64 0, .int .i64 0, .int .i64 0, .int .i64 f, .int .i64 0] 45)
  have BB := Lib.hid (balloc (brefl w) (.cells #[.int .i64 b, .int .i64 r, .int .i64 0, .int .i64 0, .int .i64 0, .int .i64 f, .int .i64 0] 45))
  by_cases c0 : r < 0
  · have e0 := decide_eq_true c0
    have BD := Lib.hid (newE_bad (r := r) (b := b) (f := f) (by omega))
    go_enter Try.func9, Try.ntmps9
    go_wp2_with fail
    go_ret2
    exact ⟨.inr ⟨BD.out, rfl⟩, brefl w⟩
  · have e0 := decide_eq_false c0
    by_cases c1 : 288230376151711744 < r
    · have e1 := decide_eq_true c1
      have BD := Lib.hid (newE_bad (r := r) (b := b) (f := f) (by omega))
      go_enter Try.func9, Try.ntmps9
      go_wp2_with fail
      go_ret2
      exact ⟨.inr ⟨BD.out, rfl⟩, brefl w⟩
    · have e1 := decide_eq_false c1
      by_cases c2 : b < 0
      · have e2 := decide_eq_true c2
        have BD := Lib.hid (newE_bad (r := r) (b := b) (f := f) (by omega))
        go_enter Try.func9, Try.ntmps9
        go_wp2_with fail
        go_ret2
        exact ⟨.inr ⟨BD.out, rfl⟩, brefl w⟩
      · have e2 := decide_eq_false c2
        by_cases c3 : 288230376151711744 < b
        · have e3 := decide_eq_true c3
          have BD := Lib.hid (newE_bad (r := r) (b := b) (f := f) (by omega))
          go_enter Try.func9, Try.ntmps9
          go_wp2_with fail
          go_ret2
          exact ⟨.inr ⟨BD.out, rfl⟩, brefl w⟩
        · have e3 := decide_eq_false c3
          by_cases c4 : f < -500000
          · have e4 := decide_eq_true c4
            have BD := Lib.hid (newE_bad (r := r) (b := b) (f := f) (by omega))
            go_enter Try.func9, Try.ntmps9
            go_wp2_with fail
            go_ret2
            exact ⟨.inr ⟨BD.out, rfl⟩, brefl w⟩
          · have e4 := decide_eq_false c4
            by_cases c5 : 500000 < f
            · have e5 := decide_eq_true c5
              have BD := Lib.hid (newE_bad (r := r) (b := b) (f := f) (by omega))
              go_enter Try.func9, Try.ntmps9
              go_wp2_with fail
              go_ret2
              exact ⟨.inr ⟨BD.out, rfl⟩, brefl w⟩
            · have e5 := decide_eq_false c5
              have OK := Lib.hid (newE_ok (r := r) (b := b) (f := f) (by omega))
              go_enter Try.func9, Try.ntmps9
              go_wp2_with fail
              go_ret2
              exact ⟨.inl ⟨OK.out, rfl, NB.out⟩, BB.out⟩
end Go.Proofs.Ytojcckikgnbgiaa.Ck
