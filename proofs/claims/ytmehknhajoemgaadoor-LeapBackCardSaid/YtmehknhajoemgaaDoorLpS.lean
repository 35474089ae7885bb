/-
  A list of leap seconds, line by line: what a line's front says; the contracts of leap.front, isHash, behindMark.
  Conditions: none.
-/
import Derived.Test.YtmehknhajoemgaaDoorLpR
import Derived.Test.YtmehknhajoemgaaDoorWe
import Derived.Laws.Strings2
namespace Go.Proofs.YtmehknhajoemgaaDoor.Wd
open Go.ChangeShapes Go.WideShapes Go.ChangeAt Go.RowKit Go.Joins By
set_option linter.unusedVariables false
set_option linter.unusedSimpArgs false

/-- what a line's front says that it is: 1 #@, 2 #h, 0 neither. -/
def fk (s : ByteArray) : Nat := if 2 ≤ s.size ∧ gn s 0 = 35 ∧ gn s 1 = 64 then 1 else if 2 ≤ s.size ∧ gn s 0 = 35 ∧ gn s 1 = 104 then 2 else 0
/-- .. and what is to be cut. -/
def fr (s : ByteArray) : ByteArray := if fk s = 0 then s else s.extract 2 s.size
theorem fk_no {s : ByteArray} (h : ¬ (2 ≤ s.size ∧ gn s 0 = 35 ∧ (gn s 1 = 64 ∨ gn s 1 = 104))) : fk s = 0 := by
  unfold fk
  rw [if_neg (fun q => h ⟨q.1, q.2.1, .inl q.2.2⟩), if_neg (fun q => h ⟨q.1, q.2.1, .inr q.2.2⟩)]
set_option maxRecDepth 100000 in
set_option maxHeartbeats 4000000 in
theorem front_c (s : ByteArray) (w : World) (hs : s.size ≤ 1099511627776) :
    Calls Tryd.prog 37 #[.string s] w fun e w' => e = .returned (.tuple #[.int .i64 (fk s : Nat), .string (fr s)]) ∧ Below w.heap.size w w' := by
  obtain ⟨z, HZ⟩ : ∃ z : Nat, Hid (z = fk s) := ⟨_, Lib.hid rfl⟩
  obtain ⟨R, HR⟩ : ∃ R, Hid (R = fr s) := ⟨_, Lib.hid rfl⟩
  rw [← HZ.out, ← HR.out]
  have NO : Hid (¬ (2 ≤ s.size ∧ gn s 0 = 35 ∧ (gn s 1 = 64 ∨ gn s 1 = 104)) → z = 0 ∧ s = R) := Lib.hid fun h => by
    have := fk_no h
    exact ⟨by rw [HZ.out, this], by rw [HR.out, fr, if_pos this]⟩
  have Y1 : Hid (2 ≤ s.size → gn s 0 = 35 → gn s 1 = 64 → z = 1 ∧ R = s.extract 2 s.size) := Lib.hid fun a b c => by
    have : fk s = 1 := by unfold fk; rw [if_pos ⟨a, b, c⟩]
    exact ⟨by rw [HZ.out, this], by rw [HR.out, fr, if_neg (by rw [this]; decide)]⟩
  have Y2 : Hid (2 ≤ s.size → gn s 0 = 35 → gn s 1 = 104 → z = 2 ∧ R = s.extract 2 s.size) := Lib.hid fun a b c => by
    have : fk s = 2 := by unfold fk; rw [if_neg (fun q => by omega), if_pos ⟨a, b, c⟩]
    exact ⟨by rw [HZ.out, this], by rw [HR.out, fr, if_neg (by rw [this]; decide)]⟩
  clear HZ HR
  go_enter Tryd.func37, Tryd.ntmps37
  have B0 := Lib.hid (balloc (brefl w) (.stringIter s 0))
  have I0 := Lib.hid (World.iter_heap w s 0)
  go_wp2_with fail
  go_loopw [4] (fun _ wr => ∃ k : Nat, k ≤ 1 ∧ k ≤ s.size ∧ (k = 1 → gn s 0 = 35) ∧ wr.heap[w.heap.size]? = some (.stringIter s k) ∧ Below w.heap.size w wr) (fun _ wr => s.size - wr.iterPos w.heap.size)
  case atStart => exact ⟨0, Nat.zero_le _, Nat.zero_le _, fun h => absurd h (by decide), I0.out, B0.out⟩
  case round =>
    clear B0 I0
    obtain ⟨k, k1, hk, h35, hi, hb⟩ := hrel
    rename World => wr
    have IP : Hid (wr.iterPos w.heap.size = k) := Lib.hid (by simp [World.iterPos, hi])
    by_cases c : k < s.size
    · have hnx := fun ty => Lib.run_next_any_at (P := Tryd.prog) wr w.heap.size s k ty hi c
      change (∀ ty, (Instr.next (.pointer (some ⟨w.heap.size, 0, none⟩)) true ty).run Tryd.prog wr = .ok (.tuple #[.bool true, .int .i64 k, .int .i32 (cr s k)]) (wr.iterAt w.heap.size s (k + cw s k))) at hnx
      have CC := cr_cases s k c
      have HB := Lib.hid (Lib.below_iterAt hb (Nat.le_refl w.heap.size) s (k + cw s k))
      have HI := Lib.hid (Lib.iterAt_heap wr w.heap.size s k (k + cw s k) hi)
      have h35 := Lib.hid h35
      clear hi hb
      by_cases k0 : k = 0
      · subst k0
        by_cases g : gn s 0 = 35
        · have EG : cr s 0 = 35 ∧ cw s 0 = 1 := by omega
          rw [EG.1, EG.2] at hnx
          rw [EG.2] at HI HB
          have GG := Lib.hid g
          clear EG CC g
          simp only [Int.natCast_zero, Nat.zero_add] at hnx HI HB
          generalize wr.iterAt w.heap.size s 1 = w2 at *
          go_wp2_with fail
          go_roundw
          case rel => exact ⟨1, Nat.le_refl _, c, fun _ => GG.out, HI.out, HB.out⟩
          case measure =>
            have e4 : w2.iterPos w.heap.size = 1 := by simp [World.iterPos, HI.out]
            rw [IP.out, e4]
            omega
        · have NE : ((cr s 0 : Int) == 35) = false := by
            rw [beq_eq_false_iff_ne]
            omega
          obtain ⟨rfl, rfl⟩ := NO.out (fun q => g q.2.1)
          clear CC g
          simp only [Int.natCast_zero, Nat.zero_add] at hnx HI HB
          generalize cr s 0 = x at *
          generalize wr.iterAt w.heap.size s (cw s 0) = w2 at *
          go_wp2_with fail
          go_ret2
          exact ⟨rfl, HB.out⟩
      · have k2 : k = 1 := by omega
        subst k2
        have G0 := Lib.hid (h35.out rfl)
        by_cases g1 : gn s 1 = 64
        · have EG : cr s 1 = 64 := by omega
          rw [EG] at hnx
          obtain ⟨rfl, rfl⟩ := Y1.out (by omega) G0.out g1
          clear EG CC g1
          have s2 : (2 : Int) ≤ (s.size : Int) := by omega
          simp only [Int.natCast_one] at hnx
          generalize wr.iterAt w.heap.size s (1 + cw s 1) = w2 at *
          go_wp2_with fail
          go_quiet (fail)
          go_wp2_with fail
          go_ret2
          exact ⟨rfl, Cv.bdrew HB.out _⟩
        · by_cases g2 : gn s 1 = 104
          · have EG : cr s 1 = 104 := by omega
            rw [EG] at hnx
            obtain ⟨rfl, rfl⟩ := Y2.out (by omega) G0.out g2
            clear EG CC g1 g2
            have s2 : (2 : Int) ≤ (s.size : Int) := by omega
            simp only [Int.natCast_one] at hnx
            generalize wr.iterAt w.heap.size s (1 + cw s 1) = w2 at *
            go_wp2_with fail
            go_quiet (fail)
            go_wp2_with fail
            go_ret2
            exact ⟨rfl, Cv.bdrew HB.out _⟩
          · have N1 : ((cr s 1 : Int) == 64) = false := by rw [beq_eq_false_iff_ne]; omega
            have N2 : ((cr s 1 : Int) == 104) = false := by rw [beq_eq_false_iff_ne]; omega
            obtain ⟨rfl, rfl⟩ := NO.out (fun q => q.2.2.elim g1 g2)
            clear CC g1 g2
            simp only [Int.natCast_one] at hnx
            generalize cr s 1 = x at *
            generalize wr.iterAt w.heap.size s (1 + cw s 1) = w2 at *
            go_wp2_with fail
            go_ret2
            exact ⟨rfl, HB.out⟩
    · have hnx := fun ty => Lib.run_next_end_at (P := Tryd.prog) wr w.heap.size s k ty hi c
      have HB := Lib.hid hb
      obtain ⟨rfl, rfl⟩ := NO.out (fun q => by omega)
      clear hi hb h35 NO Y1 Y2
      go_wp2_with fail
      go_ret2
      exact ⟨rfl, HB.out⟩

/-- digits of the base sixteen, small ones, 32 of them. -/
def hx32 (s : ByteArray) : Prop := s.size = 32 ∧ ∀ i, i < 32 → (48 ≤ gn s i ∧ gn s i ≤ 57) ∨ (97 ≤ gn s i ∧ gn s i ≤ 102)
set_option maxRecDepth 100000 in
set_option maxHeartbeats 4000000 in
theorem isHash_yes (s : ByteArray) (w : World) (h : hx32 s) :
    Calls Tryd.prog 76 #[.string s] w fun e w' => e = .returned (.bool true) ∧ Below w.heap.size w w' := by
  obtain ⟨h32, hx⟩ := h
  have HX := Lib.hid hx
  have H32 := Lib.hid h32
  clear hx
  go_enter Tryd.func76, Tryd.ntmps76
  have B0 := Lib.hid (balloc (brefl w) (.stringIter s 0))
  have I0 := Lib.hid (World.iter_heap w s 0)
  clear h32
  go_wp2_with fail
  go_loopw [4] (fun _ wr => ∃ k : Nat, k ≤ s.size ∧ wr.heap[w.heap.size]? = some (.stringIter s k) ∧ Below w.heap.size w wr) (fun _ wr => s.size - wr.iterPos w.heap.size)
  case atStart => exact ⟨0, Nat.zero_le _, I0.out, B0.out⟩
  case round =>
    clear B0 I0
    obtain ⟨k, hk, hi, hb⟩ := hrel
    rename World => wr
    have IP : Hid (wr.iterPos w.heap.size = k) := Lib.hid (by simp [World.iterPos, hi])
    by_cases c : k < s.size
    · have hnx := fun ty => Lib.run_next_any_at (P := Tryd.prog) wr w.heap.size s k ty hi c
      change (∀ ty, (Instr.next (.pointer (some ⟨w.heap.size, 0, none⟩)) true ty).run Tryd.prog wr = .ok (.tuple #[.bool true, .int .i64 k, .int .i32 (cr s k)]) (wr.iterAt w.heap.size s (k + cw s k))) at hnx
      have CC := cr_cases s k c
      have hx := HX.out k (by rw [← H32.out]; exact c)
      have EG : cr s k = gn s k ∧ cw s k = 1 := by omega
      rw [EG.1, EG.2] at hnx
      have HI := Lib.hid (Lib.iterAt_heap wr w.heap.size s k (k + 1) hi)
      have HB := Lib.hid (Lib.below_iterAt hb (Nat.le_refl w.heap.size) s (k + 1))
      clear EG CC hi hb
      generalize gn s k = x at *
      generalize wr.iterAt w.heap.size s (k + 1) = w2 at *
      by_cases d : x ≤ 57
      · have e1 : decide ((x : Int) < 48) = false := by rw [decide_eq_false_iff_not]; omega
        have e2 : decide (57 < (x : Int)) = false := by rw [decide_eq_false_iff_not]; omega
        clear hx
        go_wp2_with fail
        go_roundw
        case rel => exact ⟨k + 1, by omega, HI.out, HB.out⟩
        case measure =>
          have e4 : w2.iterPos w.heap.size = k + 1 := by simp [World.iterPos, HI.out]
          rw [IP.out, e4]
          omega
      · have e1 : decide ((x : Int) < 48) = false := by rw [decide_eq_false_iff_not]; omega
        have e2 : decide (57 < (x : Int)) = true := by rw [decide_eq_true_iff]; omega
        have e3 : decide ((x : Int) < 97) = false := by rw [decide_eq_false_iff_not]; omega
        have e5 : decide (102 < (x : Int)) = false := by rw [decide_eq_false_iff_not]; omega
        clear hx
        go_wp2_with fail
        go_roundw
        case rel => exact ⟨k + 1, by omega, HI.out, HB.out⟩
        case measure =>
          have e4 : w2.iterPos w.heap.size = k + 1 := by simp [World.iterPos, HI.out]
          rw [IP.out, e4]
          omega
    · have hnx := fun ty => Lib.run_next_end_at (P := Tryd.prog) wr w.heap.size s k ty hi c
      have HB := Lib.hid hb
      have e32 : ((s.size : Int) == 32) = true := by rw [H32.out]; rfl
      clear hi hb
      go_wp2_with fail
      go_ret
      exact ⟨rfl, HB.out⟩

/-- the one word behind a mark. -/
theorem behindMark_yes {w : World} {v : Value} {t : ByteArray} {c : Int} (A : Rw w v [⟨t, c, false⟩]) (hc : (c == 0) = false) :
    Calls Tryd.prog 75 #[v] w fun e w' => e = .returned (.string t) ∧ Below w.heap.size w w' := by
  obtain ⟨a, cap, rfl, h1, h2, h3⟩ := A
  obtain ⟨b, off, rfl, hb, B⟩ := h3 (by simp)
  obtain ⟨x1, x2, x3⟩ := B 0 _ rfl
  simp only [Nat.zero_mul, Nat.add_zero] at x1 x2 x3
  clear h3 B
  simp only [List.length_singleton] at h1
  go_enter Tryd.func75, Tryd.ntmps75
  go_wp2_with fail
  go_ret
  exact ⟨rfl, brefl _⟩
end Go.Proofs.YtmehknhajoemgaaDoor.Wd
