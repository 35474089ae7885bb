/-
  Whole numbers: the contracts of words.digits and Number; a call whose answer the document fixes.
-/
import Derived.Test.YthlmjfjkjjoimaaDoorWpI
namespace Go.Proofs.YthlmjfjkjjoimaaDoor.Wd
open Go.ChangeShapes Go.WideShapes Go.ChangeAt Go.RowKit Go.Joins By
set_option linter.unusedVariables false
set_option linter.unusedSimpArgs false

theorem gn_get (s : ByteArray) (p : Nat) (h : p < s.size) : (s.get! p).toNat = gn s p := by
  rw [gn, Lib.getD_get!']
theorem cr_cases (s : ByteArray) (p : Nat) (h : p < s.size) : (cr s p = gn s p ∧ cw s p = 1) ∨ (128 ≤ cr s p ∧ 128 ≤ gn s p) := by
  have g := gn_get s p h
  have d := Lib.decode_at s p
  have e1 : cr s p = (Utf8.decode s p).1 := rfl
  have e2 : cw s p = (Utf8.decode s p).2 := rfl
  rw [d] at e1 e2
  rw [g] at e1 e2
  rcases Lib.decodeN_shape (s.size - p) (gn s p) (s.get! (p + 1)).toNat (s.get! (p + 2)).toNat (s.get! (p + 3)).toNat with ⟨c, e⟩ | ⟨c1, c2, c3, cv, e⟩ | ⟨c1, c2, c3, c4, cv, cs, e⟩ | ⟨c1, c2, c3, c4, c5, cv, cw', e⟩ | e
  · rw [e] at e1 e2
    exact .inl ⟨e1, e2⟩
  · rw [e] at e1
    refine .inr ⟨by rw [e1]; exact cv, by omega⟩
  · rw [e] at e1
    refine .inr ⟨by rw [e1]; show 128 ≤ _; omega, by omega⟩
  · rw [e] at e1
    refine .inr ⟨by rw [e1]; show 128 ≤ _; omega, by omega⟩
  · by_cases c : gn s p < 128
    · have : Lib.decodeN (s.size - p) (gn s p) (s.get! (p + 1)).toNat (s.get! (p + 2)).toNat (s.get! (p + 3)).toNat = (gn s p, 1) := by unfold Lib.decodeN; rw [if_pos c]
      rw [this] at e1 e2
      exact .inl ⟨e1, e2⟩
    · rw [e] at e1
      refine .inr ⟨by rw [e1]; show 128 ≤ 65533; omega, by omega⟩
/-- one digit or more, and m at most. -/
def okd (s : ByteArray) (m : Nat) : Bool := dgs s && decide (s.size ≤ m)
theorem va_le {s : ByteArray} {k : Nat} (h : ∀ i, i < k → dig (gn s i) = true) (hk : k ≤ 10) : va s k < 10000000000 := by
  have a := va_lt k h
  have b : 10 ^ k ≤ 10 ^ 10 := Nat.pow_le_pow_right (by omega) hk
  have c : (10 : Nat) ^ 10 = 10000000000 := by decide
  omega
theorem toList_emp (s : ByteArray) : (s.toList == (⟨#[]⟩ : ByteArray).toList) = decide (s.size = 0) := by
  rw [ByteArray.toList_eq, ByteArray.toList_eq]
  rw [Bool.eq_iff_iff, beq_iff_eq, decide_eq_true_eq]
  constructor
  · intro h
    have := congrArg List.length h
    rw [Array.length_toList] at this
    exact this
  · intro h
    have h' : s.data.size = 0 := h
    have : s.data = #[] := Array.eq_empty_of_size_eq_zero h'
    rw [this]

set_option maxRecDepth 100000 in
set_option maxHeartbeats 4000000 in
theorem pdigits_c (s : ByteArray) (m : Nat) (hm : m ≤ 10) (w : World) (hs : s.size ≤ 9223372036854775807) :
    Calls Tryd.prog 25 #[.string s, .int .i64 (m : Int)] w fun e w' => e = .returned (.tuple #[.int .i64 (if okd s m = true then (va s s.size : Int) else 0), .int .i64 (if okd s m = true then 0 else 4)]) ∧ Below w.heap.size w w' := by
  obtain ⟨r, HR⟩ : ∃ r, Hid (r = (if okd s m = true then (va s s.size : Int) else 0)) := ⟨_, Lib.hid rfl⟩
  obtain ⟨z, HZ⟩ : ∃ z, Hid (z = (if okd s m = true then (0 : Int) else 4)) := ⟨_, Lib.hid rfl⟩
  rw [← HR.out, ← HZ.out]
  have BAD : Hid (okd s m = false → r = 0 ∧ z = 4) := Lib.hid (fun h => by rw [HR.out, HZ.out, h]; exact ⟨rfl, rfl⟩)
  have GOOD : Hid (okd s m = true → r = (va s s.size : Int) ∧ z = 0) := Lib.hid (fun h => by rw [HR.out, HZ.out, h]; exact ⟨rfl, rfl⟩)
  clear HR HZ
  by_cases h0 : s.size = 0
  · have e0 : (s.toList == []) = true := by
      have := toList_emp s
      rw [ByteArray.toList_eq (⟨#[]⟩)] at this
      rw [decide_eq_true h0] at this
      exact this
    obtain ⟨b1, b2⟩ := BAD.out (by rw [okd, dgs, decide_eq_false (show ¬ 0 < s.size by omega), Bool.and_false, Bool.false_and])
    clear h0
    go_enter Tryd.func25, Tryd.ntmps25
    go_wp2_with fail
    go_ret2
    exact ⟨by rw [b1, b2]; rfl, brefl w⟩
  have e0 : (s.toList == []) = false := by
    have := toList_emp s
    rw [ByteArray.toList_eq (⟨#[]⟩)] at this
    rw [decide_eq_false h0] at this
    exact this
  by_cases h1 : m < s.size
  · have e1 : decide (m < s.size) = true := decide_eq_true h1
    obtain ⟨b1, b2⟩ := BAD.out (by rw [okd, decide_eq_false (show ¬ s.size ≤ m by omega), Bool.and_false])
    clear h0 h1
    go_enter Tryd.func25, Tryd.ntmps25
    go_wp2_with fail
    go_ret2
    exact ⟨by rw [b1, b2]; rfl, brefl w⟩
  have e1 : decide (m < s.size) = false := decide_eq_false h1
  go_enter Tryd.func25, Tryd.ntmps25
  have B0 := Lib.hid (balloc (brefl w) (.stringIter s 0))
  have I0 := Lib.hid (World.iter_heap w s 0)
  go_wp2_with fail
  go_loopw [6, 8] (fun nv _ wr => ∃ k : Nat, k ≤ s.size ∧ nv = .int .i64 (va s k : Nat) ∧ (∀ j, j < k → dig (gn s j) = true) ∧ wr.heap[w.heap.size]? = some (.stringIter s k) ∧ Below w.heap.size w wr) (fun _ _ wr => s.size - wr.iterPos w.heap.size)
  case atStart => exact ⟨0, Nat.zero_le _, rfl, fun j hj => absurd hj (Nat.not_lt_zero _), I0.out, B0.out⟩
  case round =>
    clear B0 I0 e0 e1
    obtain ⟨k, hk, rfl, hno, hi, hb⟩ := hrel
    rename World => wr
    have IP : Hid (wr.iterPos w.heap.size = k) := Lib.hid (by simp [World.iterPos, hi])
    by_cases c : k < s.size
    · have hnx := fun ty => Lib.run_next_any_at (P := Tryd.prog) wr w.heap.size s k ty hi c
      change (∀ ty, (Instr.next (.pointer (some ⟨w.heap.size, 0, none⟩)) true ty).run Tryd.prog wr = .ok (.tuple #[.bool true, .int .i64 k, .int .i32 (cr s k)]) (wr.iterAt w.heap.size s (k + cw s k))) at hnx
      have CC := cr_cases s k c
      have gl := gn_lt s k
      have crl := cr_le s k
      by_cases hd : dig (cr s k) = true
      · have g1 : 48 ≤ cr s k ∧ cr s k ≤ 57 := by simpa [dig] using hd
        have EG : cr s k = gn s k ∧ cw s k = 1 := by omega
        have NY : Hid (∀ j, j < k + 1 → dig (gn s j) = true) := Lib.hid (fun j hj => by
          by_cases e : j = k
          · subst e; rw [← EG.1]; exact hd
          · exact hno j (by omega))
        have v1 := va_le hno (show k ≤ 10 by omega)
        have VS : Hid (va s (k + 1) = 10 * va s k + (cr s k - 48)) := Lib.hid (by rw [EG.1]; rfl)
        rw [EG.2] at hnx
        have HI := Lib.hid (Lib.iterAt_heap wr w.heap.size s k (k + 1) hi)
        have HB := Lib.hid (Lib.below_iterAt hb (Nat.le_refl w.heap.size) s (k + 1))
        have e48 : decide ((cr s k : Int) < 48) = false := by rw [decide_eq_false_iff_not]; omega
        have e57 : decide (57 < (cr s k : Int)) = false := by rw [decide_eq_false_iff_not]; omega
        clear EG hd CC hno hi hb
        generalize cr s k = x at *
        generalize va s k = u at *
        generalize wr.iterAt w.heap.size s (k + 1) = w2 at *
        go_wp2_with fail
        go_roundw
        case rel => exact ⟨k + 1, by omega, by rw [VS.out]; congr 1; omega, NY.out, HI.out, HB.out⟩
        case measure =>
          have e4 : w2.iterPos w.heap.size = k + 1 := by simp [World.iterPos, HI.out]
          rw [IP.out, e4]
          omega
      · have hd' : dig (gn s k) = false := by
          rcases CC with ⟨e, _⟩ | ⟨_, e⟩
          · rw [← e]; simpa using hd
          · simp [dig]; omega
        obtain ⟨b1, b2⟩ := BAD.out (by rw [okd, dgs_no c hd', Bool.false_and])
        have g1 : cr s k < 48 ∨ 57 < cr s k := by simp [dig] at hd; omega
        have HB := Lib.hid (Lib.below_iterAt hb (Nat.le_refl w.heap.size) s (k + cw s k))
        clear hd hd' CC hno hi hb
        generalize wr.iterAt w.heap.size s (k + cw s k) = w2 at *
        generalize cr s k = x at *
        by_cases x48 : x < 48
        · have e48 : decide ((x : Int) < 48) = true := by rw [decide_eq_true_iff]; omega
          go_wp2_with fail
          go_ret2
          exact ⟨by rw [b1, b2]; rfl, HB.out⟩
        · have e48 : decide ((x : Int) < 48) = false := by rw [decide_eq_false_iff_not]; omega
          have e57 : decide (57 < (x : Int)) = true := by rw [decide_eq_true_iff]; omega
          go_wp2_with fail
          go_ret2
          exact ⟨by rw [b1, b2]; rfl, HB.out⟩
    · have hnx := fun ty => Lib.run_next_end_at (P := Tryd.prog) wr w.heap.size s k ty hi c
      have ek : k = s.size := by omega
      obtain ⟨b1, b2⟩ := GOOD.out (by rw [okd, dgs_all (fun i hi => hno i (by omega)), decide_eq_true (show 0 < s.size by omega), decide_eq_true (show s.size ≤ m by omega)]; rfl)
      have HB := Lib.hid hb
      have EK : Hid (va s k = va s s.size) := Lib.hid (by rw [ek])
      clear ek hi hb hno
      go_wp2_with fail
      go_ret2
      exact ⟨by rw [b1, b2, ← EK.out]; rfl, HB.out⟩

theorem wn_okd (s : ByteArray) (h : ¬ (1 < s.size ∧ gn s 0 = 48)) : okd s 10 = wn s := by
  rw [okd, wn]
  have : (!(decide (1 < s.size) && decide (gn s 0 = 48))) = true := by
    by_cases a : 1 < s.size
    · rw [decide_eq_true a, decide_eq_false (fun e => h ⟨a, e⟩)]; rfl
    · rw [decide_eq_false a]; rfl
  rw [this, Bool.and_true]
set_option maxRecDepth 100000 in
set_option maxHeartbeats 4000000 in
theorem Number_c (s : ByteArray) (w : World) (hs : s.size ≤ 9223372036854775807) :
    Calls Tryd.prog 15 #[.string s] w fun e w' => e = .returned (.tuple #[.int .i64 (if wn s = true then (va s s.size : Int) else 0), .int .i64 (if wn s = true then 0 else 4)]) ∧ Below w.heap.size w w' := by
  have DC := pdigits_c s 10 (Nat.le_refl _) w hs
  by_cases h : 1 < s.size ∧ gn s 0 = 48
  · have W : wn s = false := by rw [wn, decide_eq_true h.1, decide_eq_true h.2]; simp
    rw [W]
    have e1 : decide (1 < (s.size : Int)) = true := by rw [decide_eq_true_iff]; omega
    have ga := gn_at s 0 (by omega)
    rw [h.2] at ga
    clear DC
    go_enter Tryd.func15, Tryd.ntmps15
    go_wp2_with fail
    go_ret2
    exact ⟨rfl, brefl w⟩
  · rw [wn_okd s h] at DC
    have T2 : (decide (1 < (s.size : Int)) = false) ∨ (decide (1 < (s.size : Int)) = true ∧ ∃ h0 : 0 < s.size, ((gn s 0 : Int) == 48) = false) := by
      by_cases h' : 1 < s.size
      · exact .inr ⟨by rw [decide_eq_true_iff]; omega, by omega, by rw [beq_eq_false_iff_ne]; have : ¬ gn s 0 = 48 := fun e => h ⟨h', e⟩; omega⟩
      · exact .inl (by rw [decide_eq_false_iff_not]; omega)
    have DC := Lib.hid DC
    generalize (if wn s = true then (va s s.size : Int) else 0) = r at *
    generalize (if wn s = true then (0 : Int) else 4) = z at *
    clear h
    rcases T2 with e1 | ⟨e1, h0, e2⟩
    · go_enter Tryd.func15, Tryd.ntmps15
      go_wp2_with fail
      refine DC.out.mono ?_
      rintro e w' ⟨rfl, hb⟩
      go_wp2_with fail
      go_ret2
      exact ⟨rfl, hb⟩
    · have ga := gn_at s 0 h0
      generalize gn s 0 = y0 at *
      go_enter Tryd.func15, Tryd.ntmps15
      go_wp2_with fail
      refine DC.out.mono ?_
      rintro e w' ⟨rfl, hb⟩
      go_wp2_with fail
      go_ret2
      exact ⟨rfl, hb⟩
end Go.Proofs.YthlmjfjkjjoimaaDoor.Wd
