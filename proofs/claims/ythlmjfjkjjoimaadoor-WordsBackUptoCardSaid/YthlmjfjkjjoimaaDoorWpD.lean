/-
  The contracts of words.Quote, isBlank, isWrong, digits and Number.
  Conditions: Quote: no more than 2^40 bytes.
-/
import Derived.Test.YthlmjfjkjjoimaaDoorWpC
namespace Go.Proofs.YthlmjfjkjjoimaaDoor.Wd
open Go.ChangeShapes Go.WideShapes Go.ChangeAt Go.RowKit Go.Joins By
set_option linter.unusedVariables false
set_option linter.unusedSimpArgs false

/-- a builder of the call's own, that holds these bytes. -/
def Qb (w wr : World) (l : List Nat) : Prop := ∃ c v, Fb wr w.heap.size 0 47 c ∧ c[1]? = some v ∧ Own wr w.heap.size v l ∧ (l = [] → v = .slice none 0 0) ∧ Below w.heap.size w wr
set_option maxRecDepth 100000 in
theorem Qb.new (w : World) : Qb w (w.alloc (.cells #[.pointer none, .slice none 0 0] 47)) [] :=
  ⟨#[.pointer none, .slice none 0 0], .slice none 0 0, ⟨heap_alloc_new w _, by decide, by decide, by kernel_rfl, .inl rfl⟩, rfl, Own.nil _ _, fun _ => rfl, balloc (brefl w) _⟩
theorem Qb.write {w wr : World} {l : List Nat} (h : Qb w wr l) (x : Nat) (hn : l.length + 1 ≤ 140737488355328) :
    Calls Tryd.prog 23 #[.pointer (some ⟨w.heap.size, 0, none⟩), .int .u8 (x : Int)] wr fun e w' => e = .returned .nilIface ∧ Qb w w' (l ++ [x]) := by
  obtain ⟨c, v, F, hv, own, hz, hb⟩ := h
  refine (WriteByte_c F (Nat.le_refl _) hv own hn x).mono ?_
  rintro e w' ⟨rfl, v', F', own', W⟩
  refine ⟨rfl, _, v', F', ?_, own', fun h => by simp at h, hb.trans W.below⟩
  rw [Array.getElem?_setIfInBounds, if_pos rfl, if_pos (by have := F.room; simp; omega)]
theorem Qb.string {w wr : World} {l : List Nat} (h : Qb w wr l) (h8 : ∀ x ∈ l, x < 256) :
    Calls Tryd.prog 24 #[.pointer (some ⟨w.heap.size, 0, none⟩)] wr fun e w' => e = .returned (.string (bs8 l)) ∧ Below w.heap.size w w' := by
  obtain ⟨c, v, F, hv, own, hz, hb⟩ := h
  refine (String_c F (Nat.le_refl _) hv own h8 hz).mono ?_
  rintro e w' ⟨rfl, F', W⟩
  exact ⟨rfl, hb.trans W.below⟩

/-- a text as a quoted word. -/
def quo (s : ByteArray) : ByteArray := bs8 (34 :: qL s s.size ++ [34])
theorem quo_eq (s : ByteArray) : q1 ++ bs8 (qL s s.size) ++ q1 = quo s := by
  apply ByteArray.ext
  simp [quo, bs8, q1]

set_option maxRecDepth 100000 in
set_option maxHeartbeats 2000000 in
theorem Quote_c (s : ByteArray) (w : World) (hs : s.size ≤ 1099511627776) :
    Calls Tryd.prog 11 #[.string s] w fun e w' => e = .returned (.string (quo s)) ∧ Below w.heap.size w w' := by
  go_enter Tryd.func11, Tryd.ntmps11
  have Q0 := Lib.hid (Qb.new w)
  go_wp2_with fail
  generalize w.alloc (.cells #[.pointer none, .slice none 0 0] 47) = w0 at *
  refine (Q0.out.write 34 (by simp)).mono ?_
  rintro e w1 ⟨rfl, Q1⟩
  have Q1 := Lib.hid Q1
  go_wp2_with fail
  go_loopw [4, 8] (fun _ i wr => ∃ k : Nat, k ≤ s.size ∧ i = .int .i64 k ∧ Qb w wr (34 :: qL s k)) (fun _ i _ => s.size - (intOf i).toNat)
  case atStart => exact ⟨0, Nat.zero_le _, rfl, Q1.out⟩
  case round =>
    obtain ⟨k, hk, rfl, hq⟩ := hrel
    rename World => wr
    have QQ := Lib.hid hq
    have ql := qL_len s k
    clear hq
    by_cases c : k < s.size
    · have f1 : decide ((k : Int) < (s.size : Int)) = true := by rw [decide_eq_true_iff]; omega
      have ga := gn_at s k c
      have QE : Hid (qL s (k + 1) = qL s k ++ qOne (gn s k)) := Lib.hid rfl
      have LN : (34 :: qL s k).length ≤ 2 * k + 1 := by simp; omega
      by_cases h34 : gn s k = 34 ∨ gn s k = 92
      · have HE : Hid (34 :: qL s (k + 1) = ((34 :: qL s k) ++ [92]) ++ [gn s k]) := Lib.hid (by rw [QE.out, qOne, if_pos h34]; simp)
        have t1 : ((gn s k : Int) == 34) = true ∨ (((gn s k : Int) == 34) = false ∧ ((gn s k : Int) == 92) = true) := by
          rcases h34 with h | h
          · left; simp; omega
          · right; constructor <;> simp <;> omega
        clear h34 QE
        generalize gn s k = x at *
        rcases t1 with t1 | ⟨t1, t2⟩
        all_goals
          go_wp2_with fail
          refine (QQ.out.write 92 (by omega)).mono ?_
          rintro e w2 ⟨rfl, Q2⟩
          have Q2 := Lib.hid Q2
          go_wp2_with fail
          refine (Q2.out.write x (by simp; omega)).mono ?_
          rintro e w3 ⟨rfl, Q3⟩
          rw [← HE.out] at Q3
          have Q3 := Lib.hid Q3
          go_wp2_with fail
          go_roundw
          case rel => exact ⟨k + 1, by omega, by go_num, Q3.out⟩
          case measure => simp [intOf]; omega
      · have HE : Hid (34 :: qL s (k + 1) = (34 :: qL s k) ++ [gn s k]) := Lib.hid (by rw [QE.out, qOne, if_neg h34]; simp)
        have t1 : ((gn s k : Int) == 34) = false := by simp; omega
        have t2 : ((gn s k : Int) == 92) = false := by simp; omega
        clear h34 QE
        generalize gn s k = x at *
        go_wp2_with fail
        refine (QQ.out.write x (by omega)).mono ?_
        rintro e w3 ⟨rfl, Q3⟩
        rw [← HE.out] at Q3
        have Q3 := Lib.hid Q3
        go_wp2_with fail
        go_roundw
        case rel => exact ⟨k + 1, by omega, by go_num, Q3.out⟩
        case measure => simp [intOf]; omega
    · have f1 : decide ((k : Int) < (s.size : Int)) = false := by rw [decide_eq_false_iff_not]; omega
      obtain rfl : k = s.size := by omega
      go_wp2_with fail
      refine (QQ.out.write 34 (by simp; omega)).mono ?_
      rintro e w2 ⟨rfl, Q2⟩
      have Q2 := Lib.hid Q2
      go_wp2_with fail
      refine (Q2.out.string (by
        intro x hx
        simp at hx
        rcases hx with rfl | hx | rfl
        · omega
        · exact qL_byte s _ x hx
        · omega)).mono ?_
      rintro e w3 ⟨rfl, hb⟩
      have HB := Lib.hid hb
      clear hb
      have HQ : Hid (bs8 (34 :: qL s s.size ++ [34]) = quo s) := Lib.hid rfl
      rw [HQ.out]
      go_wp2_with fail
      go_ret
      exact ⟨rfl, HB.out⟩

theorem ieq (r : Nat) (n : Int) (m : Nat) (h : n = (m : Int)) : ((r : Int) == n) = decide (r = m) := by
  subst h
  by_cases e : r = m
  · rw [decide_eq_true e, e, beq_self_eq_true]
  · rw [decide_eq_false e, beq_eq_false_iff_ne]
    omega
def blk (r : Nat) : Bool := decide (r = 9 ∨ r = 32 ∨ r = 160 ∨ r = 12288)
set_option maxRecDepth 100000 in
set_option maxHeartbeats 2000000 in
theorem isBlank_c (r : Nat) (w : World) :
    Calls Tryd.prog 31 #[.int .i32 r] w fun e w' => e = .returned (.bool (blk r)) ∧ w' = w := by
  have N9 : ((r : Int) == 9) = decide (r = 9) := ieq r 9 9 rfl
  have N32 : ((r : Int) == 32) = decide (r = 32) := ieq r 32 32 rfl
  have N160 : ((r : Int) == 160) = decide (r = 160) := ieq r 160 160 rfl
  have N12288 : ((r : Int) == 12288) = decide (r = 12288) := ieq r 12288 12288 rfl
  have hB : Hid (blk r = (decide (r = 9) || decide (r = 32) || decide (r = 160) || decide (r = 12288))) := Lib.hid (by simp [blk, Bool.or_assoc])
  generalize blk r = z at *
  generalize decide (r = 9) = a at *
  generalize decide (r = 32) = b at *
  generalize decide (r = 160) = c at *
  generalize decide (r = 12288) = d at *
  go_enter Tryd.func31, Tryd.ntmps31
  cases a <;> cases b <;> cases c <;> cases d
  all_goals
    go_wp2
    go_ret
    exact ⟨by rw [hB.out]; rfl, rfl⟩

set_option maxRecDepth 100000 in
set_option maxHeartbeats 2000000 in
theorem isWrong_c (r : Nat) (t : ByteArray) (w : World) :
    Calls Tryd.prog 16 #[.int .i32 r, .string t] w fun e w' => e = .returned (.bool (decide (r = 65533) && !Lib.hasPrefix t.data.toList [239, 191, 189])) ∧ w' = w := by
  have HP := Tryd.strings_HasPrefix t ⟨#[239, 191, 189]⟩ w
  obtain ⟨z, hz⟩ : ∃ z, Hid (z = Lib.hasPrefix t.data.toList [239, 191, 189]) := ⟨_, Lib.hid rfl⟩
  rw [← hz.out]
  have HP : Calls Tryd.prog 26 #[.string t, .string ⟨#[239, 191, 189]⟩] w fun e w' => e = .returned (.bool z) ∧ w' = w := by rw [hz.out]; exact HP
  by_cases h : r = 65533
  · have t1 : ((r : Int) == 65533) = true := by simp; omega
    rw [decide_eq_true h]
    clear h
    go_enter Tryd.func16, Tryd.ntmps16
    go_wp2_with fail
    refine HP.mono ?_
    rintro e w' ⟨rfl, rfl⟩
    go_wp2_with fail
    go_ret
    exact ⟨by rw [Bool.true_and]; rfl, rfl⟩
  · have t1 : ((r : Int) == 65533) = false := by simp; omega
    rw [decide_eq_false h]
    clear h
    go_enter Tryd.func16, Tryd.ntmps16
    go_wp2_with fail
    go_ret
    exact ⟨rfl, rfl⟩
end Go.Proofs.YthlmjfjkjjoimaaDoor.Wd
