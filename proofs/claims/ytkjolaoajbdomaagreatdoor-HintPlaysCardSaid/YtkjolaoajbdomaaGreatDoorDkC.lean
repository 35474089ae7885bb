/-
  A file's name: the contracts of disk.isName and of the document's Name.
  Conditions: none.
-/
import Derived.Test.YtkjolaoajbdomaaGreatDoorDkB
import Derived.Lib.OthersKept
import Derived.Laws.RangeAny
import Derived.Deep.Heap
import Derived.BigQuiet
namespace Go.Proofs.YtkjolaoajbdomaaGreatDoor.Dk
open Go.RowKit Go.ChangeShapes Go.WideShapes Go.ChangeAt Go.Joins Go.Maps By Ct
set_option linter.unusedVariables false
set_option linter.unusedSimpArgs false

theorem tl (s : ByteArray) : s.toList = s.data.toList := ByteArray.toList_eq s
theorem tl_len (s : ByteArray) : s.data.toList.length = s.size := by rw [Array.length_toList]; rfl
/-- the byte at i. -/
def gb (s : ByteArray) (i : Nat) : Nat := (s.data.toList.getD i 0).toNat
theorem gb_at (s : ByteArray) (p : Nat) (h : p < s.size) : (s[p]'h).toNat = gb s p := by
  unfold gb
  have h' : p < s.data.toList.length := by rw [Array.length_toList]; exact h
  rw [List.getD_eq_getElem?_getD, List.getElem?_eq_getElem h', Option.getD_some, Array.getElem_toList]
  rfl
/-- may a byte stand in a name? -/
def okb (n : Nat) : Bool := (decide (97 ≤ n) && decide (n ≤ 122)) || (decide (48 ≤ n) && decide (n ≤ 57)) || decide (n = 46)
theorem okN_of {s : ByteArray} (h0 : 0 < s.size) (h32 : s.size ≤ 32) (h : ∀ i, i < s.size → okb (gb s i) = true) : okN s.data.toList = true := by
  unfold okN
  rw [tl_len, decide_eq_true h0, decide_eq_true h32]
  simp only [Bool.and_self, Bool.true_and]
  refine List.all_eq_true.2 fun x hx => ?_
  obtain ⟨i, hi, rfl⟩ := List.mem_iff_getElem.1 hx
  have := h i (by rw [tl_len] at hi; exact hi)
  unfold gb at this
  rw [List.getD_eq_getElem?_getD, List.getElem?_eq_getElem hi, Option.getD_some] at this
  exact this
theorem okN_not {s : ByteArray} {i : Nat} (hi : i < s.size) (h : okb (gb s i) = false) : okN s.data.toList = false := by
  cases q : okN s.data.toList with
  | false => rfl
  | true =>
    unfold okN at q
    simp only [Bool.and_eq_true] at q
    have hi' : i < s.data.toList.length := by rw [tl_len]; exact hi
    have := List.all_eq_true.1 q.2 _ (List.getElem_mem hi')
    unfold gb at h
    rw [List.getD_eq_getElem?_getD, List.getElem?_eq_getElem hi', Option.getD_some] at h
    rw [show okc _ = okb _ from rfl, h] at this
    cases this
theorem okN_size {s : ByteArray} (h : s.size = 0 ∨ 32 < s.size) : okN s.data.toList = false := by
  unfold okN
  rw [tl_len]
  rcases h with h | h
  · rw [decide_eq_false (by omega)]; rfl
  · rw [decide_eq_false (p := s.size ≤ 32) (by omega)]; simp
theorem dec_cases (s : ByteArray) (p : Nat) (h : p < s.size) : ((Utf8.decode s p).1 = gb s p ∧ (Utf8.decode s p).2 = 1) ∨ (128 ≤ (Utf8.decode s p).1 ∧ 128 ≤ gb s p) := by
  by_cases c : (s[p]'h).toNat < 128
  · refine Or.inl ?_
    rw [decode_ascii s p h c, ← gb_at s p h]
    exact ⟨rfl, rfl⟩
  · have a := decode_high s p h (by omega)
    have b := gb_at s p h
    exact Or.inr ⟨a.1, by omega⟩
theorem iterPos_of {w : World} {k : Nat} {s : ByteArray} {p : Nat} (h : w.heap[k]? = some (.stringIter s p)) : w.iterPos k = p := by simp [World.iterPos, h]
/-- what the walk over a name keeps. -/
def NI (s : ByteArray) (w : World) (p : Nat) (wr : World) : Prop := (∀ i, i < p → okb (gb s i) = true) ∧ wr.heap[w.heap.size]? = some (.stringIter s p) ∧ Below w.heap.size w wr
theorem NI.start (s : ByteArray) (w : World) : NI s w 0 (w.iter s 0) :=
  ⟨fun i hi => absurd hi (Nat.not_lt_zero _), by have := World.iter_heap w s 0; simpa using this, balloc (brefl w) (.stringIter s 0)⟩
theorem NI.step {s : ByteArray} {w wr w2 : World} {p n : Nat} (h : NI s w p wr) (e : wr.iterAt w.heap.size s (p + n) = w2) : w2.heap[w.heap.size]? = some (.stringIter s (p + n)) ∧ Below w.heap.size w w2 := by
  obtain ⟨_, hk, hb⟩ := h
  subst e
  exact ⟨Lib.iterAt_heap _ _ _ _ _ hk, Lib.below_iterAt hb (by omega) _ _⟩
set_option maxRecDepth 100000 in
set_option maxHeartbeats 8000000 in
theorem isName_c (s : ByteArray) (w : World) : Calls Tryz.prog 50 #[.string s] w fun e w' => e = .returned (.bool (okN s.data.toList)) ∧ Below w.heap.size w w' := by
  obtain ⟨R, hR⟩ : ∃ R, okN s.data.toList = R := ⟨_, rfl⟩
  have HR := Lib.hid hR
  rw [hR]
  clear hR
  by_cases c0 : s.size = 0
  · obtain rfl : s = ByteArray.empty := by
      have : s.data.size = 0 := c0
      cases s with | mk d => simp at this; subst this; rfl
    obtain rfl : R = false := by rw [← HR.out]; exact okN_size (.inl rfl)
    clear HR c0
    go_enter Tryz.func50, Tryz.ntmps50
    go_wp2_with fail
    go_ret
    exact ⟨rfl, brefl w⟩
  have e0 : (s.toList == []) = false := by
    rw [tl]
    cases q : s.data.toList with
    | nil => have := tl_len s; rw [q] at this; simp at this; omega
    | cons a b => rfl
  by_cases c1 : 32 < s.size
  · have e1 : decide (32 < s.size) = true := decide_eq_true c1
    obtain rfl : R = false := by rw [← HR.out]; exact okN_size (.inr c1)
    clear HR
    go_enter Tryz.func50, Tryz.ntmps50
    go_wp2_with fail
    go_ret
    exact ⟨rfl, brefl w⟩
  have e1 : decide (32 < s.size) = false := decide_eq_false c1
  have HS : Hid (0 < s.size ∧ s.size ≤ 32) := Lib.hid ⟨by omega, by omega⟩
  go_enter Tryz.func50, Tryz.ntmps50
  go_wp2_with fail
  clear e0 e1 c0 c1
  go_loopw [4] (fun _ wr => ∃ p : Nat, p ≤ s.size ∧ NI s w p wr) (fun _ wr => s.size - wr.iterPos w.heap.size)
  case atStart => exact ⟨0, Nat.zero_le _, NI.start s w⟩
  case round =>
    obtain ⟨p, hp, pi⟩ := hrel
    rename World => wr
    have IP := Lib.hid (iterPos_of pi.2.1)
    by_cases c : p < s.size
    · have hnx := fun ty => Lib.run_next_any_at (P := Tryz.prog) wr w.heap.size s p ty pi.2.1 c
      have DC := dec_cases s p c
      have DL := decode_le s p
      generalize (Utf8.decode s p).1 = r at *
      generalize (Utf8.decode s p).2 = n at *
      obtain ⟨w2, ew⟩ : ∃ w2, wr.iterAt w.heap.size s (p + n) = w2 := ⟨_, rfl⟩
      rw [ew] at hnx
      obtain ⟨hk, hb⟩ := pi.step ew
      have HK := Lib.hid hk
      have HB := Lib.hid hb
      have HG := Lib.hid pi.1
      have HC := Lib.hid DC
      clear pi hk hb DC ew
      by_cases d1 : (r : Int) < 97
      · have t1 : decide ((r : Int) < 97) = true := decide_eq_true d1
        by_cases d3 : (r : Int) < 48
        · have t3 : decide ((r : Int) < 48) = true := decide_eq_true d3
          by_cases d5 : (r : Int) = 46
          · have t5 : ((r : Int) != 46) = false := by simp [d5]
            have E : Hid (okb (gb s p) = true ∧ n = 1) := Lib.hid (by rcases HC.out with q | q <;> first | exact ⟨by unfold okb; rw [← q.1]; simp; omega, q.2⟩ | omega)
            obtain rfl : n = 1 := E.out.2
            have HN : Hid (∀ i, i < p + 1 → okb (gb s i) = true) := Lib.hid fun i hi => (by
              by_cases q : i = p
              · rw [q]; exact E.out.1
              · exact HG.out i (by omega))
            go_wp2_with fail
            go_roundw
            case rel => exact ⟨p + 1, by omega, HN.out, HK.out, HB.out⟩
            case measure => rw [IP.out, iterPos_of HK.out]; omega
          · have t5 : ((r : Int) != 46) = true := by simp [d5]
            have E : Hid (okb (gb s p) = false) := Lib.hid (by unfold okb; rcases HC.out with q | q <;> simp <;> omega)
            obtain rfl : R = false := by rw [← HR.out]; exact okN_not c E.out
            go_wp2_with fail
            go_ret
            exact ⟨rfl, HB.out⟩
        · have t3 : decide ((r : Int) < 48) = false := decide_eq_false d3
          by_cases d4 : 57 < (r : Int)
          · have t4 : decide (57 < (r : Int)) = true := decide_eq_true d4
            have t5 : ((r : Int) != 46) = true := by simp; omega
            have E : Hid (okb (gb s p) = false) := Lib.hid (by unfold okb; rcases HC.out with q | q <;> simp <;> omega)
            obtain rfl : R = false := by rw [← HR.out]; exact okN_not c E.out
            go_wp2_with fail
            go_ret
            exact ⟨rfl, HB.out⟩
          · have t4 : decide (57 < (r : Int)) = false := decide_eq_false d4
            have E : Hid (okb (gb s p) = true ∧ n = 1) := Lib.hid (by rcases HC.out with q | q <;> first | exact ⟨by unfold okb; rw [← q.1]; simp; omega, q.2⟩ | omega)
            obtain rfl : n = 1 := E.out.2
            have HN : Hid (∀ i, i < p + 1 → okb (gb s i) = true) := Lib.hid fun i hi => (by
              by_cases q : i = p
              · rw [q]; exact E.out.1
              · exact HG.out i (by omega))
            go_wp2_with fail
            go_roundw
            case rel => exact ⟨p + 1, by omega, HN.out, HK.out, HB.out⟩
            case measure => rw [IP.out, iterPos_of HK.out]; omega
      · have t1 : decide ((r : Int) < 97) = false := decide_eq_false d1
        by_cases d2 : 122 < (r : Int)
        · have t2 : decide (122 < (r : Int)) = true := decide_eq_true d2
          have t3 : decide ((r : Int) < 48) = false := decide_eq_false (by omega)
          have t4 : decide (57 < (r : Int)) = true := decide_eq_true (by omega)
          have t5 : ((r : Int) != 46) = true := by simp; omega
          have E : Hid (okb (gb s p) = false) := Lib.hid (by unfold okb; rcases HC.out with q | q <;> simp <;> omega)
          obtain rfl : R = false := by rw [← HR.out]; exact okN_not c E.out
          go_wp2_with fail
          go_ret
          exact ⟨rfl, HB.out⟩
        · have t2 : decide (122 < (r : Int)) = false := decide_eq_false d2
          have E : Hid (okb (gb s p) = true ∧ n = 1) := Lib.hid (by rcases HC.out with q | q <;> first | exact ⟨by unfold okb; rw [← q.1]; simp; omega, q.2⟩ | omega)
          obtain rfl : n = 1 := E.out.2
          have HN : Hid (∀ i, i < p + 1 → okb (gb s i) = true) := Lib.hid fun i hi => (by
            by_cases q : i = p
            · rw [q]; exact E.out.1
            · exact HG.out i (by omega))
          go_wp2_with fail
          go_roundw
          case rel => exact ⟨p + 1, by omega, HN.out, HK.out, HB.out⟩
          case measure => rw [IP.out, iterPos_of HK.out]; omega
    · have hnx := fun ty => Lib.run_next_end_at (P := Tryz.prog) wr w.heap.size s p ty pi.2.1 c
      have HB := Lib.hid pi.2.2
      obtain rfl : R = true := by rw [← HR.out]; exact okN_of HS.out.1 HS.out.2 (fun i hi => pi.1 i (by omega))
      clear pi
      go_wp2_with fail
      go_ret
      exact ⟨rfl, HB.out⟩
end Go.Proofs.YtkjolaoajbdomaaGreatDoor.Dk
