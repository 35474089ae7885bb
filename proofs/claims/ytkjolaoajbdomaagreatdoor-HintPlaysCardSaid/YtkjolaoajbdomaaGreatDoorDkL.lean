/-
  The document's disk: find, change, New, Cut, Restart.
  Conditions: none.
-/
import Derived.Test.YtkjolaoajbdomaaGreatDoorDkK
namespace Go.Proofs.YtkjolaoajbdomaaGreatDoor.Dk
open Go.RowKit Go.ChangeShapes Go.WideShapes Go.ChangeAt Go.Joins Go.Maps By Ct
set_option linter.unusedVariables false
set_option linter.unusedSimpArgs false

theorem Rm.turn {w w' : World} {d : Nat} {s s' : Dk} {X : Nat → Prop} (h : Rm w d s X) (hs : w.heap.size ≤ w'.heap.size) (e : ∀ k, X k → k ≠ d → w'.heap[k]? = w.heap[k]?) (hw : Wf s') (hf : s'.fs = s.fs) {v : Value} (hv : w.cell? ⟨d, 0, none⟩ = some v)
    (hb : Blk w' d [v, .bool s'.out, .int .i64 s'.left, .int .i64 s'.keep]) : Rm w' d s' X := by
  obtain ⟨h0, h1, h2, v', hb', ho, hx⟩ := h
  obtain rfl : v = v' := by
    have y := (hb'.2 0 _ rfl).1
    rw [hv] at y
    simpa using y
  exact ⟨hw, h1, fun g hg => Nat.lt_of_lt_of_le (h2 g hg) hs, v, hb, by rw [hf]; exact row_keep ho (fun g hg => e g (hx g hg).1 (hx g hg).2), hx⟩
/-- the files' row isn't the disk's own block. -/
theorem Rm.apart {w : World} {d : Nat} {s : Dk} {X : Nat → Prop} (h : Rm w d s X) : ∃ v, Blk w d [v, .bool s.out, .int .i64 s.left, .int .i64 s.keep] ∧ OwnG w 0 v s.fs ∧ ∀ g, v.ownBlock = some g → X g ∧ g ≠ d := h.2.2.2
theorem get_at {l : List (List UInt8 × List Nat)} {n : List UInt8} {d : List Nat} : ∀ {j : Nat}, l[j]? = some (n, d) → (∀ i x, i < j → l[i]? = some x → x.1 ≠ n) → get l n = some d := by
  induction l with
  | nil => intro j h; simp at h
  | cons p r ih =>
    intro j h hn
    cases j with
    | zero => simp at h; subst h; rw [get, if_pos rfl]
    | succ j =>
      rw [get, if_neg (hn 0 p (by omega) rfl)]
      exact ih (j := j) (by simpa using h) (fun i x hi hx => hn (i + 1) x (by omega) (by simpa using hx))
theorem get_no {l : List (List UInt8 × List Nat)} {n : List UInt8} (h : ∀ i x, i < l.length → l[i]? = some x → x.1 ≠ n) : get l n = none := by
  refine get_none.2 fun q => ?_
  obtain ⟨p, hp, e⟩ := List.mem_map.1 q
  obtain ⟨i, hi, rfl⟩ := List.mem_iff_getElem.1 hp
  exact h i _ hi (List.getElem?_eq_getElem hi) e
theorem st_toList (x : List UInt8) : (st x).toList = x := by rw [tl]; simp [st]
theorem ownG_form {w : World} {base : Nat} {v : Value} {l : List (List UInt8 × List Nat)} (h : OwnG w base v l) : ∃ a cap, v = .slice a l.length cap := by
  rcases h.2 with ⟨hv, h0⟩ | ⟨g, cap, cur, hv, _⟩
  · exact ⟨none, 0, by rw [hv, h0]⟩
  · exact ⟨_, cap, hv⟩
theorem ownG_at {w : World} {base : Nat} {a : Option Addr} {cap : Nat} {l : List (List UInt8 × List Nat)} (h : OwnG w base (.slice a l.length cap) l) {j : Nat} {x : List UInt8 × List Nat} (hx : l[j]? = some x) : ∃ g, a = some ⟨g, 0, none⟩ ∧ g < w.heap.size ∧ l.length ≤ cap ∧ cap ≤ maxLen ∧ w.cell? ⟨g, j * 2, none⟩ = some (.string (st x.1)) ∧ w.cell? ⟨g, j * 2 + 1, none⟩ = some (.string (bs8 x.2)) := by
  have hj := (List.getElem?_eq_some_iff.1 hx).1
  rcases h.2 with ⟨hv, h0⟩ | ⟨g, cap', cur, hv, hb, hh, hc, hm, _⟩
  · omega
  · cases hv
    obtain ⟨e1, e2⟩ := fcs_at l j x hx
    exact ⟨g, rfl, (Array.getElem?_eq_some_iff.1 hh).1, hc, hm, (World.ownsRow.cellAt h (j * 2) (by omega)).trans e1, (World.ownsRow.cellAt h (j * 2 + 1) (by omega)).trans e2⟩
set_option maxRecDepth 100000 in
set_option maxHeartbeats 8000000 in
theorem rfind_c {w : World} {d : Nat} {s : Dk} {X : Nat → Prop} {nm : ByteArray} (h : Rm w d s X) (hl : s.fs.length ≤ 100000) :
    Calls Tryz.prog 39 #[.pointer (some ⟨d, 0, none⟩), .string nm] w fun e w' => (∃ i : Int, e = .returned (.int .i64 i) ∧ ((get s.fs nm.data.toList = none ∧ i = -1) ∨ ∃ j dat, i = ((j : Nat) : Int) ∧ s.fs[j]? = some (nm.data.toList, dat) ∧ get s.fs nm.data.toList = some dat)) ∧ w' = w := by
  obtain ⟨v, hb, ho, _⟩ := h.apart
  obtain ⟨a, cap, rfl⟩ := ownG_form ho
  have c0 := (hb.2 0 _ rfl).1
  obtain ⟨m, hm⟩ : ∃ m, s.fs.length = m := ⟨_, rfl⟩
  have HM := Lib.hid hm
  have HO := Lib.hid ho
  rw [hm] at c0 hl
  have m1 : (m : Int) ≤ 100000 := by omega
  have m0 : (0 : Int) ≤ (m : Int) := by omega
  clear hb ho hm hl h
  go_enter Tryz.func39, Tryz.ntmps39
  go_upto_region 2 with fail
  go_loopw [5] (fun iv wr => ∃ k : Nat, k ≤ m ∧ iv = .int .i64 (k : Nat) ∧ (∀ i x, i < k → s.fs[i]? = some x → x.1 ≠ nm.data.toList) ∧ wr = w) (fun iv _ => m - (intOf iv).toNat)
  case atStart => exact ⟨0, Nat.zero_le _, rfl, fun i x h => absurd h (Nat.not_lt_zero _), rfl⟩
  case round =>
    obtain ⟨k, hk, rfl, hno, rfl⟩ := hrel
    have NO := Lib.hid hno
    clear hno
    by_cases c : k < m
    · have e1 : decide ((k : Int) < (m : Int)) = true := decide_eq_true (by omega)
      have k1 : (k : Int) < (m : Int) := by omega
      have k0 : (0 : Int) ≤ (k : Int) := by omega
      obtain ⟨x, hx⟩ : ∃ x, s.fs[k]? = some x := ⟨_, List.getElem?_eq_getElem (by rw [HM.out]; exact c)⟩
      have HX := Lib.hid hx
      obtain ⟨g, rfl, _, hc, hcm, cx, _⟩ := ownG_at HO.out hx
      rw [HM.out] at hc
      have m2 : (m : Int) ≤ (cap : Int) := by omega
      have m3 : (cap : Int) ≤ 9223372036854775807 := by unfold maxLen at hcm; omega
      clear hx hc hcm
      by_cases e : x.1 = nm.data.toList
      · have e2 : ((st x.1).toList == nm.toList) = true := by rw [st_toList, tl, e]; simp
        have R : Hid (s.fs[k]? = some (nm.data.toList, x.2) ∧ get s.fs nm.data.toList = some x.2) := Lib.hid (by
          have q : s.fs[k]? = some (nm.data.toList, x.2) := by rw [HX.out, ← e]
          exact ⟨q, get_at q (fun i y hi hy => NO.out i y hi hy)⟩)
        clear e
        go_wp2_with fail
        go_ret
        exact ⟨⟨_, rfl, .inr ⟨k, x.2, rfl, R.out.1, R.out.2⟩⟩, rfl⟩
      · have e2 : ((st x.1).toList == nm.toList) = false := by rw [st_toList, tl]; simpa using e
        have HN : Hid (∀ i y, i < k + 1 → s.fs[i]? = some y → y.1 ≠ nm.data.toList) := Lib.hid (fun i y hi hy => by
          by_cases q : i = k
          · subst q
            rw [HX.out] at hy
            cases hy
            exact e
          · exact NO.out i y (by omega) hy)
        clear e
        go_wp2_with fail
        exact ⟨⟨k + 1, by omega, by go_num, HN.out, trivial⟩, by simp [intOf]; omega⟩
    · have e1 : decide ((k : Int) < (m : Int)) = false := decide_eq_false (by omega)
      have R : Hid (get s.fs nm.data.toList = none) := Lib.hid (get_no (fun i x hi hx => NO.out i x (by have := HM.out; omega) hx))
      go_wp2_with fail
      go_ret
      exact ⟨⟨_, rfl, .inl ⟨R.out, rfl⟩⟩, rfl⟩
set_option maxRecDepth 100000 in
set_option maxHeartbeats 8000000 in
theorem rchange_c {w : World} {d : Nat} {s : Dk} {X : Nat → Prop} (h : Rm w d s X) (ho : s.out = false) :
    Calls Tryz.prog 37 #[.pointer (some ⟨d, 0, none⟩)] w fun e w' => e = .returned (.bool (chg s).out) ∧ Rm w' d (chg s) X ∧ Tu (Td d) w w' := by
  have H := Lib.hid h
  obtain ⟨v, hb, hg, _⟩ := h.apart
  have HO := Lib.hid ho
  have W := Lib.hid h.1
  have HB := Lib.hid hb
  obtain ⟨c0, f0⟩ := hb.2 0 _ rfl
  obtain ⟨c1, f1⟩ := hb.2 1 _ rfl
  obtain ⟨c2, f2⟩ := hb.2 2 _ rfl
  have C0 := Lib.hid c0
  have l1 := h.1.lo
  have l2 := h.1.hi
  rw [ho] at c1
  clear hb ho hg h c0 f0
  by_cases q : s.left < 0
  · have e : Hid (chg s = s) := Lib.hid (by unfold chg; rw [if_pos q])
    have E1 : Hid ((chg s).out = false) := Lib.hid (by rw [e.out]; exact HO.out)
    have g1 : decide (s.left < 0) = true := decide_eq_true q
    go_enter Tryz.func37, Tryz.ntmps37
    go_wp2_with fail
    go_ret
    exact ⟨by rw [E1.out]; rfl, by rw [e.out]; exact H.out, Tu.rf _ _⟩
  · have g1 : decide (s.left < 0) = false := decide_eq_false q
    have WF := Lib.hid (wf_chg W.out HO.out)
    by_cases q2 : s.left - 1 < 0
    · have g2 : decide (s.left - 1 < 0) = true := decide_eq_true q2
      have q3 : s.left = 0 := by omega
      have e : Hid (chg s = { s with left := -1, out := true }) := Lib.hid (by unfold chg; rw [if_neg q, g2, q3]; rfl)
      go_enter Tryz.func37, Tryz.ntmps37
      go_wp2_with fail
      go_ret
      have B := HB.out
      exact ⟨by rw [e.out]; rfl, H.out.turn (by simp) (fun k _ hk => (set_other hk).trans (set_other hk)) WF.out (chg_fs s) C0.out (by rw [e.out]; exact blk_set (blk_set B 2 (.int .i64 (-1))) 1 (.bool true)), ((Tu.rf _ _).set _ _).set _ _⟩
    · have g2 : decide (s.left - 1 < 0) = false := decide_eq_false q2
      have e : Hid (chg s = { s with left := s.left - 1, out := false }) := Lib.hid (by unfold chg; rw [if_neg q, g2])
      go_enter Tryz.func37, Tryz.ntmps37
      go_wp2_with fail
      go_ret
      have B := HB.out
      exact ⟨by rw [e.out]; rfl, H.out.turn (by simp) (fun k _ hk => set_other hk) WF.out (chg_fs s) C0.out (by rw [e.out]; have := blk_set B 2 (.int .i64 (s.left - 1)); rw [HO.out] at this; exact this), (Tu.rf _ _).set _ _⟩
set_option maxRecDepth 100000 in
theorem rNew_c (w : World) : Calls Tryz.prog 6 #[] w fun e w' => e = .returned (.pointer (some ⟨w.heap.size, 0, none⟩)) ∧ Rm w' w.heap.size new (Td w.heap.size) ∧ Below w.heap.size w w' := by
  have N := Lib.hid (Blk.new' w #[.slice none 0 0, .bool false, .int .i64 (-1), .int .i64 0] 62)
  have B := Lib.hid (balloc (brefl w) (.cells #[.slice none 0 0, .bool false, .int .i64 (-1), .int .i64 0] 62))
  go_enter Tryz.func6, Tryz.ntmps6
  go_wp2_with fail
  go_ret
  exact ⟨rfl, ⟨wf_new, rfl, fun g hg => by rw [show g = _ from hg]; exact N.out.1, .slice none 0 0, N.out, World.ownsRow_nil _ _ _ 2, fun g hg => by cases hg⟩, B.out⟩
set_option maxRecDepth 100000 in
theorem rCut_c {w : World} {d : Nat} {s : Dk} {X : Nat → Prop} (h : Rm w d s X) (n k : Int) (h1 : n ≤ 9223372036854775807) (h2 : -9223372036854775808 ≤ k) (h3 : k ≤ 9223372036854775807) :
    Calls Tryz.prog 13 #[.pointer (some ⟨d, 0, none⟩), .int .i64 n, .int .i64 k] w fun e w' => e = .returned (.int .i64 (cutE n)) ∧ Rm w' d (cutS s n k) X ∧ Tu (Td d) w w' := by
  have H := Lib.hid h
  have WF := Lib.hid (wf_cut h.1 (n := n) h1 h2 h3)
  obtain ⟨v, hb, _, _⟩ := h.apart
  have HB := Lib.hid hb
  have C0 := Lib.hid (hb.2 0 _ rfl).1
  obtain ⟨c1, _⟩ := hb.2 1 _ rfl
  obtain ⟨c2, f2⟩ := hb.2 2 _ rfl
  obtain ⟨c3, f3⟩ := hb.2 3 _ rfl
  clear hb h
  by_cases c : n < 0
  · have e1 : decide (n < 0) = true := decide_eq_true c
    have E : Hid (cutE n = 2 ∧ cutS s n k = s) := Lib.hid ⟨if_pos c, if_pos c⟩
    go_enter Tryz.func13, Tryz.ntmps13
    go_wp2_with fail
    go_ret
    exact ⟨by rw [E.out.1]; rfl, by rw [E.out.2]; exact H.out, Tu.rf _ _⟩
  · have e1 : decide (n < 0) = false := decide_eq_false c
    cases ho : s.out with
    | true =>
      have E : Hid (cutE n = 0 ∧ cutS s n k = s) := Lib.hid ⟨if_neg c, by unfold cutS; rw [if_neg c, if_pos ho]⟩
      rw [ho] at c1
      clear ho c
      go_enter Tryz.func13, Tryz.ntmps13
      go_wp2_with fail
      go_ret
      exact ⟨by rw [E.out.1]; rfl, by rw [E.out.2]; exact H.out, Tu.rf _ _⟩
    | false =>
      have E : Hid (cutE n = 0 ∧ cutS s n k = { s with left := n, keep := k }) := Lib.hid ⟨if_neg c, by unfold cutS; rw [if_neg c, if_neg (by rw [ho]; decide)]⟩
      rw [ho] at c1
      clear ho c
      go_enter Tryz.func13, Tryz.ntmps13
      go_wp2_with fail
      go_ret
      have B := HB.out
      exact ⟨by rw [E.out.1]; rfl, H.out.turn (by simp) (fun k _ hk => (set_other hk).trans (set_other hk)) WF.out (by rw [E.out.2]) C0.out (by rw [E.out.2]; exact blk_set (blk_set B 2 (.int .i64 n)) 3 (.int .i64 k)), ((Tu.rf _ _).set _ _).set _ _⟩
set_option maxRecDepth 100000 in
theorem rRestart_c {w : World} {d : Nat} {s : Dk} {X : Nat → Prop} (h : Rm w d s X) :
    Calls Tryz.prog 15 #[.pointer (some ⟨d, 0, none⟩)] w fun e w' => e = .returned (.int .i64 0) ∧ Rm w' d (restart s) X ∧ Tu (Td d) w w' := by
  have H := Lib.hid h
  have WF := Lib.hid (wf_restart h.1)
  obtain ⟨v, hb, _, _⟩ := h.apart
  have HB := Lib.hid hb
  have C0 := Lib.hid (hb.2 0 _ rfl).1
  obtain ⟨c1, f1⟩ := hb.2 1 _ rfl
  obtain ⟨c2, f2⟩ := hb.2 2 _ rfl
  clear hb h
  go_enter Tryz.func15, Tryz.ntmps15
  go_wp2_with fail
  go_ret
  have B := HB.out
  exact ⟨rfl, H.out.turn (by simp) (fun k _ hk => (set_other hk).trans (set_other hk)) WF.out rfl C0.out (blk_set (blk_set B 1 (.bool false)) 2 (.int .i64 (-1))), ((Tu.rf _ _).set _ _).set _ _⟩
end Go.Proofs.YtkjolaoajbdomaaGreatDoor.Dk
