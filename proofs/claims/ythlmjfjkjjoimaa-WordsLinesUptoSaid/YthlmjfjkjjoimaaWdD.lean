/-
  Rows of strings that a call owns; the lines of a text: the contract of sundialref07.Lines.
  Conditions: no more than 2^40 bytes.
-/
import Derived.Test.YthlmjfjkjjoimaaWdC
import Derived.Laws.Strings2
namespace Go.Proofs.Ythlmjfjkjjoimaa.Wd
open Go.ChangeShapes Go.WideShapes Go.ChangeAt Go.RowKit Go.Joins By
set_option linter.unusedVariables false
set_option linter.unusedSimpArgs false

theorem info_str : (Try.prog.info? 9).map (fun i => (i.zero, i.size, i.bytes)) = some (some (.string ⟨#[]⟩), 1, 16) := by kernel_rfl
theorem info_parts3 {i? : Option TypeInfo} {z : Value} {s b : Nat} (h : i?.map (fun i => (i.zero, i.size, i.bytes)) = some (some z, s, b)) : ∃ i, i? = some i ∧ i.zero = some z ∧ i.size = s ∧ i.bytes = b := by
  cases i? with
  | none => cases h
  | some i => simp at h; exact ⟨i, rfl, h.1, h.2.1, h.2.2⟩
def cs (l : List ByteArray) : List Value := l.map Value.string
theorem cs_len (l : List ByteArray) : (cs l).length = l.length := by simp [cs]
theorem cs_app (l k : List ByteArray) : cs (l ++ k) = cs l ++ cs k := by simp [cs]
theorem cs_one (l : List ByteArray) : ∀ u ∈ cs l, u.oneCell' = true := by
  intro u hu
  simp only [cs, List.mem_map] at hu
  obtain ⟨x, _, rfl⟩ := hu
  rfl
/-- v is a slice of the call's own that holds just these strings. -/
def OwnS (w : World) (base : Nat) (v : Value) (l : List ByteArray) : Prop := w.ownsRow base 9 1 v l.length (cs l)
theorem OwnS.nil (w : World) (base : Nat) : OwnS w base (.slice none 0 0) [] := World.ownsRow_nil w base _ 1
theorem OwnS.block {w : World} {base : Nat} {v : Value} {l : List ByteArray} (h : OwnS w base v l) : ∀ k, v.ownBlock = some k → base ≤ k := by
  intro k hk
  rcases h.2 with ⟨rfl, _⟩ | ⟨g, cap, cur, rfl, hb, _⟩
  · simp [Value.ownBlock] at hk
  · simp [Value.ownBlock] at hk
    omega
theorem appS {w : World} {base : Nat} {v : Value} {l : List ByteArray} (h : OwnS w base v l) (x : ByteArray) (hb : base ≤ w.heap.size) (hn : (l.length + 1) * 16 ≤ 140737488355328) (ty : TypeId) :
    ∃ v' w', (Builtin.append_ #[23, 23] ty #[v, .slice (some ⟨w.heap.size, 0, none⟩) 1 1]).run Try.prog (w.alloc (.cells #[.string x] 9)) = .ok v' w' ∧ OwnS w' base v' (l ++ [x]) ∧ Below base w w' ∧ w.heap.size ≤ w'.heap.size := by
  obtain ⟨i, hi, hz, hs, hby⟩ := info_parts3 info_str
  obtain ⟨v', w', hr, ho, hg, _, _⟩ := run_append_own_at (P := Try.prog) (w.alloc (.cells #[.string x] 9)) base 23 ty 9 i (.string ⟨#[]⟩) 1 16 Try.underlying23 hi hz hs hby rfl (by decide) v l.length (cs l) (World.ownsRow.alloc h _) ⟨w.heap.size, 0, none⟩ 1 1 (cs [x]) rfl
    (by intro j u hj; cases j with | zero => (simp [cs] at hj; subst hj; simp [Addr.add, go_sem]) | succ j => simp [cs] at hj) (cs_one _) (by unfold maxLen; omega) (by omega) (by simp; omega)
  have hB : Below base w (w.alloc (.cells #[.string x] 9)) := (Below.refl base w).alloc hb _
  have hB2 := hB.grown hg (by simp; omega) h.block
  refine ⟨v', w', hr, ?_, hB2, hB2.size⟩
  unfold OwnS
  rw [cs_app, List.length_append]
  exact ho

/-- a line from a to b, a byte 13 at its end left out. -/
def lnE (s : ByteArray) (a b : Nat) : Nat := if a < b ∧ gn s (b - 1) = 13 then b - 1 else b
def ln (s : ByteArray) (a b : Nat) : ByteArray := s.extract a (lnE s a b)
/-- behind k bytes: the lines, and where the next one begins. -/
def lS (s : ByteArray) : Nat → List ByteArray × Nat
  | 0 => ([], 0)
  | k + 1 => if gn s k = 10 then ((lS s k).1 ++ [ln s (lS s k).2 k], k + 1) else lS s k
theorem lS_le (s : ByteArray) : ∀ k, (lS s k).2 ≤ k ∧ (lS s k).1.length ≤ k
  | 0 => by simp [lS]
  | k + 1 => by
    have := lS_le s k
    rw [lS]
    split
    · simp; omega
    · omega
/-- the lines of a text. -/
def lines (s : ByteArray) : List ByteArray := if (lS s s.size).2 < s.size then (lS s s.size).1 ++ [ln s (lS s s.size).2 s.size] else (lS s s.size).1

set_option maxRecDepth 100000 in
set_option maxHeartbeats 4000000 in
theorem rLines_c (s : ByteArray) (w : World) (hs : s.size ≤ 1099511627776) :
    Calls Try.prog 8 #[.string s] w fun e w' => ∃ v, e = .returned v ∧ OwnS w' w.heap.size v (lines s) ∧ Below w.heap.size w w' := by
  go_enter Try.func8, Try.ntmps8
  go_wp2_with fail
  go_loopw [3, 4, 5, 6] (fun v a i _ wr => ∃ k : Nat, k ≤ s.size + 1 ∧ i = .int .i64 k ∧ (k ≤ s.size → a = .int .i64 ((lS s k).2 : Nat) ∧ OwnS wr w.heap.size v (lS s k).1) ∧ (k = s.size + 1 → OwnS wr w.heap.size v (lines s)) ∧ Below w.heap.size w wr) (fun _ _ i _ _ => s.size + 1 - (intOf i).toNat)
  case atStart => exact ⟨0, by omega, rfl, fun _ => ⟨rfl, OwnS.nil _ _⟩, fun h => by omega, brefl w⟩
  case round =>
    obtain ⟨k, hk, rfl, hown, hend, hb⟩ := hrel
    rename World => wr
    have BB := Lib.hid hb
    have HE := Lib.hid hend
    by_cases c : k ≤ s.size
    · have f1 : decide ((k : Int) ≤ (s.size : Int)) = true := by rw [decide_eq_true_iff]; omega
      obtain ⟨rfl, own⟩ := hown c
      have OO := Lib.hid own
      have LE := lS_le s k
      obtain ⟨a, ha⟩ : ∃ a, (lS s k).2 = a := ⟨_, rfl⟩
      obtain ⟨L, hL⟩ : ∃ L, (lS s k).1 = L := ⟨_, rfl⟩
      rw [ha] at LE ⊢
      rw [hL] at own LE OO
      clear hown hend HE
      by_cases c2 : k < s.size
      · have f2 : decide ((k : Int) < (s.size : Int)) = true := by rw [decide_eq_true_iff]; omega
        have ga := gn_at s k c2
        by_cases h10 : gn s k = 10
        · have HN : Hid ((lS s (k + 1)).1 = L ++ [ln s a k]) := Lib.hid (by rw [lS, if_pos h10, ha, hL])
          have AV : Hid ((lS s (k + 1)).2 = k + 1) := Lib.hid (by rw [lS, if_pos h10])
          rw [h10] at ga
          clear ha hL h10
          by_cases ak : a < k
          · obtain ⟨q, rfl⟩ : ∃ q, k = q + 1 := ⟨k - 1, by omega⟩
            have gq := gn_at s q (by omega)
            have e8 : decide ((a : Int) < ((q + 1 : Nat) : Int)) = true := by rw [decide_eq_true_iff]; omega
            have aq : (a : Int) ≤ (q : Int) := by omega
            have qs : (q : Int) < (s.size : Int) := by omega
            have as' : (a : Int) < (q : Int) + 1 := by omega
            have a00 : (0 : Int) ≤ (a : Int) := by omega
            have as2 : (a : Int) ≤ (q : Int) + 1 := by omega
            have qs2 : (q : Int) ≤ (s.size : Int) := by omega
            have qs3 : (q : Int) + 1 ≤ (s.size : Int) := by omega
            by_cases h13 : gn s q = 13
            · have HL : Hid (ln s a (q + 1) = s.extract a q) := Lib.hid (by rw [ln, lnE, if_pos ⟨by omega, h13⟩]; rfl)
              rw [h13] at gq
              obtain ⟨va, wa, ra, oa, ba, sa⟩ := appS own (s.extract a q) hb.size (by omega) 23
              have OA := Lib.hid oa
              rw [← HL.out, ← HN.out] at OA
              have BA := Lib.hid (hb.trans ba)
              have RA := Lib.hid ra
              clear own hb oa ba ra sa BB OO
              go_wp2_with (at_builtin; refine wpList_append_eq rfl (.tmp 45) (.tmp 50) 23 rfl _ _ va wa rfl rfl RA.out ?_)
              go_roundw
              case rel => exact ⟨(q + 1) + 1, by omega, by go_num, fun _ => ⟨by rw [AV.out]; go_num, OA.out⟩, fun h => absurd h (by omega), BA.out⟩
              case measure => simp [intOf]; omega
            · have HL : Hid (ln s a (q + 1) = s.extract a (q + 1)) := Lib.hid (by rw [ln, lnE, if_neg (fun h => h13 h.2)])
              have g13 : ((gn s q : Int) == 13) = false := by simp; omega
              generalize gn s q = x13 at *
              obtain ⟨va, wa, ra, oa, ba, sa⟩ := appS own (s.extract a (q + 1)) hb.size (by omega) 23
              have OA := Lib.hid oa
              rw [← HL.out, ← HN.out] at OA
              have BA := Lib.hid (hb.trans ba)
              have RA := Lib.hid ra
              clear own hb oa ba ra sa BB OO
              go_wp2_with (at_builtin; refine wpList_append_eq rfl (.tmp 45) (.tmp 50) 23 rfl _ _ va wa rfl rfl RA.out ?_)
              go_roundw
              case rel => exact ⟨(q + 1) + 1, by omega, by go_num, fun _ => ⟨by rw [AV.out]; go_num, OA.out⟩, fun h => absurd h (by omega), BA.out⟩
              case measure => simp [intOf]; omega
          · have HL : Hid (ln s a k = ByteArray.empty) := Lib.hid (by
              have e : a = k := by omega
              rw [ln, lnE, if_neg (fun h => ak h.1), e]
              simp)
            have e8 : decide ((a : Int) < (k : Int)) = false := by rw [decide_eq_false_iff_not]; omega
            have eak : a = k := by omega
            have a00 : (0 : Int) ≤ (k : Int) := by omega
            have a01 : (k : Int) ≤ (s.size : Int) := by omega
            subst eak
            obtain ⟨va, wa, ra, oa, ba, sa⟩ := appS own ByteArray.empty hb.size (by omega) 23
            have OA := Lib.hid oa
            rw [← HL.out, ← HN.out] at OA
            have BA := Lib.hid (hb.trans ba)
            have RA := Lib.hid ra
            clear own hb oa ba ra sa BB OO
            go_wp2_with (at_builtin; refine wpList_append_eq rfl (.tmp 45) (.tmp 50) 23 rfl _ _ va wa rfl rfl RA.out ?_)
            go_roundw
            case rel => exact ⟨a + 1, by omega, by go_num, fun _ => ⟨by rw [AV.out]; go_num, OA.out⟩, fun h => absurd h (by omega), BA.out⟩
            case measure => simp [intOf]; omega
        · have NX : Hid (lS s (k + 1) = lS s k) := Lib.hid (by rw [lS, if_neg h10])
          have HA := Lib.hid ha
          have HL := Lib.hid hL
          have f3 : ((gn s k : Int) == 10) = false := by simp; omega
          clear ha hL h10
          generalize gn s k = x at *
          go_wp2_with fail
          go_roundw
          case rel => exact ⟨k + 1, by omega, by go_num, fun _ => ⟨by rw [NX.out, HA.out], by rw [NX.out, HL.out]; exact OO.out⟩, fun h => absurd h (by omega), BB.out⟩
          case measure => simp [intOf]; omega
      · have f2 : decide ((k : Int) < (s.size : Int)) = false := by rw [decide_eq_false_iff_not]; omega
        have ek : k = s.size := by omega
        have HN : Hid (a < k → lines s = L ++ [ln s a k]) := Lib.hid (fun h => by rw [lines, ← ek, ha, hL, if_pos h])
        have HN0 : Hid (¬ a < k → lines s = L) := Lib.hid (fun h => by rw [lines, ← ek, ha, hL, if_neg h])
        clear ha hL ek
        by_cases ak : a < k
        · obtain ⟨q, rfl⟩ : ∃ q, k = q + 1 := ⟨k - 1, by omega⟩
          have gq := gn_at s q (by omega)
          have e8 : decide ((a : Int) < ((q + 1 : Nat) : Int)) = true := by rw [decide_eq_true_iff]; omega
          have aq : (a : Int) ≤ (q : Int) := by omega
          have qs : (q : Int) < (s.size : Int) := by omega
          have as' : (a : Int) < (q : Int) + 1 := by omega
          have a00 : (0 : Int) ≤ (a : Int) := by omega
          have as2 : (a : Int) ≤ (q : Int) + 1 := by omega
          have qs2 : (q : Int) ≤ (s.size : Int) := by omega
          have qs3 : (q : Int) + 1 ≤ (s.size : Int) := by omega
          by_cases h13 : gn s q = 13
          · have HL : Hid (ln s a (q + 1) = s.extract a q) := Lib.hid (by rw [ln, lnE, if_pos ⟨by omega, h13⟩]; rfl)
            rw [h13] at gq
            obtain ⟨va, wa, ra, oa, ba, sa⟩ := appS own (s.extract a q) hb.size (by omega) 23
            have OA := Lib.hid oa
            rw [← HL.out, ← HN.out (by omega)] at OA
            have BA := Lib.hid (hb.trans ba)
            have RA := Lib.hid ra
            clear own hb oa ba ra sa BB OO
            go_wp2_with (at_builtin; refine wpList_append_eq rfl (.tmp 45) (.tmp 50) 23 rfl _ _ va wa rfl rfl RA.out ?_)
            go_roundw
            case rel => exact ⟨(q + 1) + 1, by omega, by go_num, fun h => absurd h (by omega), fun _ => OA.out, BA.out⟩
            case measure => simp [intOf]; omega
          · have HL : Hid (ln s a (q + 1) = s.extract a (q + 1)) := Lib.hid (by rw [ln, lnE, if_neg (fun h => h13 h.2)])
            have g13 : ((gn s q : Int) == 13) = false := by simp; omega
            generalize gn s q = x13 at *
            obtain ⟨va, wa, ra, oa, ba, sa⟩ := appS own (s.extract a (q + 1)) hb.size (by omega) 23
            have OA := Lib.hid oa
            rw [← HL.out, ← HN.out (by omega)] at OA
            have BA := Lib.hid (hb.trans ba)
            have RA := Lib.hid ra
            clear own hb oa ba ra sa BB OO
            go_wp2_with (at_builtin; refine wpList_append_eq rfl (.tmp 45) (.tmp 50) 23 rfl _ _ va wa rfl rfl RA.out ?_)
            go_roundw
            case rel => exact ⟨(q + 1) + 1, by omega, by go_num, fun h => absurd h (by omega), fun _ => OA.out, BA.out⟩
            case measure => simp [intOf]; omega
        · have e8 : decide ((a : Int) < (k : Int)) = false := by rw [decide_eq_false_iff_not]; omega
          have ON := Lib.hid own
          rw [← HN0.out ak] at ON
          clear own hb OO
          go_wp2_with fail
          go_roundw
          case rel => exact ⟨k + 1, by omega, by go_num, fun h => absurd h (by omega), fun _ => ON.out, BB.out⟩
          case measure => simp [intOf]; omega
    · have f1 : decide ((k : Int) ≤ (s.size : Int)) = false := by rw [decide_eq_false_iff_not]; omega
      have OE := Lib.hid (hend (by omega))
      clear hown hend hb HE
      go_wp2_with fail
      go_ret
      exact ⟨_, rfl, OE.out, BB.out⟩
end Go.Proofs.Ythlmjfjkjjoimaa.Wd
