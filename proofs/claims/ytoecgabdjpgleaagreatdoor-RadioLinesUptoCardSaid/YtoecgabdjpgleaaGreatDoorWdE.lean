/-
  The characters of a line: the contract of sundialref07.Chars.
  Conditions: unicode/utf8's two tables read as their text lays them; no more than 2^40 bytes.
-/
import Derived.Test.YtoecgabdjpgleaaGreatDoorWa
import Derived.Test.YtoecgabdjpgleaaGreatDoorShelfU
import Derived.Lib.RuneCountTail
import Derived.Lib.TrimU
import Derived.Laws.Strings2
namespace Go.Proofs.YtoecgabdjpgleaaGreatDoor.Wd
open Go.ChangeShapes Go.WideShapes Go.ChangeAt Go.RowKit Go.Joins By
set_option linter.unusedVariables false
set_option linter.unusedSimpArgs false

theorem info_char : (Tryz.prog.info? 112).map (fun i => (i.zero, i.size, i.bytes)) = some (some (.agg #[.string ⟨#[]⟩, .bool false]), 2, 24) := by kernel_rfl
theorem info_parts4 {i? : Option TypeInfo} {z : Value} {s b : Nat} (h : i?.map (fun i => (i.zero, i.size, i.bytes)) = some (some z, s, b)) : ∃ i, i? = some i ∧ i.zero = some z ∧ i.size = s ∧ i.bytes = b := by
  cases i? with
  | none => cases h
  | some i => simp at h; exact ⟨i, rfl, h.1, h.2.1, h.2.2⟩
def cc : List (ByteArray × Bool) → List Value
  | [] => []
  | x :: l => .string x.1 :: .bool x.2 :: cc l
theorem cc_len : ∀ l, (cc l).length = l.length * 2
  | [] => rfl
  | x :: l => by simp [cc, cc_len l]; omega
theorem cc_app : ∀ l k, cc (l ++ k) = cc l ++ cc k
  | [], k => rfl
  | x :: l, k => by simp [cc, cc_app l k]
theorem cc_one : ∀ l, ∀ u ∈ cc l, u.oneCell' = true
  | [], u, h => by simp [cc] at h
  | x :: l, u, h => by
    simp only [cc, List.mem_cons] at h
    rcases h with rfl | rfl | h
    · rfl
    · rfl
    · exact cc_one l u h
/-- v is a slice of the call's own that holds just these characters. -/
def OwnC (w : World) (base : Nat) (v : Value) (l : List (ByteArray × Bool)) : Prop := w.ownsRow base 112 2 v l.length (cc l)
theorem OwnC.nil (w : World) (base : Nat) : OwnC w base (.slice none 0 0) [] := World.ownsRow_nil w base _ 2
theorem OwnC.block {w : World} {base : Nat} {v : Value} {l : List (ByteArray × Bool)} (h : OwnC w base v l) : ∀ k, v.ownBlock = some k → base ≤ k := by
  intro k hk
  rcases h.2 with ⟨rfl, _⟩ | ⟨g, cap, cur, rfl, hb, _⟩
  · simp [Value.ownBlock] at hk
  · simp [Value.ownBlock] at hk
    omega
theorem OwnC.below {w w' : World} {base : Nat} {v : Value} {l : List (ByteArray × Bool)} (h : OwnC w base v l) (k : Below w.heap.size w w') : OwnC w' base v l := by
  obtain ⟨h1, h2⟩ := h
  refine ⟨h1, ?_⟩
  rcases h2 with h2 | ⟨g, cap, cur, hv, hb, hh, hr⟩
  · exact .inl h2
  · exact .inr ⟨g, cap, cur, hv, hb, by rw [k.block g (Array.getElem?_eq_some_iff.1 hh).1]; exact hh, hr⟩
theorem appC {w : World} {base : Nat} {v : Value} {l : List (ByteArray × Bool)} (h : OwnC w base v l) (x : ByteArray) (y : Bool) (hb : base ≤ w.heap.size) (hn : (l.length + 1) * 24 ≤ 140737488355328) (ty : TypeId) :
    ∃ v' w', (Builtin.append_ #[109, 109] ty #[v, .slice (some ⟨w.heap.size, 0, none⟩) 1 1]).run Tryz.prog (w.alloc (.cells #[.string x, .bool y] 112)) = .ok v' w' ∧ OwnC w' base v' (l ++ [(x, y)]) ∧ Below base w w' ∧ w.heap.size ≤ w'.heap.size := by
  obtain ⟨i, hi, hz, hs, hby⟩ := info_parts4 info_char
  obtain ⟨v', w', hr, ho, hg, _, _⟩ := run_append_own_at (P := Tryz.prog) (w.alloc (.cells #[.string x, .bool y] 112)) base 109 ty 112 i (.agg #[.string ⟨#[]⟩, .bool false]) 2 24 Tryz.underlying109 hi hz hs hby rfl (by decide) v l.length (cc l) (World.ownsRow.alloc h _) ⟨w.heap.size, 0, none⟩ 1 1 (cc [(x, y)]) rfl
    (by
      intro j u hj
      match j, hj with
      | 0, hj => simp [cc] at hj; subst hj; simp [Addr.add, go_sem]
      | 1, hj => simp [cc] at hj; subst hj; simp [Addr.add, go_sem]
      | j + 2, hj => simp [cc] at hj) (cc_one _) (by unfold maxLen; omega) (by omega) (by simp; omega)
  have hB : Below base w (w.alloc (.cells #[.string x, .bool y] 112)) := (Below.refl base w).alloc hb _
  have hB2 := hB.grown hg (by simp; omega) h.block
  refine ⟨v', w', hr, ?_, hB2, hB2.size⟩
  unfold OwnC
  rw [cc_app, List.length_append]
  exact ho

set_option maxRecDepth 100000 in
set_option maxHeartbeats 4000000 in
theorem rChars_c (s : ByteArray) (w : World) (T : Lib.Utf8Tabs 3 4 w) (hs : s.size ≤ 1099511627776) :
    Calls Tryz.prog 56 #[.string s] w fun e w' => ∃ v, e = .returned v ∧ OwnC w' w.heap.size v (chars s) ∧ Below w.heap.size w w' := by
  have HT := Lib.hid T
  clear T
  go_enter Tryz.func56, Tryz.ntmps56
  go_wp2_with fail
  go_loopw [3, 4] (fun v i wr => ∃ k : Nat, ∃ l, ∃ f, k ≤ s.size ∧ i = .int .i64 k ∧ l.length ≤ k ∧ s.size ≤ k + f ∧ chars s = l ++ chL s f k ∧ OwnC wr w.heap.size v l ∧ Below w.heap.size w wr) (fun _ i _ => s.size - (intOf i).toNat)
  case atStart => exact ⟨0, [], s.size, Nat.zero_le _, rfl, Nat.le_refl _, by omega, rfl, OwnC.nil _ _, brefl w⟩
  case round =>
    obtain ⟨k, l, f, hk, rfl, hl, hf, hc, own, hb⟩ := hrel
    rename World => wr
    have BB := Lib.hid hb
    by_cases c : k < s.size
    · have f1 : decide ((k : Int) < (s.size : Int)) = true := by rw [decide_eq_true_iff]; omega
      obtain ⟨f', rfl⟩ : ∃ f', f = f' + 1 := ⟨f - 1, by omega⟩
      have CE : Hid (chars s = (l ++ [(s.extract k (k + cw s k), wr1 s k)]) ++ chL s f' (k + cw s k)) := Lib.hid (by
        rw [hc, chL, if_pos c, List.append_assoc]; rfl)
      have k0 : (0 : Int) ≤ (k : Int) := by omega
      have k1 : (k : Int) ≤ (s.size : Int) := by omega
      have wp := cw_pos s k
      have wl := cw_le s k c
      have DE : Hid (Lib.decodeGo (s.extract k s.size) = (cr s k, cw s k)) := Lib.hid (by
        rw [Lib.decodeGo, if_neg (by rw [ByteArray.size_extract]; omega), Lib.tail_decode]
        rfl)
      have DC : Hid (Calls Tryz.prog 87 #[.string (s.extract k s.size)] wr fun e w' => e = .returned (.tuple #[.int .i32 (cr s k), .int .i64 (cw s k)]) ∧ Below wr.heap.size wr w') := Lib.hid (by
        have h := Tryz.utf8_DecodeRuneInString (s.extract k s.size) wr (Utf8Tabs_below HT.out hb)
        rw [DE.out] at h
        exact h)
      have WE : Hid (wr1 s k = (decide (cr s k = 65533) && decide (cw s k = 1))) := Lib.hid rfl
      have OO := Lib.hid own
      clear hc hb own
      generalize cw s k = n at *
      generalize cr s k = r at *
      generalize wr1 s k = q at *
      go_wp2_with fail
      refine DC.out.mono ?_
      rintro e w2 ⟨rfl, hb⟩
      have B2 := Lib.hid (BB.out.trans (hb.mono BB.out.size))
      obtain ⟨va, wa, ra, oa, ba, sa⟩ := appC (OwnC.below OO.out hb) (s.extract k (k + n)) q B2.out.size (by omega) 109
      have OA : Hid (OwnC wa w.heap.size va (l ++ [(s.extract k (k + n), q)])) := Lib.hid oa
      have BA := Lib.hid (B2.out.trans ba)
      have RA := Lib.hid ra
      clear hb oa ba ra sa OO BB
      have n0 : (0 : Int) ≤ (n : Int) := by omega
      have n1 : (k : Int) + (n : Int) ≤ (s.size : Int) := by omega
      have n2 : (k : Int) ≤ (k : Int) + (n : Int) := by omega
      have nk : ((k : Int) + (n : Int)).toNat = k + n := by omega
      by_cases r1 : r = 65533
      · by_cases r2 : n = 1
        · have Q : q = true := by rw [WE.out, decide_eq_true r1, decide_eq_true r2]; rfl
          subst Q r1 r2
          have m1 : (k : Int) + 1 ≤ (s.size : Int) := by omega
          have m2 : (k : Int) ≤ (k : Int) + 1 := by omega
          clear WE DE DC n0 n1 n2 nk
          go_wp2_with (at_builtin; refine wpList_append_eq rfl (.tmp 18) (.tmp 32) 109 rfl _ _ va wa rfl rfl RA.out ?_)
          go_roundw
          case rel => exact ⟨k + 1, _, f', by omega, by go_num, by simp; omega, by omega, CE.out, OA.out, BA.out⟩
          case measure => simp [intOf]; omega
        · have Q : q = false := by rw [WE.out, decide_eq_false r2, Bool.and_false]
          have e2 : ((n : Int) == 1) = false := by simp; omega
          subst Q r1
          clear WE DE DC r2
          go_wp2_with (at_builtin; refine wpList_append_eq rfl (.tmp 18) (.tmp 32) 109 rfl _ _ va wa rfl rfl RA.out ?_)
          go_roundw
          case rel => exact ⟨k + n, _, f', by omega, by go_num, by simp; omega, by omega, CE.out, OA.out, BA.out⟩
          case measure => simp [intOf]; omega
      · have Q : q = false := by rw [WE.out, decide_eq_false r1, Bool.false_and]
        have e1 : ((r : Int) == 65533) = false := by simp; omega
        subst Q
        clear WE DE DC r1
        go_wp2_with (at_builtin; refine wpList_append_eq rfl (.tmp 18) (.tmp 32) 109 rfl _ _ va wa rfl rfl RA.out ?_)
        go_roundw
        case rel => exact ⟨k + n, _, f', by omega, by go_num, by simp; omega, by omega, CE.out, OA.out, BA.out⟩
        case measure => simp [intOf]; omega
    · have f1 : decide ((k : Int) < (s.size : Int)) = false := by rw [decide_eq_false_iff_not]; omega
      have CE : Hid (chars s = l) := Lib.hid (by
        rw [hc]
        cases f with
        | zero => simp [chL]
        | succ f => rw [chL, if_neg c, List.append_nil])
      have OO := Lib.hid own
      clear hc hb own
      go_wp2_with fail
      go_ret
      exact ⟨_, rfl, by rw [CE.out]; exact OO.out, BB.out⟩
end Go.Proofs.YtoecgabdjpgleaaGreatDoor.Wd
