/-
  The contract of radio.Code: of a line its UTC time.
  Conditions: the line has no more than 2^40 bytes.
-/
import Derived.Test.YtoecgabdjpgleaaGreatDoorRdC
import Derived.Test.YtoecgabdjpgleaaGreatDoorWe
import Derived.Deep.LoopGhost
import Derived.Lib.SliceRun
namespace Go.Proofs.YtoecgabdjpgleaaGreatDoor.Rd
open Go.RowKit Cv
set_option linter.unusedVariables false
set_option linter.unusedSimpArgs false

theorem isQuoted_c (x : Wd.W3) (w : World) : Calls Tryz.prog 25 #[x.val] w fun e w' => e = .returned (.bool x.q) ∧ Below w.heap.size w w' := by
  obtain ⟨t, c, q⟩ := x
  show Calls Tryz.prog 25 #[.agg #[.string t, .int .i64 c, .bool q]] w _
  go_enter Tryz.func25, Tryz.ntmps25
  go_wp2_with fail
  go_ret
  exact ⟨rfl, balloc (brefl w) _⟩
/-- one of them is quoted. -/
def anyq (L : List Wd.W3) : Bool := L.any fun x => x.q
/-- no word before the k-th is quoted. -/
theorem anyq_hit {L : List Wd.W3} {k : Nat} {x : Wd.W3} (h : L[k]? = some x) (hq : x.q = true) : anyq L = true :=
  List.any_eq_true.2 ⟨x, List.mem_of_getElem? h, hq⟩
theorem anyq_miss {L : List Wd.W3} (h : ∀ (j : Nat) (x : Wd.W3), L[j]? = some x → x.q = false) : anyq L = false := by
  rw [anyq, List.any_eq_false]
  intro x hx
  obtain ⟨j, hj, e⟩ := List.getElem_of_mem hx
  rw [h j x (by rw [List.getElem?_eq_getElem hj, e])]
  decide
set_option maxRecDepth 100000 in
set_option maxHeartbeats 4000000 in
theorem index_c {L : List Wd.W3} {v : Value} {w : World} (h : Wd.Rw w v L) :
    Calls Tryz.prog 53 #[v, .func (.func 25) #[] #[]] w fun e w' => (∃ i : Int, e = .returned (.int .i64 i) ∧ decide (0 ≤ i) = anyq L) ∧ Below w.heap.size w w' := by
  obtain ⟨a, cap, rfl, h1', h2', hR⟩ := h
  have HR := Lib.hid hR
  clear hR
  have AQ : Hid (∀ (k : Nat) (x : Wd.W3), L[k]? = some x → x.q = true → anyq L = true) := Lib.hid fun k x => anyq_hit
  have AN : Hid ((∀ (j : Nat) (x : Wd.W3), L[j]? = some x → x.q = false) → anyq L = false) := Lib.hid anyq_miss
  have GX : Hid (∀ k : Nat, k < L.length → ∃ x : Wd.W3, L[k]? = some x) := Lib.hid fun k hk => ⟨_, List.getElem?_eq_getElem hk⟩
  have GL : Hid (∀ (k : Nat) (x : Wd.W3), L[k]? = some x → k < L.length) := Lib.hid fun k x hk => (List.getElem?_eq_some_iff.1 hk).1
  generalize anyq L = r at *
  generalize hn : L.length = n at *
  clear hn
  have h1 : (n : Int) ≤ (cap : Int) := by omega
  have h2 : (cap : Int) ≤ 9223372036854775807 := by omega
  go_enter Tryz.func53, Tryz.ntmps53
  go_wp2_with fail
  go_loopw [5, 8] (fun _ i wr => ∃ k : Nat, k ≤ n ∧ i = .int .i64 k ∧ (∀ j x, j < k → L[j]? = some x → x.q = false) ∧ Below w.heap.size w wr) (fun _ i _ => n - (intOf i).toNat)
  case atStart => exact ⟨0, Nat.zero_le _, rfl, fun j x hj => absurd hj (Nat.not_lt_zero _), brefl w⟩
  case round =>
    obtain ⟨k, hk, rfl, hno, hb⟩ := hrel
    rename World => wr
    have NO := Lib.hid hno
    have BB := Lib.hid hb
    clear hno hb
    by_cases c : k < n
    · have e0 : decide ((k : Int) < (n : Int)) = true := by rw [decide_eq_true_iff]; omega
      obtain ⟨b, off, rfl, hbl, hK⟩ := HR.out (by omega)
      obtain ⟨x, gx⟩ := GX.out k c
      obtain ⟨g0, g1, g2⟩ := hK k x gx
      replace g0 := (BB.out.cell (p := ⟨b, _, none⟩) hbl).trans g0
      replace g1 := (BB.out.cell (p := ⟨b, _, none⟩) hbl).trans g1
      replace g2 := (BB.out.cell (p := ⟨b, _, none⟩) hbl).trans g2
      have k1 : (k : Int) < (n : Int) := by omega
      have CH := Lib.hid (isQuoted_c x wr)
      have HX := Lib.hid gx
      clear hK gx
      obtain ⟨t, ch, q⟩ := x
      simp only [Wd.W3.val] at CH
      simp only at g0 g1 g2
      go_wp2_with fail
      cases q with
      | true =>
        refine CH.out.mono ?_
        rintro e w3 ⟨rfl, hb⟩
        have B3 := Lib.hid (BB.out.trans (hb.mono BB.out.size))
        clear hb
        go_wp2_with fail
        go_ret
        exact ⟨⟨_, rfl, by rw [AQ.out k _ HX.out rfl]; exact decide_eq_true (by omega)⟩, B3.out⟩
      | false =>
        refine CH.out.mono ?_
        rintro e w3 ⟨rfl, hb⟩
        have B3 := Lib.hid (BB.out.trans (hb.mono BB.out.size))
        clear hb
        go_wp2_with fail
        go_roundw
        case rel =>
          refine ⟨k + 1, by omega, by go_num, fun j x hj hx => ?_, B3.out⟩
          by_cases e : j = k
          · subst e
            have := HX.out.symm.trans hx
            cases this
            rfl
          · exact NO.out j x (by omega) hx
        case measure => simp [intOf]; omega
    · have e0 : decide ((k : Int) < (n : Int)) = false := by rw [decide_eq_false_iff_not]; omega
      have AF := AN.out fun j x hx => NO.out j x (by have := GL.out j x hx; omega) hx
      have AF2 := Lib.hid AF
      clear AF
      go_wp2_with fail
      go_ret
      exact ⟨⟨_, rfl, by rw [AF2.out]; rfl⟩, BB.out⟩
set_option maxRecDepth 100000 in
set_option maxHeartbeats 1000000 in
theorem contains_c {L : List Wd.W3} {v : Value} {w : World} (h : Wd.Rw w v L) :
    Calls Tryz.prog 24 #[v, .func (.func 25) #[] #[]] w fun e w' => e = .returned (.bool (anyq L)) ∧ Below w.heap.size w w' := by
  have IC := Lib.hid (index_c h)
  generalize anyq L = r at *
  go_enter Tryz.func24, Tryz.ntmps24
  go_wp2_with fail
  refine IC.out.mono ?_
  rintro e w2 ⟨⟨i, rfl, hi⟩, hb⟩
  have B2 := Lib.hid hb
  clear hb
  go_wp2_with fail
  go_ret
  exact ⟨rfl, B2.out⟩
end Go.Proofs.YtoecgabdjpgleaaGreatDoor.Rd
