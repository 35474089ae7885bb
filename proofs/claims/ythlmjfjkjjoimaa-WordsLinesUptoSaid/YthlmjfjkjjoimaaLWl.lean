/-
  WordsLines: Every text has just its lines, and every text is quoted as one word. The law returns true, and the input reads as it did.
  Conditions: what the law reads is of bulk at most 1048576.
-/
import Derived.Test.YthlmjfjkjjoimaaRows
import Derived.Test.YthlmjfjkjjoimaaWpQ
import Derived.ChangeMaps5
import Derived.Carry
import Derived.Laws.RangeAny
import Derived.Lib.SmallJoins
import Derived.JoinedCond
namespace Go.Proofs.Ythlmjfjkjjoimaa.wordsLines
open Go.ChangeShapes Go.WideShapes Go.ChangeAt Go.RowKit Go.Joins Wd By
set_option linter.unusedVariables false
set_option linter.unusedSimpArgs false

theorem own : ownKnob Try.prog.godebug = none := by kernel_rfl
theorem laidOut : laidOutB Try.prog = true := by kernel_rfl
theorem bdrewB {B : Nat} {a b : World} (h : Below B a b) (n : Nat) : Below B a (b.drewN n) := h.trans ⟨rfl, rfl, rfl, Nat.le_refl _, fun _ _ => rfl⟩
set_option maxRecDepth 100000 in
set_option maxHeartbeats 4000000 in
theorem walk (s : ByteArray) (hs : s.size ≤ 1048576) (w : World) :
    Calls Try.prog 3 #[.string s] w fun e w' => e = .returned (.bool true) ∧ Below w.heap.size w w' := by
  have LC := fun w => Lib.hid (Lines_c s w (by omega))
  have RL := fun w => Lib.hid (rLines_c s w (by omega))
  have QC := fun w => Lib.hid (Quote_c s w (by omega))
  have RQ := fun w => Lib.hid (rQuote_c s w (by omega))
  rw [quo_eq] at RQ
  generalize quo s = q at *
  generalize lines s = L at *
  go_enter Try.func3, Try.ntmps3
  go_wp2_with fail
  refine (awake7_c _).mono ?_
  rintro e w1 ⟨rfl, hb⟩
  have B1 := Lib.hid hb
  clear hb
  go_wp2_with fail
  refine (LC w1).out.mono ?_
  rintro e w2 ⟨va, rfl, own, hb⟩
  have R2 := Lib.hid own.rs
  have B2 := Lib.hid (B1.out.trans (hb.mono B1.out.size))
  clear own hb
  go_wp2_with fail
  refine (RL w2).out.mono ?_
  rintro e w3 ⟨vb, rfl, own, hb⟩
  have R3 := Lib.hid (R2.out.below hb)
  have S3 := Lib.hid own.rs
  have B3 := Lib.hid (B2.out.trans (hb.mono B2.out.size))
  clear own hb R2
  obtain ⟨a, capa, rfl, ha1, ha2, ha3⟩ := R3.out
  obtain ⟨b, capb, rfl, hb1, hb2, hb3⟩ := S3.out
  have HA := Lib.hid ha3
  have HB := Lib.hid hb3
  clear ha3 hb3
  go_wp2_with fail
  refine (QC w3).out.mono ?_
  rintro e w4 ⟨rfl, hb⟩
  have B4 := Lib.hid (B3.out.trans (hb.mono B3.out.size))
  have X4 := Lib.hid hb
  clear hb
  go_wp2_with fail
  refine (RQ w4).out.mono ?_
  rintro e w5 ⟨rfl, hb⟩
  have B5 := Lib.hid (B4.out.trans (hb.mono B4.out.size))
  have X5 := Lib.hid (X4.out.trans (hb.mono X4.out.size))
  clear hb
  go_wp2_with fail
  clear LC RL QC RQ R3 S3 X4
  go_loopw [5] (fun i wr => ∃ k : Nat, k ≤ L.length ∧ i = .int .i64 k ∧ Below w3.heap.size w3 wr) (fun i _ => L.length - (intOf i).toNat)
  case atStart => exact ⟨0, Nat.zero_le _, rfl, X5.out⟩
  case round =>
    obtain ⟨k, hk, rfl, hb⟩ := hrel
    rename World => wr
    have BB := Lib.hid hb
    clear hb
    by_cases c : k < L.length
    · have f1 : decide ((k : Int) < (L.length : Int)) = true := by rw [decide_eq_true_iff]; omega
      obtain ⟨ba, oa, rfl, la, ca⟩ := HA.out (by omega)
      obtain ⟨bb, ob, rfl, lb, cb⟩ := HB.out (by omega)
      obtain ⟨x, hx⟩ : ∃ x, L[k]? = some x := ⟨L[k], List.getElem?_eq_getElem c⟩
      have g1 := (BB.out.cell (p := ⟨ba, _, none⟩) la).trans (ca k x hx)
      have g2 := (BB.out.cell (p := ⟨bb, _, none⟩) lb).trans (cb k x hx)
      have k1 : (k : Int) < (L.length : Int) := by omega
      clear ca cb hx HA HB
      go_wp2_with fail
      go_quiet (fail)
      go_wp2_with fail
      go_roundw
      case rel => exact ⟨k + 1, by omega, by go_num, bdrewB BB.out nq⟩
      case measure => simp [intOf]; omega
    · have f1 : decide ((k : Int) < (L.length : Int)) = false := by rw [decide_eq_false_iff_not]; omega
      go_wp2_with fail
      go_ret
      exact ⟨rfl, B3.out.trans (BB.out.mono B3.out.size)⟩

theorem bulk_one {H : Type} (d : DataW H) : 1 ≤ Rows.uptoBulk d := by
  cases d with
  | lit l => cases l <;> simp [Rows.uptoBulk]
  | _ => simp [Rows.uptoBulk]
theorem bulk_len {H : Type} : ∀ l : List (DataW H), l.length ≤ Rows.uptoBulkAll l
  | [] => Nat.zero_le _
  | d :: r => by
    have a := bulk_one d
    have b := bulk_len r
    simp only [List.length_cons, Rows.uptoBulkAll]
    omega
theorem bulk_mem {H : Type} : ∀ (l : List (DataW H)) (d : DataW H), d ∈ l → Rows.uptoBulk d ≤ Rows.uptoBulkAll l
  | [], d, h => by cases h
  | x :: r, d, h => by
    rcases List.mem_cons.1 h with e | e
    · subst e
      simp only [Rows.uptoBulkAll]
      omega
    · have := bulk_mem r d e
      simp only [Rows.uptoBulkAll]
      omega
theorem bulk_str {H : Type} {ds : List (DataW H)} {s : ByteArray} (hk : Rows.uptoBulkAll ds ≤ 1048576) (h : (DataW.lit (.string s.data.toList)) ∈ ds) : s.size ≤ 1048576 := by
  have := bulk_mem ds _ h
  simp only [Rows.uptoBulk] at this
  have e : s.data.toList.length = s.size := by rw [Array.length_toList]; rfl
  omega

set_option maxRecDepth 100000 in
theorem lifted (os : Os) (started : os.Started) (H : Type) (enc : TypeId × Value → H) (I : Stop.Interp) :
    ReturnsInHanded {} Try.checked os 3 .any ((Rows.OpenSpec.upto Rows.wordsLinesSpec).pre6 enc Try.prog Try.f3 Rows.wordsLinesUptoRow.domain false) (((Rows.OpenSpec.upto Rows.wordsLinesSpec).at I).post enc Try.prog Try.f3 false true false false) := by
  refine returnsInHanded_of_cond (C := Try.checked) (s := Rows.OpenSpec.upto Rows.wordsLinesSpec) (k := Rows.uptoSmall) rfl own started (by kernel_rfl) Try.func3
    (OpenSpec.witness (enc := enc) (C := Try.checked) (s := Rows.OpenSpec.upto Rows.wordsLinesSpec) (k := Rows.uptoSmall) rfl false ⟨#[], #[.string ⟨#[]⟩], []⟩ 8 (by kernel_rfl) (by kernel_rfl) (by kernel_rfl)
      (x := ([.lit (.string [])], [], [])) (by kernel_rfl) rfl (by kernel_rfl)) ?_
  intro W base args ds gs before hval0 hW _ hk _
  have hk0 : Rows.uptoBulkAll (ds ++ gs) ≤ 1048576 := of_decide_eq_true hk
  have hval : ∀ (j : Nat) t v, Try.f3.params[j]? = some t → args[j]? = some v → Value.okWide Try.prog W .any base t v := hval0
  have hW' := hW
  obtain ⟨p, q, hA0, hV, rfl, hfz, hnd⟩ := hW
  have hA : DataW.TrodAll enc Try.prog W 0 (fun _ => true) true Try.f3.params.toList args.toList ds p := hA0
  rw [Try.params3] at hA hval
  obtain ⟨v0, vs0, d0, ds0, p0, q0, hargs, rfl, rfl, h0, r0⟩ := trodAll_cons hA
  obtain ⟨rfl, rfl, rfl⟩ := trodAll_nil r0
  obtain rfl : args = #[v0] := by cases args; simp_all
  obtain ⟨rfl, rfl⟩ := trodVars_none hV
  have h0k := h0
  have hlt0 : ∀ x ∈ p0, x.block < W.heap.size := fun x hx => by have := hW'.lt x (by simp [hx]); simpa using this
  obtain ⟨s0, rfl, rfl, rfl, ws0⟩ := Go.ChangeMaps.open_string Try.underlying9 (hval 0 9 v0 rfl rfl) h0
  have hs0 : s0.size ≤ 1048576 := bulk_str hk0 (by simp)
  clear hA0 hval0
  simp only [List.append_nil] at hW'
  refine (walk s0 hs0 W).mono fun e W' ⟨he, hg⟩ => ?_
  subst he
  exact ⟨_, rfl, _, _, _, [], _, [], hW', trodAll_cons_mk (shut_bool Try.underlying4 _) trodAll_mk0,
    (trodAll_cons_mk (Below.trod laidOut (by kernel_rfl) (of_decide_eq_true (by kernel_rfl)) h0k hg hlt0) trodAll_mk0), rfl, hg.frame _, fun h => nomatch h⟩

theorem over : Rows.wordsLinesUptoRow.holds Try.pinned (Rows.OpenSpec.upto Rows.wordsLinesSpec) :=
  OpenClaim.holds_of_cond 3 Try.f3 rfl rfl rfl rfl rfl rfl rfl ⟨rfl, rfl, rfl, rfl, rfl⟩ rfl rfl rfl rfl rfl (by kernel_rfl) Try.func3 (by kernel_rfl)
    (of_decide_eq_true (by kernel_rfl)) (by unfold Func.isWrapper; first | (rw [if_pos (by decide +kernel)]; kernel_rfl) | (rw [if_neg (by decide +kernel)]; exact ⟨rfl, rfl⟩))
    (fun os started H enc _ I => lifted os started H enc I)

theorem proved : Rows.WordsLinesUptoSaid :=
  over
end Go.Proofs.Ythlmjfjkjjoimaa.wordsLines
