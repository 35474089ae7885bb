/-
  WordsSplits: Every line is cut into just its words, or has a fault at the first character that can't stand. The law returns true, and the input reads as it did.
  Conditions: what the law reads is of bulk at most 1048576; unicode/utf8's two tables that the row lists read as the program's text lays them (the card ties them).
-/
import Derived.Test.YthlmjfjkjjoimaaDoorRows
import Derived.Test.YthlmjfjkjjoimaaDoorCards
import Derived.Test.YthlmjfjkjjoimaaDoorTie
import Derived.Test.YthlmjfjkjjoimaaDoorWpR
import Derived.Test.YthlmjfjkjjoimaaDoorWdT
import Derived.SevenTiedAt
import Derived.ChangeMaps5
import Derived.Carry
import Derived.Lib.SmallJoins
import Derived.JoinedCond
import Derived.Deep.DeepHandedRow
namespace Go.Proofs.YthlmjfjkjjoimaaDoor.wordsSplits
open Go.ChangeShapes Go.WideShapes Go.ChangeAt Go.RowKit Go.Joins Wd By
set_option linter.unusedVariables false
set_option linter.unusedSimpArgs false

theorem sm_same (L : List W3) : sm L L = true := sm_yes rfl (fun i _ => by simp [eqW])
set_option maxRecDepth 100000 in
set_option maxHeartbeats 4000000 in
theorem walk (s : ByteArray) (hs : s.size ≤ 1048576) (w : World) (T : Lib.Utf8Tabs 0 1 w) :
    Calls Tryd.prog 3 #[.string s] w fun e w' => e = .returned (.bool true) ∧ Below w.heap.size w w' := by
  have HT := Lib.hid T
  have SC := fun w => Lib.hid (Split_c s w (by omega))
  have RC := fun w T => Lib.hid (rSplit_c s w T (by omega))
  have SS := sp_same s
  clear T
  generalize spR s = R at *
  generalize spl (chars s) = D at *
  obtain ⟨dw, da⟩ := D
  cases R with
  | inl ch =>
    obtain ⟨c0, c1⟩ := SS.1 ch rfl
    simp only at c1
    subst c1
    simp only [fWhy, fChar, fWords] at SC
    clear SS
    have e0 : decide (0 ≤ da) = true := decide_eq_true c0
    go_enter Tryd.func3, Tryd.ntmps3
    go_wp2_with fail
    refine (awake7_c _).mono ?_
    rintro e w1 ⟨rfl, hb⟩
    have B1 := Lib.hid hb
    clear hb
    go_wp2_with fail
    refine (SC w1).out.mono ?_
    rintro e w2 ⟨v, rfl, own, hb⟩
    have B2 := Lib.hid (B1.out.trans (hb.mono B1.out.size))
    obtain ⟨a, cap, rfl⟩ := ownR_form own
    clear own hb
    have B3 := Lib.hid (B2.out.alloc B2.out.size (.cells #[.int .i64 4, .int .i64 0, .int .i64 da] 26))
    have F0 : (w2.alloc (.cells #[.int .i64 4, .int .i64 0, .int .i64 da] 26)).heap[w2.heap.size]? = some (.cells #[.int .i64 4, .int .i64 0, .int .i64 da] 26) := heap_alloc_new w2 _
    have L0 : w2.heap.size < (w2.alloc (.cells #[.int .i64 4, .int .i64 0, .int .i64 da] 26)).heap.size := by simp
    go_wp2_with fail
    generalize w2.alloc (.cells #[.int .i64 4, .int .i64 0, .int .i64 da] 26) = w3 at *
    refine (RC w3 (Utf8Tabs_below HT.out B3.out)).out.mono ?_
    rintro e w4 ⟨u, rfl, own, hb⟩
    have B4 := Lib.hid (B3.out.trans (hb.mono B3.out.size))
    have F1 := (hb.block _ L0).trans F0
    have a0 : w4.cell? ⟨w2.heap.size, 0, none⟩ = some (.int .i64 4) := by simp [World.cell?, F1]
    have a1 : w4.cell? ⟨w2.heap.size, 1, none⟩ = some (.int .i64 0) := by simp [World.cell?, F1]
    have a2 : w4.cell? ⟨w2.heap.size, 2, none⟩ = some (.int .i64 da) := by simp [World.cell?, F1]
    clear F0 F1 own hb SC RC
    go_wp2_with fail
    go_ret
    exact ⟨rfl, B4.out⟩
  | inr ws =>
    have c1 := SS.2 ws rfl
    simp only [Prod.mk.injEq] at c1
    obtain ⟨rfl, rfl⟩ := c1
    simp only [fWhy, fChar, fWords] at SC
    clear SS
    go_enter Tryd.func3, Tryd.ntmps3
    go_wp2_with fail
    refine (awake7_c _).mono ?_
    rintro e w1 ⟨rfl, hb⟩
    have B1 := Lib.hid hb
    clear hb
    go_wp2_with fail
    refine (SC w1).out.mono ?_
    rintro e w2 ⟨v, rfl, own, hb⟩
    have B2 := Lib.hid (B1.out.trans (hb.mono B1.out.size))
    have B3 := Lib.hid (B2.out.alloc B2.out.size (.cells #[.int .i64 0, .int .i64 0, .int .i64 0] 26))
    have O3 := Lib.hid (own.rw.below (balloc (brefl w2) (.cells #[.int .i64 0, .int .i64 0, .int .i64 0] 26)))
    have F0 : (w2.alloc (.cells #[.int .i64 0, .int .i64 0, .int .i64 0] 26)).heap[w2.heap.size]? = some fa0 := heap_alloc_new w2 _
    have L0 : w2.heap.size < (w2.alloc (.cells #[.int .i64 0, .int .i64 0, .int .i64 0] 26)).heap.size := by simp
    clear own hb
    go_wp2_with fail
    generalize w2.alloc (.cells #[.int .i64 0, .int .i64 0, .int .i64 0] 26) = w3 at *
    refine (RC w3 (Utf8Tabs_below HT.out B3.out)).out.mono ?_
    rintro e w4 ⟨u, rfl, own, hb⟩
    have B4 := Lib.hid (B3.out.trans (hb.mono B3.out.size))
    have SM := Lib.hid (rSame_c (O3.out.below hb) own.rw)
    rw [sm_same] at SM
    obtain ⟨a0, a1, a2, _, _, _⟩ := fa_cells ((hb.block _ L0).trans F0)
    clear F0 own hb SC RC O3
    go_wp2_with fail
    refine SM.out.mono ?_
    rintro e w5 ⟨rfl, hb⟩
    have B5 := Lib.hid (B4.out.trans (hb.mono B4.out.size))
    clear hb
    go_wp2_with fail
    go_ret
    exact ⟨rfl, B5.out⟩

theorem bulk_one {H : Type} (d : DataW H) : 1 ≤ Rows.uptoBulk d := by
  cases d with
  | lit l => cases l <;> simp [Rows.uptoBulk]
  | _ => simp [Rows.uptoBulk]
theorem bulk_len {H : Type} : ∀ l : List (DataW H), l.length ≤ Rows.uptoBulkAll l
  | [] => Nat.zero_le _
  | d :: r => by
    have a := bulk_one d
    have b := bulk_len r
    simp only [List.length_cons, Rows.uptoBulkAll]
    omega
theorem bulk_mem {H : Type} : ∀ (l : List (DataW H)) (d : DataW H), d ∈ l → Rows.uptoBulk d ≤ Rows.uptoBulkAll l
  | [], d, h => by cases h
  | x :: r, d, h => by
    rcases List.mem_cons.1 h with e | e
    · subst e
      simp only [Rows.uptoBulkAll]
      omega
    · have := bulk_mem r d e
      simp only [Rows.uptoBulkAll]
      omega
theorem bulk_str {H : Type} {ds : List (DataW H)} {s : ByteArray} (hk : Rows.uptoBulkAll ds ≤ 1048576) (h : (DataW.lit (.string s.data.toList)) ∈ ds) : s.size ≤ 1048576 := by
  have := bulk_mem ds _ h
  simp only [Rows.uptoBulk] at this
  have e : s.data.toList.length = s.size := by rw [Array.length_toList]; rfl
  omega

theorem reads (os : Os) {H : Type} (enc : TypeId × Value → H) : ∃ places, DataW.whole enc Tryd.prog ((World.laidAll Tryd.prog os Rows.wordsSplitsUptoRow.laid).forCall (fun _ _ => 0) ⟨#[], #[.string ⟨#[]⟩], []⟩).memory Tryd.f3.params.toList Rows.wordsSplitsSpec.vars false #[.string ⟨#[]⟩].toList 8 = some ([.lit (.string [])], [], places) :=
  ⟨[], by kernel_rfl⟩
theorem metU (os : Os) (args : Array Value) : laidMetH Tryd.prog Rows.wordsSplitsUptoRow.laid ((World.laidAll Tryd.prog os Rows.wordsSplitsUptoRow.laid).forCall (fun _ _ => 0) ⟨#[], args, []⟩).memory := by
  rw [MakeChecks.laidMetH_plain _ _ _ (by kernel_rfl)]
  exact laidMet_laidAll args (by kernel_rfl) (by kernel_rfl)

set_option maxRecDepth 100000 in
theorem lifted (os : Os) (started : os.Started) (H : Type) (enc : TypeId × Value → H) (I : Stop.Interp) :
    ReturnsInHanded {} Tryd.checked os 3 .any ((Rows.OpenSpec.upto Rows.wordsSplitsSpec).preRow enc Tryd.prog Tryd.f3 Rows.wordsSplitsUptoRow.domain false Rows.wordsSplitsUptoRow.laid) (((Rows.OpenSpec.upto Rows.wordsSplitsSpec).at I).post enc Tryd.prog Tryd.f3 false true false false) := by
  obtain ⟨places, hx⟩ := reads os enc
  refine returnsInHanded_of_row (C := Tryd.checked) (s := Rows.OpenSpec.upto Rows.wordsSplitsSpec) own started (by kernel_rfl) Tryd.func3
    (witness_row_at (enc := enc) (C := Tryd.checked) false (World.laidAll Tryd.prog os Rows.wordsSplitsUptoRow.laid) #[.string ⟨#[]⟩] rfl (by kernel_rfl) (by kernel_rfl) (by kernel_rfl)
      (OpenSpec.preRow_of_cond 8 hx (by kernel_rfl) (fun k hk => by cases hk; kernel_rfl) (by kernel_rfl) (metU os _))) ?_
  intro W base args ds gs before hval0 hW _ hcond hsz0 hL _ _
  have hsz : (DataW.weightsEach Tryd.prog (Tryd.f3.params.toList ++ Rows.wordsSplitsSpec.plain.varTypes Tryd.prog) (ds ++ gs)).all (· ≤ reachBytes) = true := hsz0
  have hk0 : Rows.uptoBulkAll (ds ++ gs) ≤ 1048576 := of_decide_eq_true (hcond _ rfl)
  have hval : ∀ (j : Nat) t v, Tryd.f3.params[j]? = some t → args[j]? = some v → Value.okWide Tryd.prog W .any base t v := hval0
  have hW' := hW
  obtain ⟨p, q, hA0, hV, rfl, hfz, hnd⟩ := hW
  have hA : DataW.TrodAll enc Tryd.prog W 0 (fun _ => true) true Tryd.f3.params.toList args.toList ds p := hA0
  rw [Tryd.params3] at hA hval hsz
  obtain ⟨v0, vs0, d0, ds0, p0, q0, hargs, rfl, rfl, h0, r0⟩ := trodAll_cons hA
  obtain ⟨rfl, rfl, rfl⟩ := trodAll_nil r0
  obtain rfl : args = #[v0] := by cases args; simp_all
  obtain ⟨rfl, rfl⟩ := trodVars_none hV
  have h0k := h0
  have hlt0 : ∀ x ∈ p0, x.block < W.heap.size := fun x hx => by have := hW'.lt x (by simp [hx]); simpa using this
  obtain ⟨s0, rfl, rfl, rfl, ws0⟩ := Go.ChangeMaps.open_string Tryd.underlying9 (hval 0 9 v0 rfl rfl) h0
  have hs0 : s0.size ≤ 1048576 := bulk_str hk0 (by simp)
  clear hA0 hval0
  simp only [List.append_nil] at hW'
  refine (walk s0 hs0 W (tabs_of_laid hL)).mono fun e W' ⟨he, hg⟩ => ?_
  subst he
  exact ⟨_, rfl, _, _, _, [], _, [], hW', trodAll_cons_mk (shut_bool Tryd.underlying4 _) trodAll_mk0,
    (trodAll_cons_mk (Below.trod laidOut (by kernel_rfl) (of_decide_eq_true (by kernel_rfl)) h0k hg hlt0) trodAll_mk0), rfl, hg.frame _, fun h => nomatch h⟩

theorem over : Rows.WordsSplitsUptoSaid :=
  OpenClaim.holds_of_cond 3 Tryd.f3 rfl rfl rfl rfl rfl rfl rfl ⟨rfl, rfl, rfl, rfl, rfl⟩ rfl rfl rfl rfl rfl (by kernel_rfl) Tryd.func3 (by kernel_rfl)
    (of_decide_eq_true (by kernel_rfl)) (by unfold Func.isWrapper; first | (rw [if_pos (by decide +kernel)]; kernel_rfl) | (rw [if_neg (by decide +kernel)]; exact ⟨rfl, rfl⟩))
    (fun os started H enc _ I => by rw [OpenClaim.pre_eq_preRow]; exact lifted os started H enc I)

theorem proved : Rows.WordsSplitsUptoCardSaid :=
  Claim7.holds_tied_plain_at .later [] _ _ _ _ over (fun _ h => by cases h) (by kernel_rfl) (fun _ h => by cases h) wordsSplitsUpto_row_tie rfl ⟨rfl, rfl⟩ (by kernel_rfl) rfl
    (fun f fn hf hfn => by
      obtain rfl : f = 3 := Option.some.inj ((show Tryd.prog.funcNamed Rows.wordsSplitsUptoRow.func = some 3 by kernel_rfl).symm.trans hf) |>.symm
      obtain rfl : fn = Tryd.f3 := (Option.some.inj (Tryd.func3.symm.trans hfn)).symm
      exact ⟨by kernel_rfl, fun j t ht => by
        rw [Tryd.params3] at ht
        have hm : t ∈ [9] := by simpa using Array.mem_of_getElem? ht
        have hall : ([9].all fun u => !Tryd.prog.wantsStandIn u) = true := by kernel_rfl
        exact (show Tryd.prog.wantsStandIn t = false by simpa using List.all_eq_true.1 hall t hm)⟩)
    (by kernel_rfl)
end Go.Proofs.YthlmjfjkjjoimaaDoor.wordsSplits
