/-
  HashHex: bytes in the base sixteen are read back as they were. The law returns true for every input, and the input reads as it did.
  Conditions: the tables of package hash that the row lists read as the program's text lays them (the card ties them).
-/
import Derived.Test.YtenlbjnoiamfiaaDoorRows
import Derived.Test.YtenlbjnoiamfiaaDoorCards
import Derived.Test.YtenlbjnoiamfiaaDoorTie
import Derived.Test.YtenlbjnoiamfiaaDoorHsN2
import Derived.SevenTiedAt
namespace Go.Proofs.YtenlbjnoiamfiaaDoor.hashHex
open Go.ChangeShapes Go.WideShapes Go.ChangeAt Go.RowKit Go.Joins Hs
set_option linter.unusedVariables false
set_option linter.unusedSimpArgs false

set_option maxRecDepth 100000 in
set_option maxHeartbeats 4000000 in
theorem walk (v : Value) (n : Nat) (f : Nat → Nat) (w : World) (G : Gl w) (A : Arg w v n f) :
    Calls Tryd.prog 5 #[v] w fun e w' => e = .returned (.bool true) ∧ Below w.heap.size w w' := by
  have HG := Lib.hid G
  have HA := Lib.hid A
  obtain ⟨a, cap, rfl, h1, h2, hf, h4, h5⟩ := A
  have HF := Lib.hid hf
  have H4 := Lib.hid h4
  clear G hf h4 h5
  go_enter Tryd.func5, Tryd.ntmps5
  go_wp2_with fail
  refine (awake_c _ HG.out).mono ?_
  rintro e w1 ⟨rfl, hb⟩
  have B1 := Lib.hid hb
  clear hb
  go_wp2_with fail
  refine (HA.out.hex B1.out).mono ?_
  rintro e w2 ⟨rfl, hb⟩
  have B2 := Lib.hid (bstep B1.out hb)
  clear hb
  have IX := Lib.hid (fun k (hk : k < n) w => idx_bs8 _ (2 * k) _ (hxL_get f k n hk).1 (dg_lt (by have := HF.out k; omega)) w)
  have IY := Lib.hid (fun k (hk : k < n) w => idx_bs8 _ (2 * k + 1) _ (hxL_get f k n hk).2 (dg_lt (by omega)) w)
  have SZ : (bs8 (hxL f n)).size = 2 * n := by rw [bs8_size, hxL_len]
  generalize bs8 (hxL f n) = S at *
  have k0 : (0 : Int) ≤ (n : Int) := by omega
  have k1 : (n : Int) ≤ 140737488355328 := by omega
  go_wp2_with fail
  go_loopw [4] (fun i wr => ∃ k : Nat, k ≤ n ∧ i = .int .i64 k ∧ Below w.heap.size w wr) (fun i _ => n - (intOf i).toNat)
  case atStart => exact ⟨0, by omega, rfl, B2.out⟩
  case round =>
    obtain ⟨k, hk, rfl, hb⟩ := hrel
    rename World => wr
    have HB := Lib.hid hb
    clear hb
    by_cases c : k < n
    · have e0 : decide ((k : Int) < (n : Int)) = true := by rw [decide_eq_true_iff]; omega
      obtain ⟨b, off, rfl, B⟩ := H4.out (by omega)
      have g := (B.below HB.out).2.2 k c
      have xl := HF.out k
      have I1 := IX.out k c
      have I2 := IY.out k c
      generalize f k = x at *
      have V1 := Lib.hid (fun w => value_c (x / 16) (by omega) w)
      have V2 := Lib.hid (fun w => value_c (x % 16) (by omega) w)
      rw [show ((2 * k : Nat) : Int) = 2 * (k : Int) from by omega] at I1
      rw [show ((2 * k + 1 : Nat) : Int) = 2 * (k : Int) + 1 from by omega] at I2
      have EQ : (((x / 16 : Nat) : Int) * 16 + ((x % 16 : Nat) : Int) != (x : Int)) = false := by simp; omega
      have c0 : (0 : Int) ≤ (k : Int) := by omega
      have c1 : (k : Int) < (n : Int) := by omega
      have W1 : IntKind.i64.wrap (2 * (k : Int)) = 2 * (k : Int) := wrap_in (by omega) (by omega)
      have W2 : IntKind.i64.wrap (2 * (k : Int) + 1) = 2 * (k : Int) + 1 := wrap_in (by omega) (by omega)
      have x0 : (x : Int) < 256 := by omega
      have d1 : ((x / 16 : Nat) : Int) < 16 := by omega
      have d2 : ((x % 16 : Nat) : Int) < 16 := by omega
      generalize x / 16 = xa at *
      generalize x % 16 = xb at *
      go_wp2_with fail
      go_quiet ((go_at_call 15; first | (with_reducible exact Calls.quiet_of_same (V1.out _)) | (with_reducible exact Calls.quiet_of_same (V2.out _))))
      go_wp2_with fail
      go_roundw
      case rel => exact ⟨k + 1, by omega, by go_num, HB.out.trans ((bdrew (brefl _) _).mono HB.out.size)⟩
      case measure => simp [intOf]; omega
    · have e0 : decide ((k : Int) < (n : Int)) = false := by rw [decide_eq_false_iff_not]; omega
      go_wp2_with fail
      go_ret
      exact ⟨rfl, HB.out⟩

set_option maxRecDepth 100000 in
theorem lifted (os : Os) (started : os.Started) (H : Type) (enc : TypeId × Value → H) :
    ReturnsInHanded {} Tryd.checked os 5 .any (fun w args => (Rows.hashHexSpec.pre enc Tryd.prog Tryd.f5 [] false w args ∧ laidMetH Tryd.prog Rows.hashMDRow.laid w) ∧ sizedMet enc Tryd.prog Tryd.f5 (OpenSpec.ofChange Rows.hashHexSpec) false w args)
      (Rows.hashHexSpec.post enc Tryd.prog Tryd.f5 false true false false) := by
  refine returnsInHanded_of_change_and (C := Tryd.checked) (X := fun w _ => laidMetH Tryd.prog Rows.hashMDRow.laid w) (fun _ _ _ hh h => h.of_heap hh) own started (by kernel_rfl) Tryd.func5
    (ChangeSpec.witness_shaped (enc := enc) (C := Tryd.checked) (os := os) (X := fun w _ => laidMetH Tryd.prog Rows.hashMDRow.laid w) false (World.doorLaid Tryd.prog 28 os) #[.slice none 0 0] 8 rfl (World.shaped_of_RefB (by kernel_rfl) (by kernel_rfl)) (by kernel_rfl) (by kernel_rfl) (by kernel_rfl) (door_met os _)) ?_
  intro W base args ds gs before hval0 hW _ hsz0 hL _
  have hsz : (DataW.weightsEach Tryd.prog (Tryd.f5.params.toList ++ Rows.hashHexSpec.plain.varTypes Tryd.prog) (ds ++ gs)).all (· ≤ reachBytes) = true := hsz0
  have hval : ∀ (j : Nat) t v, Tryd.f5.params[j]? = some t → args[j]? = some v → Value.okWide Tryd.prog W .any base t v := hval0
  have hW' := hW
  obtain ⟨p, q, hA0, hV, rfl, hfz, hnd⟩ := hW
  have hA : DataW.TrodAll enc Tryd.prog W 0 (fun _ => true) true Tryd.f5.params.toList args.toList ds p := hA0
  rw [Tryd.params5] at hA hval hsz
  obtain ⟨v0, vs0, d0, ds0, p0, q0, hargs, rfl, rfl, h0, r0⟩ := trodAll_cons hA
  obtain ⟨rfl, rfl, rfl⟩ := trodAll_nil r0
  obtain rfl : args = #[v0] := by cases args; simp_all
  obtain ⟨rfl, rfl⟩ := trodVars_none hV
  have h0k := h0
  have hlt0 : ∀ x ∈ p0, x.block < W.heap.size := fun x hx => by have := hW'.lt x (by simp [hx]); simpa using this
  have hb : ∀ es sp, d0 = .slice es sp → (es.length + sp.length) * Tryd.prog.bytesOf 5 ≤ reachBytes := by
    intro es sp he
    exact sized_slice hsz (j := 0) (t := 22) (e := 5) rfl (by rw [he]; rfl) Tryd.underlying22
  obtain ⟨n0, f0, g0⟩ := open_bytes (hval 0 22 v0 rfl rfl) h0 hb
  clear hA0 hval0
  simp only [List.append_nil] at hW'
  refine (walk v0 n0 f0 W (gl_of_laid hL) g0).mono fun e W' ⟨he, hg⟩ => ?_
  subst he
  exact ⟨_, rfl, _, _, _, [], _, [], hW', trodAll_cons_mk (shut_bool Tryd.underlying4 _) trodAll_mk0,
    (trodAll_cons_mk (Below.trod laidOut (by kernel_rfl) (of_decide_eq_true (by kernel_rfl)) h0k hg hlt0) trodAll_mk0), rfl, hg.frame _, fun h => nomatch h⟩

theorem over : Rows.HashHexSaid :=
  OpenClaim.holds_of_wide 5 Tryd.f5 rfl rfl rfl rfl rfl rfl rfl ⟨rfl, rfl, rfl, rfl, rfl⟩ rfl rfl rfl rfl rfl (by kernel_rfl) Tryd.func5 (by kernel_rfl)
    (of_decide_eq_true (by kernel_rfl)) (by unfold Func.isWrapper; first | (rw [if_pos (by decide +kernel)]; kernel_rfl) | (rw [if_neg (by decide +kernel)]; exact ⟨rfl, rfl⟩))
    (fun os started H enc _ => lifted os started H enc)

theorem proved : Rows.HashHexCardSaid :=
  Claim7.holds_tied_plain_at .later [] [.data, .data, .data] true Rows.hashHexCard.stood.harness false
    over (fun _ h => by cases h) (by kernel_rfl) (fun _ h => by cases h) hashHex_row_tie rfl ⟨rfl, rfl⟩ (by kernel_rfl) rfl
    (fun f fn hf hfn => by
      obtain rfl : f = 5 := Option.some.inj ((show Tryd.prog.funcNamed Rows.hashHexRow.func = some 5 by kernel_rfl).symm.trans hf) |>.symm
      obtain rfl : fn = Tryd.f5 := (Option.some.inj (Tryd.func5.symm.trans hfn)).symm
      exact ⟨by kernel_rfl, fun j t ht => by
        rw [Tryd.params5] at ht
        have hm : t ∈ [22] := by simpa using Array.mem_of_getElem? ht
        have hall : ([22].all fun u => !Tryd.prog.wantsStandIn u) = true := by kernel_rfl
        exact (show Tryd.prog.wantsStandIn t = false by simpa using List.all_eq_true.1 hall t hm)⟩)
    (by kernel_rfl)
end Go.Proofs.YtenlbjnoiamfiaaDoor.hashHex
