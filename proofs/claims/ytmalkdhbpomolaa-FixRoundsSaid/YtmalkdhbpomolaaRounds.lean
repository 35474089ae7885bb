/-
  FixRounds: rounding up and down differ by one at most, and turn about with the sign: the law returns true for every input, and the input reads as it did.
  Conditions: none.
-/
import Derived.Test.YtmalkdhbpomolaaRows
import Derived.Test.YtmalkdhbpomolaaFxW
import Derived.ProofKit
import Derived.OpenShut
namespace Go.Proofs.Ytmalkdhbpomolaa.fixRounds
open Go.ChangeShapes Go.WideShapes Go.ChangeAt Go.RowKit Fx
set_option linter.unusedVariables false

theorem own : ownKnob Try.prog.godebug = none := by kernel_rfl

theorem szp_near (x d : Nat) : szp x d false ≤ szp x d true ∧ szp x d true ≤ szp x d false + 1 := by
  unfold szp
  (repeat' split) <;> simp_all <;> omega
theorem szp_zero (d : Nat) (up : Bool) : szp 0 d up = 0 := by
  unfold szp; simp
theorem szp_same (n d : Nat) (up : Bool) (h : 0 < d) (hn : n ≤ 2305843009213693952) : szp (n * d) d up = n := by
  have h1 : n * d / d = n := Nat.mul_div_cancel _ h
  have h2 : n * d % d = 0 := Nat.mul_mod_left _ _
  unfold szp
  rw [h1, h2, if_neg (fun h : up = true ∧ (0 : Nat) ≠ 0 => h.2 rfl)]
  split <;> omega

theorem prt_near (a m d : Int) : 0 ≤ prt a m d true - prt a m d false ∧ prt a m d true - prt a m d false ≤ 1 := by
  unfold prt
  have h1 := szp_near ((-a).toNat * m.toNat) d.toNat
  have h2 := szp_near (a.toNat * m.toNat) d.toNat
  by_cases h : a < 0
  · rw [if_pos h, if_pos h]; simp only [Bool.not_true, Bool.not_false]; omega
  · rw [if_neg h, if_neg h]; omega
theorem prt_turn (a m d : Int) : prt (-a) m d true = -prt a m d false := by
  unfold prt
  by_cases h : a < 0
  · rw [if_pos h, if_neg (by omega)]; simp
  · rw [if_neg h]
    by_cases h2 : a = 0
    · subst h2; simp [szp_zero]
    · rw [if_pos (by omega), Int.neg_neg]; simp
theorem prt_same (a d : Int) (h : 1 ≤ d) (h1 : -2305843009213693952 ≤ a) (h2 : a ≤ 2305843009213693952) : prt a d d false = a := by
  unfold prt
  split
  · rw [szp_same _ _ _ (by omega) (by omega)]; omega
  · rw [szp_same _ _ _ (by omega) (by omega)]; omega
theorem prt_none (a d : Int) : prt a 0 d true = 0 := by
  unfold prt
  simp [szp_zero]

set_option maxRecDepth 100000 in
set_option maxHeartbeats 1000000 in
theorem walk (a0 : Int) (a1 : Int) (a2 : Int) (w0 : (Lit.int .i64 a0).wf = true) (w1 : (Lit.int .i64 a1).wf = true) (w2 : (Lit.int .i64 a2).wf = true) (w : World) :
    Calls Try.prog 7 #[.int .i64 a0, .int .i64 a1, .int .i64 a2] w fun e w' => e = .returned (.bool true) ∧ Below w.heap.size w w' := by
  by_cases h : okP a0 a1 a2
  · have N := prt_near a0 a1 a2
    have R := prt_range a0 a1 a2 true
    have R' := prt_range a0 a1 a2 false
    have T := Lib.hid (prt_turn a0 a1 a2)
    have S := Lib.hid (prt_same a0 a2 h.2.2.1 h.1.1 h.1.2)
    have Z := Lib.hid (prt_none a0 a2)
    have H := Lib.hid h
    have b1 := h.1.1
    have b2 := h.1.2
    clear h w0 w1 w2
    go_enter Try.func7, Try.ntmps7
    go_wp2_with fail
    refine (awake_c _).mono ?_
    rintro e wa ⟨rfl, hb⟩
    go_wp2_with fail
    refine (Part_ok _ _ _ _ _ H.out).mono ?_
    rintro e w1 ⟨rfl, n1, rfl⟩
    go_wp2_with fail
    refine (Part_ok _ _ _ _ _ H.out).mono ?_
    rintro e w1 ⟨rfl, n2, rfl⟩
    go_wp2_with fail
    refine (Part_ok _ _ _ _ _ (by have h := H.out; unfold okP at *; omega)).mono ?_
    rintro e w1 ⟨rfl, n3, rfl⟩
    rw [T.out]
    go_wp2_with fail
    refine (Part_ok _ _ _ _ _ (by have h := H.out; unfold okP at *; omega)).mono ?_
    rintro e w1 ⟨rfl, n4, rfl⟩
    rw [S.out]
    go_wp2_with fail
    refine (Part_ok _ _ _ _ _ (by have h := H.out; unfold okP at *; omega)).mono ?_
    rintro e w1 ⟨rfl, n5, rfl⟩
    rw [Z.out]
    go_wp2_with fail
    go_ret
    exact ⟨rfl, bdrew hb _⟩
  · have H := Lib.hid h
    clear h w0 w1 w2
    go_enter Try.func7, Try.ntmps7
    go_wp2_with fail
    refine (awake_c _).mono ?_
    rintro e wa ⟨rfl, hb⟩
    go_wp2_with fail
    refine (Part_bad _ _ _ _ _ H.out).mono ?_
    rintro e w1 ⟨rfl, rfl⟩
    go_wp2_with fail
    refine (Part_bad _ _ _ _ _ H.out).mono ?_
    rintro e w1 ⟨rfl, rfl⟩
    go_wp2_with fail
    go_ret
    exact ⟨rfl, hb⟩

set_option maxRecDepth 100000 in
theorem lifted (os : Os) (started : os.Started) (H : Type) (enc : TypeId × Value → H) :
    ReturnsInHanded {} Try.checked os 7 .any (Rows.fixRoundsSpec.pre6 enc Try.prog Try.f7 Rows.fixRoundsRow.domain false) (Rows.fixRoundsSpec.post enc Try.prog Try.f7 false true false false) := by
  refine returnsInHanded_of_change (C := Try.checked) own started (by kernel_rfl) Try.func7
    (ChangeSpec.witness6 (enc := enc) (C := Try.checked) false ⟨#[], #[.int .i64 0, .int .i64 0, .int .i64 0], []⟩ 8 (by kernel_rfl) (by kernel_rfl) (by kernel_rfl) (by kernel_rfl)) ?_
  intro W base args ds gs before hval0 hW hcnd _
  have hval : ∀ (j : Nat) t v, Try.f7.params[j]? = some t → args[j]? = some v → Value.okWide Try.prog W .any base t v := hval0
  have hW' := hW
  obtain ⟨p, q, hA0, hV, rfl, hfz, hnd⟩ := hW
  have hA : DataW.TrodAll enc Try.prog W 0 (fun _ => true) true Try.f7.params.toList args.toList ds p := hA0
  rw [Try.params7] at hA hval
  obtain ⟨v0, vs0, d0, ds0, p0, q0, hargs, rfl, rfl, h0, r0⟩ := trodAll_cons hA
  obtain ⟨v1, vs1, d1, ds1, p1, q1, rfl, rfl, rfl, h1, r1⟩ := trodAll_cons r0
  obtain ⟨v2, vs2, d2, ds2, p2, q2, rfl, rfl, rfl, h2, r2⟩ := trodAll_cons r1
  obtain ⟨rfl, rfl, rfl⟩ := trodAll_nil r2
  obtain rfl : args = #[v0, v1, v2] := by cases args; simp_all
  obtain ⟨rfl, rfl⟩ := trodVars_none hV
  obtain ⟨a0, rfl, rfl, rfl, w0⟩ := open_int Try.underlying22 (hval 0 22 v0 rfl rfl) h0
  obtain ⟨a1, rfl, rfl, rfl, w1⟩ := open_int Try.underlying3 (hval 1 3 v1 rfl rfl) h1
  obtain ⟨a2, rfl, rfl, rfl, w2⟩ := open_int Try.underlying3 (hval 2 3 v2 rfl rfl) h2
  clear hA0 hval0
  simp only [List.append_nil] at hW'
  refine (walk a0 a1 a2 w0 w1 w2 W).mono fun e W' ⟨he, hg⟩ => ?_
  subst he
  exact ⟨_, rfl, _, _, _, [], [], [], hW', trodAll_cons_mk (shut_bool Try.underlying4 _) trodAll_mk0,
    trodAll_cons_mk (shut_int Try.underlying22 w0) (trodAll_cons_mk (shut_int Try.underlying3 w1) (trodAll_cons_mk (shut_int Try.underlying3 w2) trodAll_mk0)), rfl, hg.frame _, fun h => nomatch h⟩

theorem over : Rows.fixRoundsRow.holds Try.pinned (OpenSpec.ofChange Rows.fixRoundsSpec) :=
  OpenClaim.holds_of_wide 7 Try.f7 rfl rfl rfl rfl rfl rfl rfl ⟨rfl, rfl, rfl, rfl, rfl⟩ rfl rfl rfl rfl rfl (by kernel_rfl) Try.func7 (by kernel_rfl)
    (of_decide_eq_true (by kernel_rfl)) (by unfold Func.isWrapper; first | (rw [if_pos (by decide +kernel)]; kernel_rfl) | (rw [if_neg (by decide +kernel)]; exact ⟨rfl, rfl⟩))
    (fun os started H enc _ => lifted os started H enc)

theorem proved : Rows.FixRoundsSaid :=
  over
end Go.Proofs.Ytmalkdhbpomolaa.fixRounds
