/-
  AesTags: every row of bytes has by every key just its CMAC tag. The law returns true for every input, and the input reads as it did.
  Conditions: none.
-/
import Derived.Test.YtfefkakdhaecpaaRows
import Derived.Test.YtfefkakdhaecpaaAeX
import Derived.SizedLaws
import Derived.Lib.SmallJoins
namespace Go.Proofs.Ytfefkakdhaecpaa.aesTags
open Go.ChangeShapes Go.WideShapes Go.ChangeAt Go.RowKit Go.Joins By Ae
set_option linter.unusedVariables false
set_option linter.unusedSimpArgs false

theorem own : ownKnob Try.prog.godebug = none := by kernel_rfl
theorem laidOut : laidOutB Try.prog = true := by kernel_rfl

set_option maxRecDepth 100000 in
set_option maxHeartbeats 2000000 in
theorem walk (v0 : Value) (n0 : Nat) (f0 : Nat → Nat) (v1 : Value) (n1 : Nat) (f1 : Nat → Nat) (w : World) (A0 : Arg w v0 n0 f0) (A1 : Arg w v1 n1 f1) :
    Calls Try.prog 4 #[v0, v1] w fun e w' => e = .returned (.bool true) ∧ Below w.heap.size w w' := by
  have H0 := Lib.hid A0
  have H1 := Lib.hid A1
  clear A0 A1
  go_enter Try.func4, Try.ntmps4
  go_wp2_with fail
  refine (awake_c _).mono ?_
  rintro e w1 ⟨rfl, hb⟩
  have B1 := Lib.hid hb
  clear hb
  go_wp2_with fail
  refine (CMAC_any (H0.out.below B1.out) (H1.out.below B1.out)).mono ?_
  rintro e w2 ⟨va, rfl, ca, hb⟩
  have CA := Lib.hid ca
  have B2 := Lib.hid (bstep B1.out hb)
  clear ca hb
  go_wp2_with fail
  refine (rCMAC_any (H0.out.below B2.out) (H1.out.below B2.out)).mono ?_
  rintro e w3 ⟨vb, rfl, cb, hb⟩
  have CB := Lib.hid cb
  have CA3 := Lib.hid (CA.out.below hb)
  have B3 := Lib.hid (bstep B2.out hb)
  clear cb hb CA
  go_wp2_with fail
  refine (fit_any H0.out B3.out).mono ?_
  rintro e w4 ⟨g4, rfl, hg4, bk, hb⟩
  have K4 := Lib.hid bk
  have CA4 := Lib.hid (CA3.out.below hb)
  have CB4 := Lib.hid (CB.out.below hb)
  have B4 := Lib.hid (bstep B3.out hb)
  clear bk hb CA3 CB
  go_wp2_with fail
  have K5 := K4
  have CA5 := CA4
  have CB5 := CB4
  have B5 := B4
  clear CA4 CB4 K4
  refine (CMAC_any (Bs.arg K5.out (by omega) (by omega)) (H1.out.below B5.out)).mono ?_
  rintro e w6 ⟨vc, rfl, cc, hb⟩
  have CC := Lib.hid cc
  have CA6 := Lib.hid (CA5.out.below hb)
  have CB6 := Lib.hid (CB5.out.below hb)
  have B6 := Lib.hid (bstep B5.out hb)
  clear cc hb CA5 CB5 K5
  go_wp2_with fail
  refine (fit_any H0.out B6.out).mono ?_
  rintro e w7 ⟨g7, rfl, hg7, bk, hb⟩
  have K7 := Lib.hid bk
  have CA7 := Lib.hid (CA6.out.below hb)
  have CB7 := Lib.hid (CB6.out.below hb)
  have CC7 := Lib.hid (CC.out.below hb)
  have B7 := Lib.hid (bstep B6.out hb)
  clear bk hb CA6 CB6 CC
  go_wp2_with fail
  have K8 := K7
  have CA8 := CA7
  have CB8 := CB7
  have CC8 := CC7
  have B8 := B7
  clear CA7 CB7 CC7 K7
  refine (rCMAC_any (Bs.arg K8.out (by omega) (by omega)) (H1.out.below B8.out)).mono ?_
  rintro e w9 ⟨vd, rfl, cd, hb⟩
  have ca := (CA8.out.below hb).here
  have cb := (CB8.out.below hb).here
  have cc := (CC8.out.below hb).here
  have cd' := cd.here
  have B9 := Lib.hid (bstep B8.out hb)
  clear cd hb CA8 CB8 CC8 K8
  generalize sC n0 f0 f1 n1 = S1 at *
  generalize sC 16 (pad0 f0 n0) f1 n1 = S2 at *
  generalize cC n0 = c1 at *
  generalize cC 16 = c2 at *
  go_wp2_with fail
  go_ret
  exact ⟨rfl, B9.out⟩

set_option maxRecDepth 100000 in
theorem lifted (os : Os) (started : os.Started) (H : Type) (enc : TypeId × Value → H) :
    ReturnsInHanded {} Try.checked os 4 .any (Rows.aesTagsSpec.pre6 enc Try.prog Try.f4 Rows.aesTagsRow.domain false) (Rows.aesTagsSpec.post enc Try.prog Try.f4 false true false false) := by
  refine returnsInHanded_of_change_sized (C := Try.checked) own started (by kernel_rfl) Try.func4
    (ChangeSpec.witness6 (enc := enc) (C := Try.checked) false ⟨#[], #[.slice none 0 0, .slice none 0 0], []⟩ 8 (by kernel_rfl) (by kernel_rfl) (by kernel_rfl) (by kernel_rfl)) ?_
  intro W base args ds gs before hval0 hW hcnd hsz0 _
  have hsz : (DataW.weightsEach Try.prog (Try.f4.params.toList ++ Rows.aesTagsSpec.plain.varTypes Try.prog) (ds ++ gs)).all (· ≤ reachBytes) = true := hsz0
  have hval : ∀ (j : Nat) t v, Try.f4.params[j]? = some t → args[j]? = some v → Value.okWide Try.prog W .any base t v := hval0
  have hW' := hW
  obtain ⟨p, q, hA0, hV, rfl, hfz, hnd⟩ := hW
  have hA : DataW.TrodAll enc Try.prog W 0 (fun _ => true) true Try.f4.params.toList args.toList ds p := hA0
  rw [Try.params4] at hA hval hsz
  obtain ⟨v0, vs0, d0, ds0, p0, q0, hargs, rfl, rfl, h0, r0⟩ := trodAll_cons hA
  obtain ⟨v1, vs1, d1, ds1, p1, q1, rfl, rfl, rfl, h1, r1⟩ := trodAll_cons r0
  obtain ⟨rfl, rfl, rfl⟩ := trodAll_nil r1
  obtain rfl : args = #[v0, v1] := by cases args; simp_all
  obtain ⟨rfl, rfl⟩ := trodVars_none hV
  have h0k := h0
  have hlt0 : ∀ x ∈ p0, x.block < W.heap.size := fun x hx => by have := hW'.lt x (by simp [hx]); simpa using this
  have hb0 : ∀ es sp, d0 = .slice es sp → (es.length + sp.length) * Try.prog.bytesOf 5 ≤ reachBytes := by
    intro es sp he
    exact sized_slice hsz (j := 0) (t := 22) (e := 5) rfl (by rw [he]; rfl) Try.underlying22
  have h1k := h1
  have hlt1 : ∀ x ∈ p1, x.block < W.heap.size := fun x hx => by have := hW'.lt x (by simp [hx]); simpa using this
  have hb1 : ∀ es sp, d1 = .slice es sp → (es.length + sp.length) * Try.prog.bytesOf 5 ≤ reachBytes := by
    intro es sp he
    exact sized_slice hsz (j := 1) (t := 22) (e := 5) rfl (by rw [he]; rfl) Try.underlying22
  obtain ⟨n0, f0, g0⟩ := open_bytes (hval 0 22 v0 rfl rfl) h0 hb0
  obtain ⟨n1, f1, g1⟩ := open_bytes (hval 1 22 v1 rfl rfl) h1 hb1
  clear hA0 hval0
  simp only [List.append_nil] at hW'
  refine (walk v0 n0 f0 v1 n1 f1 W g0 g1).mono fun e W' ⟨he, hg⟩ => ?_
  subst he
  exact ⟨_, rfl, _, _, _, [], _, [], hW', trodAll_cons_mk (shut_bool Try.underlying4 _) trodAll_mk0,
    (trodAll_cons_mk (Below.trod laidOut (by kernel_rfl) (of_decide_eq_true (by kernel_rfl)) h0k hg hlt0) (trodAll_cons_mk (Below.trod laidOut (by kernel_rfl) (of_decide_eq_true (by kernel_rfl)) h1k hg hlt1) trodAll_mk0)), rfl, hg.frame _, fun h => nomatch h⟩

theorem over : Rows.aesTagsRow.holds Try.pinned (OpenSpec.ofChange Rows.aesTagsSpec) :=
  OpenClaim.holds_of_wide 4 Try.f4 rfl rfl rfl rfl rfl rfl rfl ⟨rfl, rfl, rfl, rfl, rfl⟩ rfl rfl rfl rfl rfl (by kernel_rfl) Try.func4 (by kernel_rfl)
    (of_decide_eq_true (by kernel_rfl)) (by unfold Func.isWrapper; first | (rw [if_pos (by decide +kernel)]; kernel_rfl) | (rw [if_neg (by decide +kernel)]; exact ⟨rfl, rfl⟩))
    (fun os started H enc _ => lifted os started H enc)

theorem proved : Rows.AesTagsSaid :=
  over
end Go.Proofs.Ytfefkakdhaecpaa.aesTags
