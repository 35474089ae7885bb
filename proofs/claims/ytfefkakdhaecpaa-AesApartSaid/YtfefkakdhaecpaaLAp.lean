/-
  AesApart: two blocks that differ are enciphered to blocks that differ. The law returns true for every input, and the input reads as it did.
  Conditions: none.
-/
import Derived.Test.YtfefkakdhaecpaaRows
import Derived.Test.YtfefkakdhaecpaaAeY
import Derived.SizedLaws
import Derived.Lib.SmallJoins
namespace Go.Proofs.Ytfefkakdhaecpaa.aesApart
open Go.ChangeShapes Go.WideShapes Go.ChangeAt Go.RowKit Go.Joins By Ae
set_option linter.unusedVariables false
set_option linter.unusedSimpArgs false

theorem own : ownKnob Try.prog.godebug = none := by kernel_rfl
theorem laidOut : laidOutB Try.prog = true := by kernel_rfl

set_option maxRecDepth 100000 in
set_option maxHeartbeats 2000000 in
theorem walk (v0 : Value) (n0 : Nat) (f0 : Nat → Nat) (v1 : Value) (n1 : Nat) (f1 : Nat → Nat) (v2 : Value) (n2 : Nat) (f2 : Nat → Nat) (w : World) (A0 : Arg w v0 n0 f0) (A1 : Arg w v1 n1 f1) (A2 : Arg w v2 n2 f2) :
    Calls Try.prog 5 #[v0, v1, v2] w fun e w' => e = .returned (.bool true) ∧ Below w.heap.size w w' := by
  have H0 := Lib.hid A0
  have H1 := Lib.hid A1
  have H2 := Lib.hid A2
  clear A0 A1 A2
  go_enter Try.func5, Try.ntmps5
  go_wp2_with fail
  refine (awake_c _).mono ?_
  rintro e w1 ⟨rfl, hb⟩
  have B1 := Lib.hid hb
  clear hb
  go_wp2_with fail
  refine (fit_any H1.out B1.out).mono ?_
  rintro e w2 ⟨gx, rfl, hgx, bx, hb⟩
  have X2 := Lib.hid bx
  have B2 := Lib.hid (bstep B1.out hb)
  clear bx hb
  go_wp2_with fail
  refine (fit_any H2.out B2.out).mono ?_
  rintro e w3 ⟨gy, rfl, hgy, by', hb⟩
  have X3 := Lib.hid (X2.out.below hb)
  have Y3 := Lib.hid by'
  have B3 := Lib.hid (bstep B2.out hb)
  clear by' hb X2
  go_wp2_with fail
  refine (fit_any H0.out B3.out).mono ?_
  rintro e w4 ⟨gk, rfl, hgk, bk, hb⟩
  have X4 := Lib.hid (X3.out.below hb)
  have Y4 := Lib.hid (Y3.out.below hb)
  have K4 := Lib.hid bk
  have B4 := Lib.hid (bstep B3.out hb)
  clear bk hb X3 Y3
  go_wp2_with fail
  refine (Encipher_c (some ⟨gk, 0, none⟩) (some ⟨gx, 0, none⟩) 16 16 (pad0 f0 n0) (pad0 f1 n1) w4 (fun _ => ⟨gk, 0, rfl, K4.out⟩) (fun _ => ⟨gx, 0, rfl, X4.out⟩) (fun i _ => K4.out.2.1 i) (fun i _ => X4.out.2.1 i)).mono ?_
  rintro e w5 ⟨gp, rfl, hgp, ap, hb⟩
  have P5 := Lib.hid (ap.bs (fun _ _ => rfl) (enc_all (kW_all K4.out.2.1)))
  have X5 := Lib.hid (X4.out.below hb)
  have Y5 := Lib.hid (Y4.out.below hb)
  have B5 := Lib.hid (bstep B4.out hb)
  clear ap hb X4 Y4 K4
  go_wp2_with fail
  refine (fit_any H0.out B5.out).mono ?_
  rintro e w6 ⟨gk2, rfl, hgk2, bk, hb⟩
  have P6 := Lib.hid (P5.out.below hb)
  have X6 := Lib.hid (X5.out.below hb)
  have Y6 := Lib.hid (Y5.out.below hb)
  have K6 := Lib.hid bk
  have B6 := Lib.hid (bstep B5.out hb)
  clear bk hb X5 Y5 P5
  go_wp2_with fail
  refine (Encipher_c (some ⟨gk2, 0, none⟩) (some ⟨gy, 0, none⟩) 16 16 (pad0 f0 n0) (pad0 f2 n2) w6 (fun _ => ⟨gk2, 0, rfl, K6.out⟩) (fun _ => ⟨gy, 0, rfl, Y6.out⟩) (fun i _ => K6.out.2.1 i) (fun i _ => Y6.out.2.1 i)).mono ?_
  rintro e w7 ⟨gq, rfl, hgq, aq, hb⟩
  have cq := (Cv.bs (cap := 16) (aq.bs (fun _ _ => rfl) (enc_all (kW_all K6.out.2.1)))).here
  have cp := (Cv.bs (cap := 16) (P6.out.below hb)).here
  have cx := (Cv.bs (cap := 16) (X6.out.below hb)).here
  have cy := (Cv.bs (cap := 16) (Y6.out.below hb)).here
  have EQ := enc_same (kW_all K6.out.2.1) X6.out.2.1 Y6.out.2.1
  have B7 := Lib.hid (bstep B6.out hb)
  clear aq hb X6 Y6 P6 K6
  generalize bs8 (bl (enc (kW (pad0 f0 n0)) (pad0 f1 n1)) 16) = SP at *
  generalize bs8 (bl (enc (kW (pad0 f0 n0)) (pad0 f2 n2)) 16) = SQ at *
  generalize bs8 (bl (pad0 f1 n1) 16) = SX at *
  generalize bs8 (bl (pad0 f2 n2) 16) = SY at *
  go_wp2_with fail
  go_ret
  exact ⟨rfl, B7.out⟩

set_option maxRecDepth 100000 in
theorem lifted (os : Os) (started : os.Started) (H : Type) (enc : TypeId × Value → H) :
    ReturnsInHanded {} Try.checked os 5 .any (Rows.aesApartSpec.pre6 enc Try.prog Try.f5 Rows.aesApartRow.domain false) (Rows.aesApartSpec.post enc Try.prog Try.f5 false true false false) := by
  refine returnsInHanded_of_change_sized (C := Try.checked) own started (by kernel_rfl) Try.func5
    (ChangeSpec.witness6 (enc := enc) (C := Try.checked) false ⟨#[], #[.slice none 0 0, .slice none 0 0, .slice none 0 0], []⟩ 8 (by kernel_rfl) (by kernel_rfl) (by kernel_rfl) (by kernel_rfl)) ?_
  intro W base args ds gs before hval0 hW hcnd hsz0 _
  have hsz : (DataW.weightsEach Try.prog (Try.f5.params.toList ++ Rows.aesApartSpec.plain.varTypes Try.prog) (ds ++ gs)).all (· ≤ reachBytes) = true := hsz0
  have hval : ∀ (j : Nat) t v, Try.f5.params[j]? = some t → args[j]? = some v → Value.okWide Try.prog W .any base t v := hval0
  have hW' := hW
  obtain ⟨p, q, hA0, hV, rfl, hfz, hnd⟩ := hW
  have hA : DataW.TrodAll enc Try.prog W 0 (fun _ => true) true Try.f5.params.toList args.toList ds p := hA0
  rw [Try.params5] at hA hval hsz
  obtain ⟨v0, vs0, d0, ds0, p0, q0, hargs, rfl, rfl, h0, r0⟩ := trodAll_cons hA
  obtain ⟨v1, vs1, d1, ds1, p1, q1, rfl, rfl, rfl, h1, r1⟩ := trodAll_cons r0
  obtain ⟨v2, vs2, d2, ds2, p2, q2, rfl, rfl, rfl, h2, r2⟩ := trodAll_cons r1
  obtain ⟨rfl, rfl, rfl⟩ := trodAll_nil r2
  obtain rfl : args = #[v0, v1, v2] := by cases args; simp_all
  obtain ⟨rfl, rfl⟩ := trodVars_none hV
  have h0k := h0
  have hlt0 : ∀ x ∈ p0, x.block < W.heap.size := fun x hx => by have := hW'.lt x (by simp [hx]); simpa using this
  have hb0 : ∀ es sp, d0 = .slice es sp → (es.length + sp.length) * Try.prog.bytesOf 5 ≤ reachBytes := by
    intro es sp he
    exact sized_slice hsz (j := 0) (t := 22) (e := 5) rfl (by rw [he]; rfl) Try.underlying22
  have h1k := h1
  have hlt1 : ∀ x ∈ p1, x.block < W.heap.size := fun x hx => by have := hW'.lt x (by simp [hx]); simpa using this
  have hb1 : ∀ es sp, d1 = .slice es sp → (es.length + sp.length) * Try.prog.bytesOf 5 ≤ reachBytes := by
    intro es sp he
    exact sized_slice hsz (j := 1) (t := 22) (e := 5) rfl (by rw [he]; rfl) Try.underlying22
  have h2k := h2
  have hlt2 : ∀ x ∈ p2, x.block < W.heap.size := fun x hx => by have := hW'.lt x (by simp [hx]); simpa using this
  have hb2 : ∀ es sp, d2 = .slice es sp → (es.length + sp.length) * Try.prog.bytesOf 5 ≤ reachBytes := by
    intro es sp he
    exact sized_slice hsz (j := 2) (t := 22) (e := 5) rfl (by rw [he]; rfl) Try.underlying22
  obtain ⟨n0, f0, g0⟩ := open_bytes (hval 0 22 v0 rfl rfl) h0 hb0
  obtain ⟨n1, f1, g1⟩ := open_bytes (hval 1 22 v1 rfl rfl) h1 hb1
  obtain ⟨n2, f2, g2⟩ := open_bytes (hval 2 22 v2 rfl rfl) h2 hb2
  clear hA0 hval0
  simp only [List.append_nil] at hW'
  refine (walk v0 n0 f0 v1 n1 f1 v2 n2 f2 W g0 g1 g2).mono fun e W' ⟨he, hg⟩ => ?_
  subst he
  exact ⟨_, rfl, _, _, _, [], _, [], hW', trodAll_cons_mk (shut_bool Try.underlying4 _) trodAll_mk0,
    (trodAll_cons_mk (Below.trod laidOut (by kernel_rfl) (of_decide_eq_true (by kernel_rfl)) h0k hg hlt0) (trodAll_cons_mk (Below.trod laidOut (by kernel_rfl) (of_decide_eq_true (by kernel_rfl)) h1k hg hlt1) (trodAll_cons_mk (Below.trod laidOut (by kernel_rfl) (of_decide_eq_true (by kernel_rfl)) h2k hg hlt2) trodAll_mk0))), rfl, hg.frame _, fun h => nomatch h⟩

theorem over : Rows.aesApartRow.holds Try.pinned (OpenSpec.ofChange Rows.aesApartSpec) :=
  OpenClaim.holds_of_wide 5 Try.f5 rfl rfl rfl rfl rfl rfl rfl ⟨rfl, rfl, rfl, rfl, rfl⟩ rfl rfl rfl rfl rfl (by kernel_rfl) Try.func5 (by kernel_rfl)
    (of_decide_eq_true (by kernel_rfl)) (by unfold Func.isWrapper; first | (rw [if_pos (by decide +kernel)]; kernel_rfl) | (rw [if_neg (by decide +kernel)]; exact ⟨rfl, rfl⟩))
    (fun os started H enc _ => lifted os started H enc)

theorem proved : Rows.AesApartSaid :=
  over
end Go.Proofs.Ytfefkakdhaecpaa.aesApart
