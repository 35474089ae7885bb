/-
  VoteAll: Every vote is taken just as the document says. The law returns true for every input, and the input reads as it did.
  Conditions: none.
-/
import Derived.Test.YtkmbeogmgehnfaaRows
import Derived.Test.YtkmbeogmgehnfaaVoZ
import Derived.SizedLaws
import Derived.Lib.SmallJoins
namespace Go.Proofs.Ytkmbeogmgehnfaa.voteAll
open Go.ChangeShapes Go.WideShapes Go.ChangeAt Go.RowKit Go.Joins Fl Hu Vo
set_option linter.unusedVariables false
set_option linter.unusedSimpArgs false

theorem own : ownKnob Try.prog.godebug = none := by kernel_rfl
theorem laidOut : laidOutB Try.prog = true := by kernel_rfl

theorem inA_len (L : List Cd) : (inA L).1.2.length ≤ L.length := by
  unfold inA
  split
  · split
    · exact tru_len _ _ _ _
    · simp
  · simp
theorem KP_one {L : List Cd} {S : List Int} {T T' : List Nat} (h : (clE L S ≠ 0 → T = []) ∧ (clE L S = 0 → ∀ N, S = ints N → Surv L N T)) (k : (clE L S ≠ 0 → T' = []) ∧ (clE L S = 0 → ∀ N, S = ints N → Surv L N T')) : T = T' ∧ T.length ≤ S.length := by
  by_cases z : clE L S = 0
  · obtain ⟨ok, N, rfl, hN, nd⟩ := chE_ok (clE_zero z).1
    have a := h.2 z N rfl
    refine ⟨a.one (k.2 z N rfl), ?_⟩
    rw [ints_len]
    exact (a.sub nd).2.2.2
  · rw [h.1 z, k.1 z]
    exact ⟨rfl, by simp⟩
set_option maxRecDepth 100000 in
set_option maxHeartbeats 8000000 in
theorem walk (pc : PC) (v : Value) (L : List Cd) (sv : Value) (S : List Int) (w : World) (g0 : Cs w v L ∧ (∀ c ∈ L, i64C c) ∧ L.length * 32 ≤ 140737488351232) (g1 : Is w sv S ∧ (∀ x ∈ S, -9223372036854775808 ≤ x ∧ x ≤ 9223372036854775807) ∧ S.length * 8 ≤ 140737488351232) :
    Calls Try.prog 3 #[v, sv] w fun e w' => e = .returned (.bool true) ∧ Below w.heap.size w w' := by
  obtain ⟨hC, _, hN⟩ := g0
  obtain ⟨hI, _, hM⟩ := g1
  have hN' : L.length ≤ 8796093022208 := by omega
  have hM' : S.length ≤ 35184372088832 := by omega
  have AW := Lib.hid (awake16_c pc)
  have P1 := Lib.hid (fun w' (q : Below w.heap.size w w') => pc.inter w' v L (hC.below q) hN')
  have R1 := Lib.hid (fun w' (q : Below w.heap.size w w') => rIntersect_c (hC.below q) hN')
  have P2 := Lib.hid (fun w' (q : Below w.heap.size w w') => pc.clus w' v sv L S (hC.below q) (hI.below q) hN' hM')
  have R2 := Lib.hid (fun w' (q : Below w.heap.size w w') => rCluster_c (hC.below q) (hI.below q) hN' hM')
  have P3 := Lib.hid (fun w' (q : Below w.heap.size w w') => pc.comb w' v sv L S (hC.below q) (hI.below q) hN' hM')
  have R3 := Lib.hid (fun w' (q : Below w.heap.size w w') => rCombine_c (hC.below q) (hI.below q) hN' hM')
  have LT := Lib.hid (Nat.le_trans (inA_len L) hN')
  have KO := Lib.hid (fun T T' h k => KP_one (L := L) (S := S) (T := T) (T' := T') h k)
  unfold IP at P1 R1
  unfold KP at P2 R2
  unfold coE at P3 R3
  generalize (inA L).1.1.1 = h1 at *
  generalize (inA L).1.1.2 = h2 at *
  generalize (inA L).1.2 = T1 at *
  generalize (inA L).2 = h3 at *
  generalize (coA L S).1.1 = o1 at *
  generalize (coA L S).1.2 = o2 at *
  generalize (coA L S).2 = o3 at *
  generalize clE L S = ce at *
  clear pc hC hI hN hM hN'
  go_enter Try.func3, Try.ntmps3
  go_wp2_with fail
  refine (AW.out _).mono ?_
  rintro e w1 ⟨rfl, hb⟩
  have B1 := Lib.hid hb
  clear hb AW
  go_wp2_with fail
  refine (P1.out _ B1.out).mono ?_
  rintro e w2 ⟨⟨va, rfl, oa⟩, hb⟩
  have hb2 := balloc hb (.cells #[.int .i64 h1, .int .i64 h2] 27)
  have B2 := Lib.hid (bstep B1.out hb2)
  have N2 := Lib.hid (new2 w2 h1 h2 27)
  have A2 := Lib.hid (oa.is.below (balloc (brefl w2) (.cells #[.int .i64 h1, .int .i64 h2] 27)))
  clear hb hb2 B1 P1 oa
  go_wp2_with fail
  refine (R1.out _ B2.out).mono ?_
  rintro e w3 ⟨⟨vb, rfl, ob⟩, hb⟩
  have hb2 := balloc hb (.cells #[.int .i64 h1, .int .i64 h2] 27)
  have B3 := Lib.hid (bstep B2.out hb2)
  have N3 := Lib.hid (N2.out.below hb2)
  have A3 := Lib.hid (A2.out.below hb2)
  have M3 := Lib.hid (new2 w3 h1 h2 27)
  have C3 := Lib.hid (ob.is.below (balloc (brefl w3) (.cells #[.int .i64 h1, .int .i64 h2] 27)))
  clear hb hb2 B2 N2 A2 R1 ob
  go_wp2_with fail
  refine (P2.out _ B3.out).mono ?_
  rintro e w4 ⟨⟨vc, T2, rfl, oc, k1, k2⟩, hb⟩
  have B4 := Lib.hid (bstep B3.out hb)
  have N4 := Lib.hid (N3.out.below hb)
  have A4 := Lib.hid (A3.out.below hb)
  have M4 := Lib.hid (M3.out.below hb)
  have C4 := Lib.hid (C3.out.below hb)
  have D4 := Lib.hid oc.is
  have KA := Lib.hid (And.intro k1 k2)
  clear hb B3 N3 A3 M3 C3 P2 oc k1 k2
  go_wp2_with fail
  refine (R2.out _ B4.out).mono ?_
  rintro e w5 ⟨⟨vd, T3, rfl, od, k1, k2⟩, hb⟩
  obtain ⟨e23, l2⟩ := KO.out T2 T3 KA.out ⟨k1, k2⟩
  subst e23
  have L2 := Lib.hid (Nat.le_trans l2 hM')
  have B5 := Lib.hid (bstep B4.out hb)
  have N5 := Lib.hid (N4.out.below hb)
  have A5 := Lib.hid (A4.out.below hb)
  have M5 := Lib.hid (M4.out.below hb)
  have C5 := Lib.hid (C4.out.below hb)
  have D5 := Lib.hid (D4.out.below hb)
  have E5 := Lib.hid od.is
  clear hb B4 N4 A4 M4 C4 D4 R2 od k1 k2 l2 KA KO
  go_wp2_with fail
  refine (P3.out _ B5.out).mono ?_
  rintro e w6 ⟨rfl, hb⟩
  have B6 := Lib.hid (bstep B5.out hb)
  have K6 := Lib.hid hb
  clear hb P3 B5
  go_wp2_with fail
  refine (R3.out _ B6.out).mono ?_
  rintro e w7 ⟨rfl, hb⟩
  have B7 := Lib.hid (bstep B6.out hb)
  have K7 := bstep K6.out hb
  have N7 := Lib.hid (N5.out.below K7)
  have M7 := Lib.hid (M5.out.below K7)
  have S1 := Lib.hid (same_c (A5.out.below K7) (C5.out.below K7) (by rw [ints_len]; exact Nat.le_trans LT.out (by decide)) (by rw [ints_len]; exact Nat.le_trans LT.out (by decide)))
  have S2 := Lib.hid (fun w' (q : Below w7.heap.size w7 w') => same_c ((D5.out.below K7).below q) ((E5.out.below K7).below q) (by rw [ints_len]; exact L2.out) (by rw [ints_len]; exact L2.out))
  rw [decide_eq_true rfl] at S1 S2
  clear hb B6 K6 K7 N5 M5 A5 C5 D5 E5 R3 LT L2
  obtain ⟨x0, x1⟩ := blk2 N7.out (brefl _)
  obtain ⟨z0, z1⟩ := blk2 M7.out (brefl _)
  go_wp2_with fail
  refine S1.out.mono ?_
  rintro e w8 ⟨rfl, hb⟩
  have S3 := Lib.hid (S2.out _ hb)
  have B8 := Lib.hid (bstep B7.out hb)
  clear hb S1 S2 x0 x1 z0 z1
  go_wp2_with fail
  refine S3.out.mono ?_
  rintro e w9 ⟨rfl, hb⟩
  have B9 := Lib.hid (bstep B8.out hb)
  clear hb S3
  go_wp2_with fail
  go_ret
  exact ⟨rfl, B9.out⟩
set_option maxRecDepth 100000 in
theorem lifted (os : Os) (started : os.Started) (H : Type) (enc : TypeId × Value → H) :
    ReturnsInHanded {} Try.checked os 3 .any (Rows.voteAllSpec.pre6 enc Try.prog Try.f3 Rows.voteAllRow.domain false) (Rows.voteAllSpec.post enc Try.prog Try.f3 false true false false) := by
  refine returnsInHanded_of_change_sized (C := Try.checked) own started (by kernel_rfl) Try.func3
    (ChangeSpec.witness6 (enc := enc) (C := Try.checked) false ⟨#[], #[.slice none 0 0, .slice none 0 0], []⟩ 8 (by kernel_rfl) (by kernel_rfl) (by kernel_rfl) (by kernel_rfl)) ?_
  intro W base args ds gs before hval0 hW hcnd hsz0 _
  have hsz : (DataW.weightsEach Try.prog (Try.f3.params.toList ++ Rows.voteAllSpec.plain.varTypes Try.prog) (ds ++ gs)).all (· ≤ reachBytes) = true := hsz0
  have hval : ∀ (j : Nat) t v, Try.f3.params[j]? = some t → args[j]? = some v → Value.okWide Try.prog W .any base t v := hval0
  have hW' := hW
  obtain ⟨p, q, hA0, hV, rfl, hfz, hnd⟩ := hW
  have hA : DataW.TrodAll enc Try.prog W 0 (fun _ => true) true Try.f3.params.toList args.toList ds p := hA0
  rw [Try.params3] at hA hval hsz
  obtain ⟨v0, vs0, d0, ds0, p0, q0, hargs, rfl, rfl, h0, r0⟩ := trodAll_cons hA
  obtain ⟨v1, vs1, d1, ds1, p1, q1, rfl, rfl, rfl, h1, r1⟩ := trodAll_cons r0
  obtain ⟨rfl, rfl, rfl⟩ := trodAll_nil r1
  obtain rfl : args = #[v0, v1] := by cases args; simp_all
  obtain ⟨rfl, rfl⟩ := trodVars_none hV
  have h0k := h0
  have hlt0 : ∀ x ∈ p0, x.block < W.heap.size := fun x hx => by have := hW'.lt x (by simp [hx]); simpa using this
  have hb0 : ∀ es sp, d0 = .slice es sp → (es.length + sp.length) * Try.prog.bytesOf 44 ≤ reachBytes := by
    intro es sp he
    exact sized_slice hsz (j := 0) (t := 22) (e := 44) rfl (by rw [he]; rfl) Try.underlying22
  have h1k := h1
  have hlt1 : ∀ x ∈ p1, x.block < W.heap.size := fun x hx => by have := hW'.lt x (by simp [hx]); simpa using this
  have hb1 : ∀ es sp, d1 = .slice es sp → (es.length + sp.length) * Try.prog.bytesOf 3 ≤ reachBytes := by
    intro es sp he
    exact sized_slice hsz (j := 1) (t := 23) (e := 3) rfl (by rw [he]; rfl) Try.underlying23
  obtain ⟨L0, g0⟩ := open_cds (hval 0 22 v0 rfl rfl) h0 hb0
  obtain ⟨L1, g1⟩ := open_is (hval 1 23 v1 rfl rfl) h1 hb1
  clear hA0 hval0
  simp only [List.append_nil] at hW'
  refine (walk pc v0 L0 v1 L1 W g0 g1).mono fun e W' ⟨he, hg⟩ => ?_
  subst he
  exact ⟨_, rfl, _, _, _, [], _, [], hW', trodAll_cons_mk (shut_bool Try.underlying4 _) trodAll_mk0,
    (trodAll_cons_mk (Below.trod laidOut (by kernel_rfl) (of_decide_eq_true (by kernel_rfl)) h0k hg hlt0) (trodAll_cons_mk (Below.trod laidOut (by kernel_rfl) (of_decide_eq_true (by kernel_rfl)) h1k hg hlt1) trodAll_mk0)), rfl, hg.frame _, fun h => nomatch h⟩

theorem over : Rows.voteAllRow.holds Try.pinned (OpenSpec.ofChange Rows.voteAllSpec) :=
  OpenClaim.holds_of_wide 3 Try.f3 rfl rfl rfl rfl rfl rfl rfl ⟨rfl, rfl, rfl, rfl, rfl⟩ rfl rfl rfl rfl rfl (by kernel_rfl) Try.func3 (by kernel_rfl)
    (of_decide_eq_true (by kernel_rfl)) (by unfold Func.isWrapper; first | (rw [if_pos (by decide +kernel)]; kernel_rfl) | (rw [if_neg (by decide +kernel)]; exact ⟨rfl, rfl⟩))
    (fun os started H enc _ => lifted os started H enc)

theorem proved : Rows.VoteAllSaid :=
  over
end Go.Proofs.Ytkmbeogmgehnfaa.voteAll
