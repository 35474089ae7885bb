/-
  HullAll: Every list of spans has with every budget just its hull, and is told its liars. The law returns true for every input, and the input reads as it did.
  Conditions: none.
-/
import Derived.Test.YtppflfodkhhfhaaRows
import Derived.Test.YtppflfodkhhfhaaHuZ
import Derived.SizedLaws
import Derived.Lib.SmallJoins
namespace Go.Proofs.Ytppflfodkhhfhaa.hullAll
open Go.ChangeShapes Go.WideShapes Go.ChangeAt Go.RowKit Go.Joins Fl Hu
set_option linter.unusedVariables false
set_option linter.unusedSimpArgs false

theorem own : ownKnob Try.prog.godebug = none := by kernel_rfl
theorem laidOut : laidOutB Try.prog = true := by kernel_rfl

theorem ret_slice (w : World) (base : Nat) (v : Value) (l : List Int) (h : OwnI w base v l) : ∃ a cap, v = .slice a l.length cap ∧ l.length ≤ cap ∧ cap ≤ 9223372036854775807 ∧ ∀ (j : Nat) x, l[j]? = some x → ∃ b o, a = some ⟨b, o, none⟩ ∧ w.cell? ⟨b, o + j, none⟩ = some (.int .i64 x) := by
  obtain ⟨a, cap, ev, h1, h2, h3⟩ := h.is
  refine ⟨a, cap, ev, h1, h2, fun j x hj => ?_⟩
  obtain ⟨b, o, ea, _, hc⟩ := h3 (by have := (List.getElem?_eq_some_iff.1 hj).1; omega)
  exact ⟨b, o, ea, hc j x hj⟩
set_option maxRecDepth 100000 in
set_option maxHeartbeats 8000000 in
theorem walk (pc : PC) (v : Value) (L : List Sn) (f t : Int) (s : Sn) (w : World) (g0 : Hs w v L ∧ (∀ s ∈ L, i64N s) ∧ L.length * 16 ≤ 140737488351232) (g1 : Lit.wf (.int .i64 f) = true) (g2 : Lit.wf (.int .i64 t) = true) (g3 : i64N s) :
    Calls Try.prog 3 #[v, .int .i64 f, .int .i64 t, NV s] w fun e w' => e = .returned (.bool true) ∧ Below w.heap.size w w' := by
  obtain ⟨hS, _, hN⟩ := g0
  have hN' : L.length ≤ 8796093022208 := by omega
  have AW := Lib.hid (awake15_c pc)
  have P1 := Lib.hid (fun w' (q : Below w.heap.size w w') => pc.hull w' v L f (hS.below q) hN' (bounds_i64 g1))
  have R1 := Lib.hid (fun w' (q : Below w.heap.size w w') => rHull_c (hS.below q) hN' f (bounds_i64 g1))
  have P2 := Lib.hid (fun w' (q : Below w.heap.size w w') => pc.held w' v L t (hS.below q) hN')
  have R2 := Lib.hid (fun w' (q : Below w.heap.size w w') => rHeld_c (hS.below q) hN' t)
  have P3 := Lib.hid (fun w' (q : Below w.heap.size w w') => pc.liars w' v L s (hS.below q) hN')
  have R3 := Lib.hid (fun w' (q : Below w.heap.size w w') => rLiars_c (hS.below q) hN' s)
  have LL : Hid ((if okL L ∧ okN s then liL s L L.length else []).length ≤ 8796093022208) := Lib.hid (by split; exact Nat.le_trans (liL_len _ _ _) hN'; simp)
  unfold huE at P1 R1
  unfold heE at P2 R2
  unfold LiP at P3 R3
  generalize (huA L f).1.1 = h1 at *
  generalize (huA L f).1.2 = h2 at *
  generalize (huA L f).2 = h3 at *
  generalize ((if okL L ∧ okT t then (cnt L t : Nat) else 0 : Int)) = n1 at *
  generalize ((if okL L then (if okT t then 0 else 2) else 3 : Int)) = n2 at *
  generalize (if okL L ∧ okN s then liL s L L.length else []) = K at *
  generalize ((if okL L ∧ okN s then 0 else 3 : Int)) = n3 at *
  obtain ⟨sl, sh⟩ := s
  replace P3 : Hid (∀ w', Below w.heap.size w w' → Calls Try.prog 12 #[v, .agg #[.int .i64 sl, .int .i64 sh]] w' fun e w'' => (∃ v', e = .returned (.tuple #[v', .int .i64 n3]) ∧ OwnI w'' w'.heap.size v' K) ∧ Below w'.heap.size w' w'') := P3
  replace R3 : Hid (∀ w', Below w.heap.size w w' → Calls Try.prog 13 #[v, .agg #[.int .i64 sl, .int .i64 sh]] w' fun e w'' => (∃ v', e = .returned (.tuple #[v', .int .i64 n3]) ∧ OwnI w'' w'.heap.size v' K) ∧ Below w'.heap.size w' w'') := R3
  show Calls Try.prog 3 #[v, .int .i64 f, .int .i64 t, .agg #[.int .i64 sl, .int .i64 sh]] w _
  have N0 := Lib.hid (new2 w sl sh 25)
  have B0 := Lib.hid (balloc (brefl w) (.cells #[.int .i64 sl, .int .i64 sh] 25))
  clear pc hS hN hN' g1 g2 g3
  go_enter Try.func3, Try.ntmps3
  go_wp2_with fail
  refine (AW.out _).mono ?_
  rintro e w1 ⟨rfl, hb⟩
  have B1 := Lib.hid (bstep B0.out hb)
  have N1 := Lib.hid (N0.out.below hb)
  clear hb B0 N0 AW
  go_wp2_with fail
  refine (P1.out _ B1.out).mono ?_
  rintro e w2 ⟨rfl, hb⟩
  have hb2 := balloc hb (.cells #[.int .i64 h1, .int .i64 h2] 25)
  have B2 := Lib.hid (bstep B1.out hb2)
  have N2 := Lib.hid (N1.out.below hb2)
  have M2 := Lib.hid (new2 w2 h1 h2 25)
  clear hb hb2 B1 N1 P1
  go_wp2_with fail
  refine (R1.out _ B2.out).mono ?_
  rintro e w3 ⟨rfl, hb⟩
  have hb2 := balloc hb (.cells #[.int .i64 h1, .int .i64 h2] 25)
  have B3 := Lib.hid (bstep B2.out hb2)
  have N3 := Lib.hid (N2.out.below hb2)
  have M3 := Lib.hid (M2.out.below hb2)
  have K3 := Lib.hid (new2 w3 h1 h2 25)
  clear hb hb2 B2 N2 M2 R1
  go_wp2_with fail
  refine (P2.out _ B3.out).mono ?_
  rintro e w4 ⟨rfl, hb⟩
  have B4 := Lib.hid (bstep B3.out hb)
  have N4 := Lib.hid (N3.out.below hb)
  have M4 := Lib.hid (M3.out.below hb)
  have K4 := Lib.hid (K3.out.below hb)
  clear hb B3 N3 M3 K3 P2
  go_wp2_with fail
  refine (R2.out _ B4.out).mono ?_
  rintro e w5 ⟨rfl, hb⟩
  have B5 := Lib.hid (bstep B4.out hb)
  have N5 := Lib.hid (N4.out.below hb)
  have M5 := Lib.hid (M4.out.below hb)
  have K5 := Lib.hid (K4.out.below hb)
  clear hb B4 N4 M4 K4 R2
  obtain ⟨z0, z1⟩ := blk2 N5.out (brefl w5)
  go_wp2_with fail
  refine (P3.out _ B5.out).mono ?_
  rintro e w6 ⟨⟨va, rfl, oa⟩, hb⟩
  have B6 := Lib.hid (bstep B5.out hb)
  have N6 := Lib.hid (N5.out.below hb)
  have M6 := Lib.hid (M5.out.below hb)
  have K6 := Lib.hid (K5.out.below hb)
  have OA := Lib.hid oa
  clear hb B5 N5 M5 K5 P3 z0 z1 oa
  obtain ⟨z0, z1⟩ := blk2 N6.out (brefl w6)
  go_wp2_with fail
  refine (R3.out _ B6.out).mono ?_
  rintro e w7 ⟨⟨vb, rfl, ob⟩, hb⟩
  have B7 := Lib.hid (bstep B6.out hb)
  have M7 := Lib.hid (M6.out.below hb)
  have K7 := Lib.hid (K6.out.below hb)
  have QA := ret_slice _ _ _ _ (ownI_below OA.out hb)
  have QB := ret_slice _ _ _ _ ob
  clear hb B6 N6 M6 K6 R3 z0 z1 ob OA
  obtain ⟨aa, ca, rfl, a1, a2, a3⟩ := QA
  obtain ⟨ab, cb, rfl, b1, b2, b3⟩ := QB
  have QA := Lib.hid a3
  have QB := Lib.hid b3
  obtain ⟨m, hm⟩ : ∃ m, K.length = m := ⟨_, rfl⟩
  have HM := Lib.hid hm
  have LM := LL.out
  rw [hm] at a1 b1 LM ⊢
  have m0 : (m : Int) ≤ 8796093022208 := by omega
  have m1 : (m : Int) ≤ (ca : Int) := by omega
  have m2 : (ca : Int) ≤ 9223372036854775807 := by omega
  have m3 : (m : Int) ≤ (cb : Int) := by omega
  have m4 : (cb : Int) ≤ 9223372036854775807 := by omega
  clear a3 b3 hm LL
  go_wp2_with fail
  go_loopw [21] (fun iv wr => ∃ k : Nat, k ≤ m ∧ iv = .int .i64 (k : Nat) ∧ Below w7.heap.size w7 wr) (fun iv _ => m - (intOf iv).toNat)
  case atStart => exact ⟨0, by omega, rfl, brefl w7⟩
  case round =>
    obtain ⟨k, hk, rfl, hbr⟩ := hrel
    rename World => wr
    have BR := Lib.hid hbr
    clear hbr
    by_cases c : k < m
    · have e1 : decide ((k : Int) < (m : Int)) = true := decide_eq_true (by omega)
      have e2 : decide (k < m) = true := decide_eq_true c
      have k1 : (k : Int) < (m : Int) := by omega
      have wk : IntKind.i64.wrap ((k : Int) + 1) = (k : Int) + 1 := wrap_in (by omega) (by omega)
      obtain ⟨x, hx⟩ : ∃ x, K[k]? = some x := ⟨_, List.getElem?_eq_getElem (by rw [HM.out]; exact c)⟩
      obtain ⟨ba, oa, rfl, ka⟩ := QA.out k x hx
      obtain ⟨bb, ob, rfl, kb⟩ := QB.out k x hx
      have ya : wr.cell? ⟨ba, oa + k, none⟩ = some (.int .i64 x) := (BR.out.cell (p := ⟨ba, _, none⟩) (World.block_lt_of_cell? w7 _ ka)).trans ka
      have yb : wr.cell? ⟨bb, ob + k, none⟩ = some (.int .i64 x) := (BR.out.cell (p := ⟨bb, _, none⟩) (World.block_lt_of_cell? w7 _ kb)).trans kb
      clear hx ka kb
      go_upto_region 14 with fail
      go_quiet (fail)
      go_wp2_with fail
      exact ⟨⟨k + 1, by omega, by go_num, bdrew BR.out _⟩, by simp [intOf]; omega⟩
    · have e1 : decide ((k : Int) < (m : Int)) = false := decide_eq_false (by omega)
      have e2 : decide (k < m) = false := decide_eq_false c
      obtain rfl : k = m := by omega
      obtain ⟨x0, x1⟩ := blk2 M7.out BR.out
      obtain ⟨z0, z1⟩ := blk2 K7.out BR.out
      go_wp2_with fail
      go_ret
      exact ⟨rfl, bstep B7.out BR.out⟩
set_option maxRecDepth 100000 in
theorem lifted (os : Os) (started : os.Started) (H : Type) (enc : TypeId × Value → H) :
    ReturnsInHanded {} Try.checked os 3 .any (Rows.hullAllSpec.pre6 enc Try.prog Try.f3 Rows.hullAllRow.domain false) (Rows.hullAllSpec.post enc Try.prog Try.f3 false true false false) := by
  refine returnsInHanded_of_change_sized (C := Try.checked) own started (by kernel_rfl) Try.func3
    (ChangeSpec.witness6 (enc := enc) (C := Try.checked) false ⟨#[], #[.slice none 0 0, .int .i64 0, .int .i64 0, .agg #[.int .i64 0, .int .i64 0]], []⟩ 8 (by kernel_rfl) (by kernel_rfl) (by kernel_rfl) (by kernel_rfl)) ?_
  intro W base args ds gs before hval0 hW hcnd hsz0 _
  have hsz : (DataW.weightsEach Try.prog (Try.f3.params.toList ++ Rows.hullAllSpec.plain.varTypes Try.prog) (ds ++ gs)).all (· ≤ reachBytes) = true := hsz0
  have hval : ∀ (j : Nat) t v, Try.f3.params[j]? = some t → args[j]? = some v → Value.okWide Try.prog W .any base t v := hval0
  have hW' := hW
  obtain ⟨p, q, hA0, hV, rfl, hfz, hnd⟩ := hW
  have hA : DataW.TrodAll enc Try.prog W 0 (fun _ => true) true Try.f3.params.toList args.toList ds p := hA0
  rw [Try.params3] at hA hval hsz
  obtain ⟨v0, vs0, d0, ds0, p0, q0, hargs, rfl, rfl, h0, r0⟩ := trodAll_cons hA
  obtain ⟨v1, vs1, d1, ds1, p1, q1, rfl, rfl, rfl, h1, r1⟩ := trodAll_cons r0
  obtain ⟨v2, vs2, d2, ds2, p2, q2, rfl, rfl, rfl, h2, r2⟩ := trodAll_cons r1
  obtain ⟨v3, vs3, d3, ds3, p3, q3, rfl, rfl, rfl, h3, r3⟩ := trodAll_cons r2
  obtain ⟨rfl, rfl, rfl⟩ := trodAll_nil r3
  obtain rfl : args = #[v0, v1, v2, v3] := by cases args; simp_all
  obtain ⟨rfl, rfl⟩ := trodVars_none hV
  have h0k := h0
  have hlt0 : ∀ x ∈ p0, x.block < W.heap.size := fun x hx => by have := hW'.lt x (by simp [hx]); simpa using this
  have hb0 : ∀ es sp, d0 = .slice es sp → (es.length + sp.length) * Try.prog.bytesOf 25 ≤ reachBytes := by
    intro es sp he
    exact sized_slice hsz (j := 0) (t := 22) (e := 25) rfl (by rw [he]; rfl) Try.underlying22
  have h1k := h1
  have hlt1 : ∀ x ∈ p1, x.block < W.heap.size := fun x hx => by have := hW'.lt x (by simp [hx]); simpa using this
  have h2k := h2
  have hlt2 : ∀ x ∈ p2, x.block < W.heap.size := fun x hx => by have := hW'.lt x (by simp [hx]); simpa using this
  have h3k := h3
  have hlt3 : ∀ x ∈ p3, x.block < W.heap.size := fun x hx => by have := hW'.lt x (by simp [hx]); simpa using this
  obtain ⟨L0, g0⟩ := open_sns (hval 0 22 v0 rfl rfl) h0 hb0
  obtain ⟨z1, rfl, _, _, g1⟩ := open_int Try.underlying3 (hval 1 3 v1 rfl rfl) h1
  obtain ⟨z2, rfl, _, _, g2⟩ := open_int Try.underlying23 (hval 2 23 v2 rfl rfl) h2
  obtain ⟨s3, rfl, g3⟩ := open_sn (hval 3 25 v3 rfl rfl) h3
  clear hA0 hval0
  simp only [List.append_nil] at hW'
  refine (walk pc v0 L0 z1 z2 s3 W g0 g1 g2 g3).mono fun e W' ⟨he, hg⟩ => ?_
  subst he
  exact ⟨_, rfl, _, _, _, [], _, [], hW', trodAll_cons_mk (shut_bool Try.underlying4 _) trodAll_mk0,
    (trodAll_cons_mk (Below.trod laidOut (by kernel_rfl) (of_decide_eq_true (by kernel_rfl)) h0k hg hlt0) (trodAll_cons_mk (Below.trod laidOut (by kernel_rfl) (of_decide_eq_true (by kernel_rfl)) h1k hg hlt1) (trodAll_cons_mk (Below.trod laidOut (by kernel_rfl) (of_decide_eq_true (by kernel_rfl)) h2k hg hlt2) (trodAll_cons_mk (Below.trod laidOut (by kernel_rfl) (of_decide_eq_true (by kernel_rfl)) h3k hg hlt3) trodAll_mk0)))), rfl, hg.frame _, fun h => nomatch h⟩

theorem over : Rows.hullAllRow.holds Try.pinned (OpenSpec.ofChange Rows.hullAllSpec) :=
  OpenClaim.holds_of_wide 3 Try.f3 rfl rfl rfl rfl rfl rfl rfl ⟨rfl, rfl, rfl, rfl, rfl⟩ rfl rfl rfl rfl rfl (by kernel_rfl) Try.func3 (by kernel_rfl)
    (of_decide_eq_true (by kernel_rfl)) (by unfold Func.isWrapper; first | (rw [if_pos (by decide +kernel)]; kernel_rfl) | (rw [if_neg (by decide +kernel)]; exact ⟨rfl, rfl⟩))
    (fun os started H enc _ => lifted os started H enc)

theorem proved : Rows.HullAllSaid :=
  over
end Go.Proofs.Ytppflfodkhhfhaa.hullAll
