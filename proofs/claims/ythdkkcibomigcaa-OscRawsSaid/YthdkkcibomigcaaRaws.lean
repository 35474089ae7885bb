/-
  OscRaws: an oscillator counts as its way says, rounded once: the law returns true for every input, and the input reads as it did.
  Conditions: none.
-/
import Derived.Test.YthdkkcibomigcaaRows
import Derived.Test.YthdkkcibomigcaaOscW
namespace Go.Proofs.Ythdkkcibomigcaa.oscRaws
open Go.ChangeShapes Go.WideShapes Go.ChangeAt Go.RowKit Fx
set_option linter.unusedVariables false

theorem own : ownKnob Try.prog.godebug = none := by kernel_rfl

theorem bounds_i64 {a : Int} (h : (Lit.int .i64 a).wf = true) : -9223372036854775808 ≤ a ∧ a ≤ 9223372036854775807 := by
  simp [Lit.wf, IntKind.min, IntKind.max, IntKind.bits, IntKind.signed] at h
  omega

set_option maxRecDepth 100000 in
set_option maxHeartbeats 2000000 in
theorem walk_none (a : Option Addr) (cap : Nat) (t : Int) (w : World) :
    Calls Try.prog 3 #[.slice a 0 cap, .int .i64 t] w fun e w' => e = .returned (.bool true) ∧ Below w.heap.size w w' := by
  have R := Lib.hid (Raw_none a cap t)
  have Q := Lib.hid (rRaw_none a cap t)
  generalize (if t = 0 then (0 : Int) else 2) = r at *
  go_enter Try.func3, Try.ntmps3
  go_wp2_with fail
  refine (awake2_c _).mono ?_
  rintro e w1 ⟨rfl, hb⟩
  have HB := Lib.hid hb
  clear hb
  go_wp2_with fail
  refine (R.out _).mono ?_
  rintro e w2 ⟨rfl, hb⟩
  have HB2 := Lib.hid (bstep HB.out hb)
  clear hb HB
  go_wp2_with fail
  refine (Q.out _).mono ?_
  rintro e w3 ⟨rfl, hb⟩
  have HB3 := Lib.hid (bstep HB2.out hb)
  clear hb HB2
  go_wp2_with fail
  refine (Check2_none a cap _).mono ?_
  rintro e w4 ⟨rfl, hb⟩
  have HB4 := Lib.hid (bstep HB3.out hb)
  clear hb HB3
  go_wp2_with fail
  refine (rCheck2_none a cap _).mono ?_
  rintro e w5 ⟨rfl, hb⟩
  have HB5 := Lib.hid (bstep HB4.out hb)
  clear hb HB4
  go_wp2_with fail
  go_ret
  exact ⟨rfl, HB5.out⟩

set_option maxRecDepth 100000 in
set_option maxHeartbeats 2000000 in
theorem walk_ok (b off n cap : Nat) (X Y : Nat → Int) (t : Int) (w : World) (hn : n ≤ 9223372036854775807) (h : Legs w b off n X Y) (t1 : -9223372036854775808 ≤ t) (t2 : t ≤ 9223372036854775807) (P : Hid (okW n X Y ∧ 0 ≤ t ∧ t ≤ sumTo X n)) :
    Calls Try.prog 3 #[.slice (some ⟨b, off, none⟩) n cap, .int .i64 t] w fun e w' => e = .returned (.bool true) ∧ Below w.heap.size w w' := by
  have L := Lib.hid h
  clear h
  go_enter Try.func3, Try.ntmps3
  go_wp2_with fail
  refine (awake2_c _).mono ?_
  rintro e w1 ⟨rfl, hb⟩
  have HB := Lib.hid hb
  clear hb
  go_wp2_with fail
  refine (Raw_ok b off n cap X Y t _ hn (L.out.below HB.out) P.out.1 P.out.2.1 P.out.2.2).mono ?_
  rintro e w2 ⟨rfl, hb⟩
  have HB2 := Lib.hid (bstep HB.out hb)
  clear hb HB
  go_wp2_with fail
  refine (rRaw_c b off n cap X Y t _ hn (L.out.below HB2.out) P.out.1 P.out.2.1 t2).mono ?_
  rintro e w3 ⟨ho, hb⟩
  obtain ⟨_, rfl⟩ := ho.resolve_right (fun g => by have := P.out.2.2; omega)
  clear ho
  have HB3 := Lib.hid (bstep HB2.out hb)
  clear hb HB2
  go_wp2_with fail
  refine (Check2_c b off n cap X Y _ hn (L.out.below HB3.out)).mono ?_
  rintro e w4 ⟨ho, hb⟩
  obtain ⟨_, rfl⟩ := ho.resolve_right (fun g => absurd P.out.1 g.1)
  have HB4 := Lib.hid (bstep HB3.out hb)
  clear hb HB3 ho
  go_wp2_with fail
  refine (rCheck2_c b off n cap X Y _ hn (L.out.below HB4.out)).mono ?_
  rintro e w5 ⟨ho, hb⟩
  obtain ⟨_, rfl⟩ := ho.resolve_right (fun g => absurd P.out.1 g.1)
  have HB5 := Lib.hid (bstep HB4.out hb)
  clear hb HB4 ho
  go_wp2_with fail
  go_ret
  exact ⟨rfl, HB5.out⟩

set_option maxRecDepth 100000 in
set_option maxHeartbeats 2000000 in
theorem walk_far (b off n cap : Nat) (X Y : Nat → Int) (t : Int) (w : World) (hn : n ≤ 9223372036854775807) (h : Legs w b off n X Y) (t1 : -9223372036854775808 ≤ t) (t2 : t ≤ 9223372036854775807) (P : Hid (okW n X Y ∧ 0 ≤ t ∧ sumTo X n < t)) :
    Calls Try.prog 3 #[.slice (some ⟨b, off, none⟩) n cap, .int .i64 t] w fun e w' => e = .returned (.bool true) ∧ Below w.heap.size w w' := by
  have L := Lib.hid h
  clear h
  go_enter Try.func3, Try.ntmps3
  go_wp2_with fail
  refine (awake2_c _).mono ?_
  rintro e w1 ⟨rfl, hb⟩
  have HB := Lib.hid hb
  clear hb
  go_wp2_with fail
  refine (Raw_range b off n cap X Y t _ hn (L.out.below HB.out) P.out.1 (Or.inr P.out.2.2)).mono ?_
  rintro e w2 ⟨rfl, hb⟩
  have HB2 := Lib.hid (bstep HB.out hb)
  clear hb HB
  go_wp2_with fail
  refine (rRaw_c b off n cap X Y t _ hn (L.out.below HB2.out) P.out.1 P.out.2.1 t2).mono ?_
  rintro e w3 ⟨ho, hb⟩
  obtain ⟨_, rfl⟩ := ho.resolve_left (fun g => by have := P.out.2.2; omega)
  clear ho
  have HB3 := Lib.hid (bstep HB2.out hb)
  clear hb HB2
  go_wp2_with fail
  refine (Check2_c b off n cap X Y _ hn (L.out.below HB3.out)).mono ?_
  rintro e w4 ⟨ho, hb⟩
  obtain ⟨_, rfl⟩ := ho.resolve_right (fun g => absurd P.out.1 g.1)
  have HB4 := Lib.hid (bstep HB3.out hb)
  clear hb HB3 ho
  go_wp2_with fail
  refine (rCheck2_c b off n cap X Y _ hn (L.out.below HB4.out)).mono ?_
  rintro e w5 ⟨ho, hb⟩
  obtain ⟨_, rfl⟩ := ho.resolve_right (fun g => absurd P.out.1 g.1)
  have HB5 := Lib.hid (bstep HB4.out hb)
  clear hb HB4 ho
  go_wp2_with fail
  go_ret
  exact ⟨rfl, HB5.out⟩

set_option maxRecDepth 100000 in
set_option maxHeartbeats 2000000 in
theorem walk_neg (b off n cap : Nat) (X Y : Nat → Int) (t : Int) (w : World) (hn : n ≤ 9223372036854775807) (h : Legs w b off n X Y) (t1 : -9223372036854775808 ≤ t) (t2 : t ≤ 9223372036854775807) (P : Hid (okW n X Y ∧ t < 0)) :
    Calls Try.prog 3 #[.slice (some ⟨b, off, none⟩) n cap, .int .i64 t] w fun e w' => e = .returned (.bool true) ∧ Below w.heap.size w w' := by
  have L := Lib.hid h
  clear h
  go_enter Try.func3, Try.ntmps3
  go_wp2_with fail
  refine (awake2_c _).mono ?_
  rintro e w1 ⟨rfl, hb⟩
  have HB := Lib.hid hb
  clear hb
  go_wp2_with fail
  refine (Raw_range b off n cap X Y t _ hn (L.out.below HB.out) P.out.1 (Or.inl P.out.2)).mono ?_
  rintro e w2 ⟨rfl, hb⟩
  have HB2 := Lib.hid (bstep HB.out hb)
  clear hb HB
  go_wp2_with fail
  refine (rRaw_neg b off n cap X Y t _ hn (L.out.below HB2.out) P.out.1 P.out.2 t1).mono ?_
  rintro e w3 ⟨rfl, hb⟩
  have HB3 := Lib.hid (bstep HB2.out hb)
  clear hb HB2
  go_wp2_with fail
  refine (Check2_c b off n cap X Y _ hn (L.out.below HB3.out)).mono ?_
  rintro e w4 ⟨ho, hb⟩
  obtain ⟨_, rfl⟩ := ho.resolve_right (fun g => absurd P.out.1 g.1)
  have HB4 := Lib.hid (bstep HB3.out hb)
  clear hb HB3 ho
  go_wp2_with fail
  refine (rCheck2_c b off n cap X Y _ hn (L.out.below HB4.out)).mono ?_
  rintro e w5 ⟨ho, hb⟩
  obtain ⟨_, rfl⟩ := ho.resolve_right (fun g => absurd P.out.1 g.1)
  have HB5 := Lib.hid (bstep HB4.out hb)
  clear hb HB4 ho
  go_wp2_with fail
  go_ret
  exact ⟨rfl, HB5.out⟩

set_option maxRecDepth 100000 in
set_option maxHeartbeats 2000000 in
theorem walk_bad (b off n cap : Nat) (X Y : Nat → Int) (t : Int) (w : World) (hn : n ≤ 9223372036854775807) (h : Legs w b off n X Y) (t1 : -9223372036854775808 ≤ t) (t2 : t ≤ 9223372036854775807) (P : Hid (¬ okW n X Y)) :
    Calls Try.prog 3 #[.slice (some ⟨b, off, none⟩) n cap, .int .i64 t] w fun e w' => e = .returned (.bool true) ∧ Below w.heap.size w w' := by
  have L := Lib.hid h
  clear h
  go_enter Try.func3, Try.ntmps3
  go_wp2_with fail
  refine (awake2_c _).mono ?_
  rintro e w1 ⟨rfl, hb⟩
  have HB := Lib.hid hb
  clear hb
  go_wp2_with fail
  refine (Raw_bad b off n cap X Y t _ hn (L.out.below HB.out) P.out).mono ?_
  rintro e w2 ⟨rfl, hb⟩
  have HB2 := Lib.hid (bstep HB.out hb)
  clear hb HB
  go_wp2_with fail
  refine (rRaw_bad b off n cap X Y t _ hn (L.out.below HB2.out) P.out).mono ?_
  rintro e w3 ⟨rfl, hb⟩
  have HB3 := Lib.hid (bstep HB2.out hb)
  clear hb HB2
  go_wp2_with fail
  refine (Check2_c b off n cap X Y _ hn (L.out.below HB3.out)).mono ?_
  rintro e w4 ⟨ho, hb⟩
  obtain ⟨_, rfl⟩ := ho.resolve_left (fun g => absurd g.1 P.out)
  have HB4 := Lib.hid (bstep HB3.out hb)
  clear hb HB3 ho
  go_wp2_with fail
  refine (rCheck2_c b off n cap X Y _ hn (L.out.below HB4.out)).mono ?_
  rintro e w5 ⟨ho, hb⟩
  obtain ⟨_, rfl⟩ := ho.resolve_left (fun g => absurd g.1 P.out)
  have HB5 := Lib.hid (bstep HB4.out hb)
  clear hb HB4 ho
  go_wp2_with fail
  go_ret
  exact ⟨rfl, HB5.out⟩

theorem walk (v0 : Value) (n0 : Nat) (X0 Y0 : Nat → Int) (a1 : Int) (w1 : (Lit.int .i64 a1).wf = true) (w : World) (g0 : WayAt w v0 n0 X0 Y0) :
    Calls Try.prog 3 #[v0, .int .i64 a1] w fun e w' => e = .returned (.bool true) ∧ Below w.heap.size w w' := by
  obtain ⟨t1, t2⟩ := bounds_i64 w1
  rcases g0 with ⟨rfl, a, cap, rfl⟩ | ⟨_, hn, b, off, cap, rfl, _, h⟩
  · exact walk_none a cap a1 w
  · by_cases c : okW n0 X0 Y0
    · by_cases c1 : a1 < 0
      · exact walk_neg b off n0 cap X0 Y0 a1 w hn h t1 t2 ⟨c, c1⟩
      · by_cases c2 : a1 ≤ sumTo X0 n0
        · exact walk_ok b off n0 cap X0 Y0 a1 w hn h t1 t2 ⟨c, by omega, c2⟩
        · exact walk_far b off n0 cap X0 Y0 a1 w hn h t1 t2 ⟨c, by omega, by omega⟩
    · exact walk_bad b off n0 cap X0 Y0 a1 w hn h t1 t2 c

set_option maxRecDepth 100000 in
theorem lifted (os : Os) (started : os.Started) (H : Type) (enc : TypeId × Value → H) :
    ReturnsInHanded {} Try.checked os 3 .any (Rows.oscRawsSpec.pre6 enc Try.prog Try.f3 Rows.oscRawsRow.domain false) (Rows.oscRawsSpec.post enc Try.prog Try.f3 false true false false) := by
  refine returnsInHanded_of_change (C := Try.checked) own started (by kernel_rfl) Try.func3
    (ChangeSpec.witness6 (enc := enc) (C := Try.checked) false ⟨#[], #[.slice none 0 0, .int .i64 0], []⟩ 8 (by kernel_rfl) (by kernel_rfl) (by kernel_rfl) (by kernel_rfl)) ?_
  intro W base args ds gs before hval0 hW hcnd _
  have hval : ∀ (j : Nat) t v, Try.f3.params[j]? = some t → args[j]? = some v → Value.okWide Try.prog W .any base t v := hval0
  have hW' := hW
  obtain ⟨p, q, hA0, hV, rfl, hfz, hnd⟩ := hW
  have hA : DataW.TrodAll enc Try.prog W 0 (fun _ => true) true Try.f3.params.toList args.toList ds p := hA0
  rw [Try.params3] at hA hval
  obtain ⟨v0, vs0, d0, ds0, p0, q0, hargs, rfl, rfl, h0, r0⟩ := trodAll_cons hA
  obtain ⟨v1, vs1, d1, ds1, p1, q1, rfl, rfl, rfl, h1, r1⟩ := trodAll_cons r0
  obtain ⟨rfl, rfl, rfl⟩ := trodAll_nil r1
  obtain rfl : args = #[v0, v1] := by cases args; simp_all
  obtain ⟨rfl, rfl⟩ := trodVars_none hV
  have h0k := h0
  have hlt0 : ∀ x ∈ p0, x.block < W.heap.size := fun x hx => by have := hW'.lt x (by simp [hx]); simpa using this
  obtain ⟨n0, X0, Y0, g0⟩ := open_way (hval 0 22 v0 rfl rfl) h0
  obtain ⟨a1, rfl, rfl, rfl, w1⟩ := open_int Try.underlying23 (hval 1 23 v1 rfl rfl) h1
  clear hA0 hval0
  simp only [List.append_nil] at hW'
  refine (walk v0 n0 X0 Y0 a1 w1 W g0).mono fun e W' ⟨he, hg⟩ => ?_
  subst he
  exact ⟨_, rfl, _, _, _, [], _, [], hW', trodAll_cons_mk (shut_bool Try.underlying4 _) trodAll_mk0,
    (trodAll_cons_mk (Below.trod laidOut (by kernel_rfl) (of_decide_eq_true (by kernel_rfl)) h0k hg hlt0) (trodAll_cons_mk (shut_int Try.underlying23 w1) trodAll_mk0)), rfl, hg.frame _, fun h => nomatch h⟩

theorem over : Rows.oscRawsRow.holds Try.pinned (OpenSpec.ofChange Rows.oscRawsSpec) :=
  OpenClaim.holds_of_wide 3 Try.f3 rfl rfl rfl rfl rfl rfl rfl ⟨rfl, rfl, rfl, rfl, rfl⟩ rfl rfl rfl rfl rfl (by kernel_rfl) Try.func3 (by kernel_rfl)
    (of_decide_eq_true (by kernel_rfl)) (by unfold Func.isWrapper; first | (rw [if_pos (by decide +kernel)]; kernel_rfl) | (rw [if_neg (by decide +kernel)]; exact ⟨rfl, rfl⟩))
    (fun os started H enc _ => lifted os started H enc)

theorem proved : Rows.OscRawsSaid :=
  over
end Go.Proofs.Ythdkkcibomigcaa.oscRaws
