/-
  DiskNil: A disk that isn't there answers an error to everything. The law returns true for every input, and the input reads as it did.
  Conditions: none.
-/
import Derived.Test.YtpnphmfpandmkaaRows
import Derived.Test.YtpnphmfpandmkaaDkJ
import Derived.SizedLaws
import Derived.Lib.SmallJoins
namespace Go.Proofs.Ytpnphmfpandmkaa.diskNil
open Go.ChangeShapes Go.WideShapes Go.ChangeAt Go.RowKit Go.Joins By Ct Dk
set_option linter.unusedVariables false
set_option linter.unusedSimpArgs false

theorem own : ownKnob Try.prog.godebug = none := by kernel_rfl
theorem laidOut : laidOutB Try.prog = true := by kernel_rfl
set_option maxRecDepth 100000 in
set_option maxHeartbeats 16000000 in
theorem walk (x : Ac) (dv : Value) (w : World) (hx : Bd x) (hd : Sl w dv x.dat) : Calls Try.prog 6 #[AV x dv] w fun e w' => e = .returned (.bool true) ∧ Below w.heap.size w w' := by
  obtain ⟨da, dc, rfl⟩ := hd.form
  have B0 := Lib.hid (balloc (brefl w) (.cells #[.int .i64 x.k, .int .i64 x.n, .int .i64 x.p, .string x.a, .string x.b, .slice da x.dat.length dc] 31))
  have N0 : Hid (Blk (w.alloc (.cells #[.int .i64 x.k, .int .i64 x.n, .int .i64 x.p, .string x.a, .string x.b, .slice da x.dat.length dc] 31)) w.heap.size (avs x (.slice da x.dat.length dc))) := Lib.hid (Blk.new' w #[.int .i64 x.k, .int .i64 x.n, .int .i64 x.p, .string x.a, .string x.b, .slice da x.dat.length dc] 31)
  clear hd hx
  go_enter Try.func6, Try.ntmps6
  go_wp2_with fail
  generalize w.alloc (.cells #[.int .i64 x.k, .int .i64 x.n, .int .i64 x.p, .string x.a, .string x.b, .slice da x.dat.length dc] 31) = w1 at *
  refine (awake11_c w1).mono ?_
  rintro e w2 ⟨rfl, hb⟩
  have B2 := Lib.hid (bstep B0.out hb)
  have N2 := Lib.hid (N0.out.below hb)
  clear N0 B0 hb
  obtain ⟨c3, _⟩ := N2.out.2 3 _ rfl
  go_upto_region 4 with fail
  go_wp2_with fail
  refine (Read_nil x.a w2).mono ?_
  rintro e w3 ⟨rfl, hb⟩
  have B3 := Lib.hid (bstep B2.out hb)
  have N3 := Lib.hid (N2.out.below hb)
  clear N2 B2 hb c3
  obtain ⟨c3, _⟩ := N3.out.2 3 _ rfl
  obtain ⟨c5, _⟩ := N3.out.2 5 _ rfl
  go_wp2_with fail
  refine (Write_nil x.a _ w3).mono ?_
  rintro e w4 ⟨rfl, hb⟩
  have B4 := Lib.hid (bstep B3.out hb)
  have N4 := Lib.hid (N3.out.below hb)
  clear N3 B3 hb c3 c5
  obtain ⟨c3, _⟩ := N4.out.2 3 _ rfl
  obtain ⟨c4, _⟩ := N4.out.2 4 _ rfl
  go_wp2_with fail
  refine (Rename_nil x.a x.b w4).mono ?_
  rintro e w5 ⟨rfl, hb⟩
  have B5 := Lib.hid (bstep B4.out hb)
  have N5 := Lib.hid (N4.out.below hb)
  clear N4 B4 hb c3 c4
  obtain ⟨c3, _⟩ := N5.out.2 3 _ rfl
  go_wp2_with fail
  refine (Remove_nil x.a w5).mono ?_
  rintro e w6 ⟨rfl, hb⟩
  have B6 := Lib.hid (bstep B5.out hb)
  have N6 := Lib.hid (N5.out.below hb)
  clear N5 B5 hb c3
  obtain ⟨c1, _⟩ := N6.out.2 1 _ rfl
  obtain ⟨c2, _⟩ := N6.out.2 2 _ rfl
  go_wp2_with fail
  refine (Names_nil w6).mono ?_
  rintro e w7 ⟨rfl, rfl⟩
  go_wp2_with fail
  refine (Cut_nil x.n x.p w7).mono ?_
  rintro e w8 ⟨rfl, rfl⟩
  go_wp2_with fail
  refine (Restart_nil w8).mono ?_
  rintro e w9 ⟨rfl, rfl⟩
  go_wp2_with fail
  go_ret
  exact ⟨rfl, B6.out⟩
set_option maxRecDepth 100000 in
theorem lifted (os : Os) (started : os.Started) (H : Type) (enc : TypeId × Value → H) :
    ReturnsInHanded {} Try.checked os 6 .any (Rows.diskNilSpec.pre6 enc Try.prog Try.f6 Rows.diskNilRow.domain false) (Rows.diskNilSpec.post enc Try.prog Try.f6 false true false false) := by
  refine returnsInHanded_of_change_sized (C := Try.checked) own started (by kernel_rfl) Try.func6
    (ChangeSpec.witness6 (enc := enc) (C := Try.checked) false ⟨#[], #[.agg #[.int .i64 0, .int .i64 0, .int .i64 0, .string ⟨#[]⟩, .string ⟨#[]⟩, .slice none 0 0]], []⟩ 8 (by kernel_rfl) (by kernel_rfl) (by kernel_rfl) (by kernel_rfl)) ?_
  intro W base args ds gs before hval0 hW hcnd hsz0 _
  have hsz : (DataW.weightsEach Try.prog (Try.f6.params.toList ++ Rows.diskNilSpec.plain.varTypes Try.prog) (ds ++ gs)).all (· ≤ reachBytes) = true := hsz0
  have hval : ∀ (j : Nat) t v, Try.f6.params[j]? = some t → args[j]? = some v → Value.okWide Try.prog W .any base t v := hval0
  have hW' := hW
  obtain ⟨p, q, hA0, hV, rfl, hfz, hnd⟩ := hW
  have hA : DataW.TrodAll enc Try.prog W 0 (fun _ => true) true Try.f6.params.toList args.toList ds p := hA0
  rw [Try.params6] at hA hval hsz
  obtain ⟨v0, vs0, d0, ds0, p0, q0, hargs, rfl, rfl, h0, r0⟩ := trodAll_cons hA
  obtain ⟨rfl, rfl, rfl⟩ := trodAll_nil r0
  obtain rfl : args = #[v0] := by cases args; simp_all
  obtain ⟨rfl, rfl⟩ := trodVars_none hV
  have h0k := h0
  have hlt0 : ∀ x ∈ p0, x.block < W.heap.size := fun x hx => by have := hW'.lt x (by simp [hx]); simpa using this
  have hb0 : ∀ y ∈ DataW.weights Try.prog 31 d0, y ≤ reachBytes := fun y hy => by
    have := List.all_eq_true.1 hsz y (DataW.weights_mem_each (j := 0) rfl rfl y hy)
    simpa using this
  obtain ⟨f0, dv0, rfl, b0, g0⟩ := open_act (hval 0 31 v0 rfl rfl) h0 hb0
  clear hA0 hval0
  simp only [List.append_nil] at hW'
  refine (walk f0 dv0 W b0 g0).mono fun e W' ⟨he, hg⟩ => ?_
  subst he
  exact ⟨_, rfl, _, _, _, [], _, [], hW', trodAll_cons_mk (shut_bool Try.underlying4 _) trodAll_mk0,
    (trodAll_cons_mk (Below.trod laidOut (by kernel_rfl) (of_decide_eq_true (by kernel_rfl)) h0k hg hlt0) trodAll_mk0), rfl, hg.frame _, fun h => nomatch h⟩

theorem over : Rows.diskNilRow.holds Try.pinned (OpenSpec.ofChange Rows.diskNilSpec) :=
  OpenClaim.holds_of_wide 6 Try.f6 rfl rfl rfl rfl rfl rfl rfl ⟨rfl, rfl, rfl, rfl, rfl⟩ rfl rfl rfl rfl rfl (by kernel_rfl) Try.func6 (by kernel_rfl)
    (of_decide_eq_true (by kernel_rfl)) (by unfold Func.isWrapper; first | (rw [if_pos (by decide +kernel)]; kernel_rfl) | (rw [if_neg (by decide +kernel)]; exact ⟨rfl, rfl⟩))
    (fun os started H enc _ => lifted os started H enc)

theorem proved : Rows.DiskNilSaid :=
  over
end Go.Proofs.Ytpnphmfpandmkaa.diskNil
