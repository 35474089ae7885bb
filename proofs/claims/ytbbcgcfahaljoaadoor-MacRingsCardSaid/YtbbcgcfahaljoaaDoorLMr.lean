/-
  MacRings: a ring of keys is checked, and every key in it is found. The law returns true for every input, and the input reads as it did.
  Conditions: the tables of package hash that the row lists read as the program's text lays them (the card ties them).
-/
import Derived.Test.YtbbcgcfahaljoaaDoorRows
import Derived.Test.YtbbcgcfahaljoaaDoorCards
import Derived.Test.YtbbcgcfahaljoaaDoorTie
import Derived.Test.YtbbcgcfahaljoaaDoorMcN
import Derived.Test.YtbbcgcfahaljoaaDoorHsY
import Derived.SevenTiedAt
namespace Go.Proofs.YtbbcgcfahaljoaaDoor.macRings
open Go.ChangeShapes Go.WideShapes Go.ChangeAt Go.RowKit Go.Joins Hs Mc
set_option linter.unusedVariables false
set_option linter.unusedSimpArgs false

theorem key_eta (k : KD) : k.val = .agg #[.int .u32 k.id, .int .i64 k.kind, k.v] := rfl
set_option maxRecDepth 100000 in
set_option maxHeartbeats 2000000 in
theorem SameKey_c (x y : Int) (a b : Option Addr) (l m c d : Nat) (S : ByteArray) (w : World)
    (C1 : ∀ w', Below w.heap.size w w' → (convert 26 9 (.slice a l c)).run Tryd.prog w' = .ok (.string S) w')
    (C2 : ∀ w', Below w.heap.size w w' → (convert 26 9 (.slice b m d)).run Tryd.prog w' = .ok (.string S) w') :
    Calls Tryd.prog 13 #[.agg #[.int .u32 x, .int .i64 y, .slice a l c], .agg #[.int .u32 x, .int .i64 y, .slice b m d]] w fun e w' => e = .returned (.bool true) ∧ Below w.heap.size w w' := by
  have B1 := Lib.hid (balloc (brefl w) (.cells #[.int .u32 x, .int .i64 y, .slice a l c] 28))
  have B2 := Lib.hid (balloc B1.out (.cells #[.int .u32 x, .int .i64 y, .slice b m d] 28))
  have c1 := C1 _ B2.out
  have c2 := C2 _ B2.out
  clear C1 C2
  go_enter Tryd.func13, Tryd.ntmps13
  go_wp2_with fail
  go_ret
  exact ⟨by simp, B2.out⟩

set_option maxRecDepth 100000 in
set_option maxHeartbeats 4000000 in
theorem walk (v : Value) (n : Nat) (K : Nat → KD) (x : Int) (w : World) (G : Gl w) (R : Ring w v n K) :
    Calls Tryd.prog 3 #[v, .int .u32 x] w fun e w' => e = .returned (.bool true) ∧ Below w.heap.size w w' := by
  have HG := Lib.hid G
  have RG := Lib.hid R
  obtain ⟨av, cv, ev⟩ : ∃ a c, v = .slice a n c := by obtain ⟨a, c, e, _⟩ := R; exact ⟨a, c, e⟩
  have FB := Lib.hid (fK_byte R x)
  have FS := Lib.hid (fK_sb R x)
  clear G R
  subst ev
  go_enter Tryd.func3, Tryd.ntmps3
  go_wp2_with fail
  refine (awake6_c _ HG.out).mono ?_
  rintro e w1 ⟨rfl, hb⟩
  have B1 := Lib.hid hb
  have FC := Lib.hid (Find_c (RG.out.below hb) x)
  clear hb
  have rE := fE_cases n K x
  have HC := Lib.hid (fun z (h : Below w.heap.size w z) => Check_c (RG.out.below h))
  have HD := Lib.hid (fun z (h : Below w.heap.size w z) => rCheck_c (RG.out.below h))
  have HF := Lib.hid (fun z (h : Below w.heap.size w z) => rFind_c (RG.out.below h) x)
  clear rE
  generalize fK n K x = r at *
  generalize fE n K x = z at *
  generalize chk n K = u at *
  obtain ⟨id, kind, vk, l, f⟩ := r
  obtain ⟨a', c', e'⟩ := FS.out.form
  obtain rfl : vk = .slice a' l c' := e'
  simp only [KD.val] at FC HF FB
  go_wp2_with fail
  refine FC.out.mono ?_
  rintro e w2 ⟨v', rfl, own, hb⟩
  obtain ⟨a2, c2, e2⟩ := own_form own
  rw [bl_len] at e2
  subst e2
  have S2 := Lib.hid (own_sb own FB.out)
  have B2 := Lib.hid (bstep B1.out hb)
  have N2 := Lib.hid (Kc.new w2 id kind (.slice a2 l c2) 28)
  have D2 := Lib.hid (balloc (brefl w2) (.cells #[.int .u32 id, .int .i64 kind, .slice a2 l c2] 28))
  clear own hb FC
  go_wp2_with fail
  generalize w2.alloc (.cells #[.int .u32 id, .int .i64 kind, .slice a2 l c2] 28) = w3 at *
  have B3 := Lib.hid (bstep B2.out D2.out)
  have S3 := Lib.hid (S2.out.below D2.out)
  refine (HF.out _ B3.out).mono ?_
  rintro e w4 ⟨rfl, hb⟩
  have B4 := Lib.hid (bstep B3.out hb)
  have S4 := Lib.hid (S3.out.below hb)
  have N4 := Lib.hid (N2.out.below hb)
  have M4 := Lib.hid (Kc.new w4 id kind (.slice a' l c') 28)
  have D4 := Lib.hid (balloc (brefl w4) (.cells #[.int .u32 id, .int .i64 kind, .slice a' l c'] 28))
  clear hb S2 S3 N2 D2
  go_wp2_with fail
  generalize w4.alloc (.cells #[.int .u32 id, .int .i64 kind, .slice a' l c'] 28) = w5 at *
  have B5 := Lib.hid (bstep B4.out D4.out)
  refine (HC.out _ B5.out).mono ?_
  rintro e w6 ⟨rfl, hb⟩
  have B6 := Lib.hid (bstep B5.out hb)
  have K6 := Lib.hid (bstep D4.out hb)
  have K57 : ∀ {y : World}, Below w6.heap.size w6 y → Below w5.heap.size w5 y := fun k => bstep hb k
  clear hb
  go_wp2_with fail
  refine (HD.out _ B6.out).mono ?_
  rintro e w7 ⟨rfl, hb⟩
  have B7 := Lib.hid (bstep B6.out hb)
  have K7 := Lib.hid (bstep K6.out hb)
  have N7 := Lib.hid (N4.out.below K7.out)
  have M7 := Lib.hid (M4.out.below (K57 hb))
  have S7 := Lib.hid (S4.out.below K7.out)
  clear hb
  obtain ⟨n0, n1, n2, n3, n4, n5, n6⟩ := N7.out
  obtain ⟨m0, m1, m2, m3, m4, m5, m6⟩ := M7.out
  have SK := Lib.hid (SameKey_c id kind a2 a' l l c2 c' (bs8 (bl f l)) w7 (fun z k => S7.out.conv k) (fun z k => FS.out.conv (bstep B7.out k)))
  clear N7 M7
  go_wp2_with fail
  refine SK.out.mono ?_
  rintro e w8 ⟨rfl, hb⟩
  have B8 := Lib.hid (bstep B7.out hb)
  clear hb
  go_wp2_with fail
  go_ret
  exact ⟨by simp, B8.out⟩
set_option maxRecDepth 100000 in
set_option maxHeartbeats 2000000 in
theorem lifted (os : Os) (started : os.Started) (H : Type) (enc : TypeId × Value → H) :
    ReturnsInHanded {} Tryd.checked os 3 .any (fun w args => (Rows.macRingsSpec.pre enc Tryd.prog Tryd.f3 [] false w args ∧ laidMetH Tryd.prog Rows.macMakesRow.laid w) ∧ sizedMet enc Tryd.prog Tryd.f3 (OpenSpec.ofChange Rows.macRingsSpec) false w args)
      (Rows.macRingsSpec.post enc Tryd.prog Tryd.f3 false true false false) := by
  refine returnsInHanded_of_change_and (C := Tryd.checked) (X := fun w _ => laidMetH Tryd.prog Rows.macMakesRow.laid w) (fun _ _ _ hh h => h.of_heap hh) own started (by kernel_rfl) Tryd.func3
    (ChangeSpec.witness_shaped (enc := enc) (C := Tryd.checked) (os := os) (X := fun w _ => laidMetH Tryd.prog Rows.macMakesRow.laid w) false (World.doorLaid Tryd.prog 28 os) #[.slice none 0 0, .int .u32 0] 8 rfl (World.shaped_of_RefB (by kernel_rfl) (by kernel_rfl)) (by kernel_rfl) (by kernel_rfl) (by kernel_rfl) (door_met os _)) ?_
  intro W base args ds gs before hval0 hW _ hsz0 hL _
  have hsz : (DataW.weightsEach Tryd.prog (Tryd.f3.params.toList ++ Rows.macRingsSpec.plain.varTypes Tryd.prog) (ds ++ gs)).all (· ≤ reachBytes) = true := hsz0
  have hval : ∀ (j : Nat) t v, Tryd.f3.params[j]? = some t → args[j]? = some v → Value.okWide Tryd.prog W .any base t v := hval0
  have hW' := hW
  obtain ⟨p, q, hA0, hV, rfl, hfz, hnd⟩ := hW
  have hA : DataW.TrodAll enc Tryd.prog W 0 (fun _ => true) true Tryd.f3.params.toList args.toList ds p := hA0
  rw [Tryd.params3] at hA hval hsz
  obtain ⟨v0, vs0, d0, ds0, p0, q0, hargs, rfl, rfl, h0, r0⟩ := trodAll_cons hA
  obtain ⟨v1, vs1, d1, ds1, p1, q1, rfl, rfl, rfl, h1, r1⟩ := trodAll_cons r0
  obtain ⟨rfl, rfl, rfl⟩ := trodAll_nil r1
  obtain rfl : args = #[v0, v1] := by cases args; simp_all
  obtain ⟨rfl, rfl⟩ := trodVars_none hV
  have h0k := h0
  have hlt0 : ∀ x ∈ p0, x.block < W.heap.size := fun x hx => by have := hW'.lt x (by simp [hx]); simpa using this
  obtain ⟨n0, K0, g0⟩ := open_ring (hval 0 22 v0 rfl rfl) h0
  obtain ⟨a1, rfl, rfl, rfl, w1⟩ := open_int Tryd.underlying23 (hval 1 23 v1 rfl rfl) h1
  clear hA0 hval0
  simp only [List.append_nil] at hW'
  refine (walk v0 n0 K0 a1 W (gl_of_laid hL) g0).mono fun e W' ⟨he, hg⟩ => ?_
  subst he
  exact ⟨_, rfl, _, _, _, [], _, [], hW', trodAll_cons_mk (shut_bool Tryd.underlying4 _) trodAll_mk0,
    (trodAll_cons_mk (Below.trod laidOut (by kernel_rfl) (of_decide_eq_true (by kernel_rfl)) h0k hg hlt0) (trodAll_cons_mk (shut_int Tryd.underlying23 w1) trodAll_mk0)), rfl, hg.frame _, fun h => nomatch h⟩

theorem over : Rows.MacRingsSaid :=
  OpenClaim.holds_of_wide 3 Tryd.f3 rfl rfl rfl rfl rfl rfl rfl ⟨rfl, rfl, rfl, rfl, rfl⟩ rfl rfl rfl rfl rfl (by kernel_rfl) Tryd.func3 (by kernel_rfl)
    (of_decide_eq_true (by kernel_rfl)) (by unfold Func.isWrapper; first | (rw [if_pos (by decide +kernel)]; kernel_rfl) | (rw [if_neg (by decide +kernel)]; exact ⟨rfl, rfl⟩))
    (fun os started H enc _ => lifted os started H enc)

theorem proved : Rows.MacRingsCardSaid :=
  Claim7.holds_tied_plain_at .later [] [.data, .data, .data] true Rows.macRingsCard.stood.harness false
    over (fun _ h => by cases h) (by kernel_rfl) (fun _ h => by cases h) macRings_row_tie rfl ⟨rfl, rfl⟩ (by kernel_rfl) rfl
    (fun f fn hf hfn => by
      obtain rfl : f = 3 := Option.some.inj ((show Tryd.prog.funcNamed Rows.macRingsRow.func = some 3 by kernel_rfl).symm.trans hf) |>.symm
      obtain rfl : fn = Tryd.f3 := (Option.some.inj (Tryd.func3.symm.trans hfn)).symm
      exact ⟨by kernel_rfl, fun j t ht => by
        rw [Tryd.params3] at ht
        have hm : t ∈ [22, 23] := by simpa using Array.mem_of_getElem? ht
        have hall : ([22, 23].all fun u => !Tryd.prog.wantsStandIn u) = true := by kernel_rfl
        exact (show Tryd.prog.wantsStandIn t = false by simpa using List.all_eq_true.1 hall t hm)⟩)
    (by kernel_rfl)
end Go.Proofs.YtbbcgcfahaljoaaDoor.macRings
