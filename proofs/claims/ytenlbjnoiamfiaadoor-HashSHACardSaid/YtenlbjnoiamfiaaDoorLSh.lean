/-
  HashSHA: every row of bytes has just its SHA-256 digest. The law returns true for every input, and the input reads as it did.
  Conditions: the tables of package hash that the row lists read as the program's text lays them (the card ties them).
-/
import Derived.Test.YtenlbjnoiamfiaaDoorRows
import Derived.Test.YtenlbjnoiamfiaaDoorCards
import Derived.Test.YtenlbjnoiamfiaaDoorTie
import Derived.Test.YtenlbjnoiamfiaaDoorHsR3
import Derived.SevenTiedAt
namespace Go.Proofs.YtenlbjnoiamfiaaDoor.hashSHA
open Go.ChangeShapes Go.WideShapes Go.ChangeAt Go.RowKit Go.Joins Hs
set_option linter.unusedVariables false
set_option linter.unusedSimpArgs false

/-- an append whose outcome is known, behind a guard that holds. -/
theorem append_want {P : Program} {w : World} {ops : Array Oper} {rest : List Oper} {o : Oper} {a : Act} {Q : Exit → Act → World → Prop} (hw : Region.wanted o (yielded ops a.tmps) = true) (s x : Operand) (t : TypeId)
    (ho : o.op = .call { callee := .builtin .append, args := #[s, x], argTypes := #[t, t] }) (v xv v' : Value) (w' : World) (hs : a.eval s = v) (hx : a.eval x = xv)
    (hr : (Builtin.append_ #[t, t] o.type #[v, xv]).run P w = .ok v' w') (h : wpList P ops Q rest (a.put o.dst v') w') : wpList P ops Q (o :: rest) a w := by
  refine BigFrame.wpList_want hw fun K hK => ?_
  unfold Oper.wp execOp
  simp only [ho, resolve, invoke, builtin, Sem.run_bind, Sem.run_pure, Result.andThen_ok, List.map_toArray, List.map_cons, List.map_nil, hs, hx, hr]
  exact hK _ _ h

set_option maxRecDepth 100000 in
set_option maxHeartbeats 4000000 in
theorem walk (v : Value) (n : Nat) (f : Nat → Nat) (w : World) (G : Gl w) (A : Arg w v n f) :
    Calls Tryd.prog 4 #[v] w fun e w' => e = .returned (.bool true) ∧ Below w.heap.size w w' := by
  have HG := Lib.hid G
  have HA := Lib.hid A
  obtain ⟨a, cap, rfl, h1, h2, hf, h4, h5⟩ := A
  have HF := Lib.hid hf
  clear G hf h4 h5
  go_enter Tryd.func4, Tryd.ntmps4
  go_wp2_with fail
  refine (awake_c _ HG.out).mono ?_
  rintro e w1 ⟨rfl, hb⟩
  have B1 := Lib.hid hb
  clear hb
  have BA := Lib.hid (B1.out.trans ((balloc (brefl w1) (.cells #[] 5)).mono B1.out.size))
  obtain ⟨v2, w2, r2, o2, b2, s2, nn2⟩ := HA.out.app BA.out (own0 w1 w1.heap.size (Nat.le_refl _)) (by simp) (by simp; omega) 22
  rw [List.nil_append] at o2
  obtain ⟨g, cx, rfl, hg1, hbx, hc1, hc2⟩ := o2.bsF (nn2 (by simp)) HF.out
  have R2 := Lib.hid r2
  have X2 := Lib.hid hbx
  have B2 := Lib.hid (BA.out.trans (b2.mono B1.out.size))
  clear r2 o2 b2 s2 nn2 hbx BA
  go_wp2_with (at_builtin; refine append_want rfl _ _ 22 rfl _ _ _ w2 rfl rfl R2.out ?_)
  clear R2
  refine (SHA256_c g 0 n cx f w2 (HG.out.below B2.out) (by omega) hc1 hc2 X2.out).mono ?_
  rintro e w3 ⟨⟨va, rfl, own⟩, hb⟩
  have O3 := Lib.hid own
  have B3 := Lib.hid (bstep B2.out hb)
  clear own hb
  go_wp2_with fail
  refine (rSHA_c a n cap f w3 (by omega) HF.out (Lib.hid fun ty => by
    obtain ⟨v', w', h1, h2, h3, h4, _⟩ := HA.out.app B3.out (Own.nil w3 w3.heap.size) (Nat.le_refl _) (by simp; omega) ty
    exact ⟨v', w', h1, by simpa using h2, h3, h4⟩)).mono ?_
  rintro e w4 ⟨⟨vb, rfl, own⟩, hb⟩
  have C1 := O3.out.conv (by rw [sha_len]; omega) (ob_byte _ _ _) hb
  have C2 := own.conv (by rw [sha_len]; omega) (ob_byte _ _ _) (brefl w4)
  have B4 := Lib.hid (bstep B3.out hb)
  have SE := Lib.hid (rSame_eq _ _ _ w4 C1 C2)
  clear C1 C2 own hb O3
  go_wp2_with fail
  refine SE.out.mono ?_
  rintro e w5 ⟨rfl, rfl⟩
  go_wp2_with fail
  go_ret
  exact ⟨rfl, B4.out⟩

set_option maxRecDepth 100000 in
theorem lifted (os : Os) (started : os.Started) (H : Type) (enc : TypeId × Value → H) :
    ReturnsInHanded {} Tryd.checked os 4 .any (fun w args => (Rows.hashSHASpec.pre enc Tryd.prog Tryd.f4 [] false w args ∧ laidMetH Tryd.prog Rows.hashMDRow.laid w) ∧ sizedMet enc Tryd.prog Tryd.f4 (OpenSpec.ofChange Rows.hashSHASpec) false w args)
      (Rows.hashSHASpec.post enc Tryd.prog Tryd.f4 false true false false) := by
  refine returnsInHanded_of_change_and (C := Tryd.checked) (X := fun w _ => laidMetH Tryd.prog Rows.hashMDRow.laid w) (fun _ _ _ hh h => h.of_heap hh) own started (by kernel_rfl) Tryd.func4
    (ChangeSpec.witness_shaped (enc := enc) (C := Tryd.checked) (os := os) (X := fun w _ => laidMetH Tryd.prog Rows.hashMDRow.laid w) false (World.doorLaid Tryd.prog 28 os) #[.slice none 0 0] 8 rfl (World.shaped_of_RefB (by kernel_rfl) (by kernel_rfl)) (by kernel_rfl) (by kernel_rfl) (by kernel_rfl) (door_met os _)) ?_
  intro W base args ds gs before hval0 hW _ hsz0 hL _
  have hsz : (DataW.weightsEach Tryd.prog (Tryd.f4.params.toList ++ Rows.hashSHASpec.plain.varTypes Tryd.prog) (ds ++ gs)).all (· ≤ reachBytes) = true := hsz0
  have hval : ∀ (j : Nat) t v, Tryd.f4.params[j]? = some t → args[j]? = some v → Value.okWide Tryd.prog W .any base t v := hval0
  have hW' := hW
  obtain ⟨p, q, hA0, hV, rfl, hfz, hnd⟩ := hW
  have hA : DataW.TrodAll enc Tryd.prog W 0 (fun _ => true) true Tryd.f4.params.toList args.toList ds p := hA0
  rw [Tryd.params4] at hA hval hsz
  obtain ⟨v0, vs0, d0, ds0, p0, q0, hargs, rfl, rfl, h0, r0⟩ := trodAll_cons hA
  obtain ⟨rfl, rfl, rfl⟩ := trodAll_nil r0
  obtain rfl : args = #[v0] := by cases args; simp_all
  obtain ⟨rfl, rfl⟩ := trodVars_none hV
  have h0k := h0
  have hlt0 : ∀ x ∈ p0, x.block < W.heap.size := fun x hx => by have := hW'.lt x (by simp [hx]); simpa using this
  have hb : ∀ es sp, d0 = .slice es sp → (es.length + sp.length) * Tryd.prog.bytesOf 5 ≤ reachBytes := by
    intro es sp he
    exact sized_slice hsz (j := 0) (t := 22) (e := 5) rfl (by rw [he]; rfl) Tryd.underlying22
  obtain ⟨n0, f0, g0⟩ := open_bytes (hval 0 22 v0 rfl rfl) h0 hb
  clear hA0 hval0
  simp only [List.append_nil] at hW'
  refine (walk v0 n0 f0 W (gl_of_laid hL) g0).mono fun e W' ⟨he, hg⟩ => ?_
  subst he
  exact ⟨_, rfl, _, _, _, [], _, [], hW', trodAll_cons_mk (shut_bool Tryd.underlying4 _) trodAll_mk0,
    (trodAll_cons_mk (Below.trod laidOut (by kernel_rfl) (of_decide_eq_true (by kernel_rfl)) h0k hg hlt0) trodAll_mk0), rfl, hg.frame _, fun h => nomatch h⟩

theorem over : Rows.HashSHASaid :=
  OpenClaim.holds_of_wide 4 Tryd.f4 rfl rfl rfl rfl rfl rfl rfl ⟨rfl, rfl, rfl, rfl, rfl⟩ rfl rfl rfl rfl rfl (by kernel_rfl) Tryd.func4 (by kernel_rfl)
    (of_decide_eq_true (by kernel_rfl)) (by unfold Func.isWrapper; first | (rw [if_pos (by decide +kernel)]; kernel_rfl) | (rw [if_neg (by decide +kernel)]; exact ⟨rfl, rfl⟩))
    (fun os started H enc _ => lifted os started H enc)

theorem proved : Rows.HashSHACardSaid :=
  Claim7.holds_tied_plain_at .later [] [.data, .data, .data] true Rows.hashSHACard.stood.harness false
    over (fun _ h => by cases h) (by kernel_rfl) (fun _ h => by cases h) hashSHA_row_tie rfl ⟨rfl, rfl⟩ (by kernel_rfl) rfl
    (fun f fn hf hfn => by
      obtain rfl : f = 4 := Option.some.inj ((show Tryd.prog.funcNamed Rows.hashSHARow.func = some 4 by kernel_rfl).symm.trans hf) |>.symm
      obtain rfl : fn = Tryd.f4 := (Option.some.inj (Tryd.func4.symm.trans hfn)).symm
      exact ⟨by kernel_rfl, fun j t ht => by
        rw [Tryd.params4] at ht
        have hm : t ∈ [22] := by simpa using Array.mem_of_getElem? ht
        have hall : ([22].all fun u => !Tryd.prog.wantsStandIn u) = true := by kernel_rfl
        exact (show Tryd.prog.wantsStandIn t = false by simpa using List.all_eq_true.1 hall t hm)⟩)
    (by kernel_rfl)
end Go.Proofs.YtenlbjnoiamfiaaDoor.hashSHA
