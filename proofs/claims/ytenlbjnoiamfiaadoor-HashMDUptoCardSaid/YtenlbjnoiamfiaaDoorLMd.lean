/-
  HashMD: every row of bytes has just its MD5 digest, and its text in the base sixteen. The law returns true for every input, and the input reads as it did.
  Conditions: the tables of package hash that the row lists read as the program's text lays them (the card ties them); what comes in is of bulk at most 1048576.
-/
import Derived.Test.YtenlbjnoiamfiaaDoorRows
import Derived.Test.YtenlbjnoiamfiaaDoorCards
import Derived.Test.YtenlbjnoiamfiaaDoorTie
import Derived.Test.YtenlbjnoiamfiaaDoorHsV2
import Derived.SevenTiedAt
import Derived.Deep.DeepHandedRow
namespace Go.Proofs.YtenlbjnoiamfiaaDoor.hashMD
open Go.ChangeShapes Go.WideShapes Go.ChangeAt Go.RowKit Go.Joins Hs
set_option linter.unusedVariables false
set_option linter.unusedSimpArgs false

/-- an append whose outcome is known, behind a guard that holds. -/
theorem append_want {P : Program} {w : World} {ops : Array Oper} {rest : List Oper} {o : Oper} {a : Act} {Q : Exit → Act → World → Prop} (hw : Region.wanted o (yielded ops a.tmps) = true) (s x : Operand) (t : TypeId)
    (ho : o.op = .call { callee := .builtin .append, args := #[s, x], argTypes := #[t, t] }) (v xv v' : Value) (w' : World) (hs : a.eval s = v) (hx : a.eval x = xv)
    (hr : (Builtin.append_ #[t, t] o.type #[v, xv]).run P w = .ok v' w') (h : wpList P ops Q rest (a.put o.dst v') w') : wpList P ops Q (o :: rest) a w := by
  refine BigFrame.wpList_want hw fun K hK => ?_
  unfold Oper.wp execOp
  simp only [ho, resolve, invoke, builtin, Sem.run_bind, Sem.run_pure, Result.andThen_ok, List.map_toArray, List.map_cons, List.map_nil, hs, hx, hr]
  exact hK _ _ h

set_option maxRecDepth 100000 in
set_option maxHeartbeats 4000000 in
theorem walk (v : Value) (n : Nat) (f : Nat → Nat) (w : World) (G : Gl w) (A : Arg w v n f) (hn : n ≤ 1048576) :
    Calls Tryd.prog 3 #[v] w fun e w' => e = .returned (.bool true) ∧ Below w.heap.size w w' := by
  have HG := Lib.hid G
  have HA := Lib.hid A
  obtain ⟨a, cap, rfl, h1, h2, hf, h4, h5⟩ := A
  have HF := Lib.hid hf
  have H4 := Lib.hid h4
  clear G hf h4 h5
  go_enter Tryd.func3, Tryd.ntmps3
  go_wp2_with fail
  refine (awake_c _ HG.out).mono ?_
  rintro e w1 ⟨rfl, hb⟩
  have B1 := Lib.hid hb
  clear hb
  have BA := Lib.hid (B1.out.trans ((balloc (brefl w1) (.cells #[] 5)).mono B1.out.size))
  obtain ⟨v2, w2, r2, o2, b2, s2, nn2⟩ := HA.out.app BA.out (own0 w1 w1.heap.size (Nat.le_refl _)) (by simp) (by simp; omega) 22
  rw [List.nil_append] at o2
  obtain ⟨g, cx, rfl, hg1, hbx, hc1, hc2⟩ := o2.bsF (nn2 (by simp)) HF.out
  have R2 := Lib.hid r2
  have X2 := Lib.hid hbx
  have B2 := Lib.hid (BA.out.trans (b2.mono B1.out.size))
  clear r2 o2 b2 s2 nn2 hbx BA
  go_wp2_with (at_builtin; refine append_want rfl _ _ 22 rfl _ _ _ w2 rfl rfl R2.out ?_)
  clear R2
  refine (MD5_c g 0 n cx f w2 (HG.out.below B2.out) (by omega) hc1 hc2 X2.out).mono ?_
  rintro e w3 ⟨⟨va, rfl, own⟩, hb⟩
  have O3 := Lib.hid own
  have B3 := Lib.hid (bstep B2.out hb)
  clear own hb
  go_wp2_with fail
  refine (rMD5_c a n cap f w3 (by omega) HF.out (Lib.hid fun ty => by
    obtain ⟨v', w', h1, h2, h3, h4, _⟩ := HA.out.app B3.out (Own.nil w3 w3.heap.size) (Nat.le_refl _) (by simp; omega) ty
    exact ⟨v', w', h1, by simpa using h2, h3, h4⟩)).mono ?_
  rintro e w4 ⟨⟨vb, rfl, own⟩, hb⟩
  have C1 := O3.out.conv (by rw [md5_len]; omega) (ob_byte _ _ _) hb
  have C2 := own.conv (by rw [md5_len]; omega) (ob_byte _ _ _) (brefl w4)
  have B4 := Lib.hid (bstep B3.out hb)
  have SE := Lib.hid (rSame_eq _ _ _ w4 C1 C2)
  clear C1 C2 own hb O3
  go_wp2_with fail
  refine SE.out.mono ?_
  rintro e w5 ⟨rfl, rfl⟩
  go_wp2_with fail
  refine (HA.out.hex B4.out).mono ?_
  rintro e w6 ⟨rfl, hb⟩
  have B6 := Lib.hid (bstep B4.out hb)
  clear hb
  go_wp2_with fail
  refine (rHex_c a n cap f w6 (by omega) HF.out (Lib.hid fun hn => by obtain ⟨b, off, ea, B⟩ := H4.out hn; exact ⟨b, off, ea, B.below B6.out⟩)).mono ?_
  rintro e w7 ⟨rfl, hb⟩
  have B7 := Lib.hid (bstep B6.out hb)
  clear hb
  go_wp2_with fail
  go_ret
  exact ⟨rfl, B7.out⟩

theorem bulk_one {H : Type} (d : DataW H) : 1 ≤ Rows.uptoBulk d := by
  cases d with
  | lit l => cases l <;> simp [Rows.uptoBulk]
  | _ => simp [Rows.uptoBulk]
theorem bulk_len {H : Type} : ∀ l : List (DataW H), l.length ≤ Rows.uptoBulkAll l
  | [] => Nat.zero_le _
  | d :: r => by
    have a := bulk_one d
    have b := bulk_len r
    simp only [List.length_cons, Rows.uptoBulkAll]
    omega
/-- how many bytes there are, by the bulk. -/
theorem arg_len {H : Type} {enc : TypeId × Value → H} {W : World} {v : Value} {d : DataW H} {p : List MemPlace} {n : Nat} {f : Nat → Nat} (A : Arg W v n f)
    (h : DataW.Trod enc Tryd.prog W 0 (fun _ => true) true 22 v d p) (hk : Rows.uptoBulkAll [d] ≤ 1048576) : n ≤ 1048576 := by
  obtain ⟨a, cap, rfl, _⟩ := A
  obtain ⟨fuel, hf⟩ := h
  rcases open_ints Tryd.underlying22 Tryd.underlying5 cells5 hf with ⟨hcs, hx⟩ | ⟨a, len', cap', zs, hcs, _, hl, hm, hz, hx, hcell, hwz⟩
  · simp [Value.cells] at hcs
    omega
  · simp [Value.cells] at hcs
    obtain ⟨_, rfl, rfl⟩ := hcs
    simp only [if_true] at hz
    simp only [Prod.mk.injEq] at hx
    rw [hx.1] at hk
    have b := bulk_len (lits .u8 (zs.take n) : List (DataW H))
    have e : (lits .u8 (zs.take n) : List (DataW H)).length = n := by simp [lits]; omega
    simp only [Rows.uptoBulkAll, Rows.uptoBulk] at hk
    omega


theorem reads (os : Os) {H : Type} (enc : TypeId × Value → H) : ∃ places, DataW.whole enc Tryd.prog ((World.doorLaid Tryd.prog 28 os).forCall (fun _ _ => 0) ⟨#[], #[.slice none 0 0], []⟩).memory Tryd.f3.params.toList Rows.hashMDSpec.vars false #[Value.slice none 0 0].toList 8 = some ([.nil], [], places) :=
  ⟨[], by kernel_rfl⟩

set_option maxRecDepth 100000 in
theorem lifted (os : Os) (started : os.Started) (H : Type) (enc : TypeId × Value → H) (I : Stop.Interp) :
    ReturnsInHanded {} Tryd.checked os 3 .any ((Rows.OpenSpec.upto Rows.hashMDSpec).preRow enc Tryd.prog Tryd.f3 Rows.hashMDUptoRow.domain false Rows.hashMDUptoRow.laid) (((Rows.OpenSpec.upto Rows.hashMDSpec).at I).post enc Tryd.prog Tryd.f3 false true false false) := by
  obtain ⟨places, hx⟩ := reads os enc
  refine returnsInHanded_of_row (C := Tryd.checked) (s := Rows.OpenSpec.upto Rows.hashMDSpec) own started (by kernel_rfl) Tryd.func3
    (witness_row_at (enc := enc) (C := Tryd.checked) false (World.doorLaid Tryd.prog 28 os) #[.slice none 0 0] rfl (by kernel_rfl) (by kernel_rfl) (by kernel_rfl)
      (OpenSpec.preRow_of_cond 8 hx (by kernel_rfl) (fun k hk => by cases hk; kernel_rfl) (by kernel_rfl) (door_met os _))) ?_
  intro W base args ds gs before hval0 hW _ hcond hsz0 hL _ _
  have hsz : (DataW.weightsEach Tryd.prog (Tryd.f3.params.toList ++ Rows.hashMDSpec.plain.varTypes Tryd.prog) (ds ++ gs)).all (· ≤ reachBytes) = true := hsz0
  have hval : ∀ (j : Nat) t v, Tryd.f3.params[j]? = some t → args[j]? = some v → Value.okWide Tryd.prog W .any base t v := hval0
  have hk0 := of_decide_eq_true (hcond _ rfl)
  have hW' := hW
  obtain ⟨p, q, hA0, hV, rfl, hfz, hnd⟩ := hW
  have hA : DataW.TrodAll enc Tryd.prog W 0 (fun _ => true) true Tryd.f3.params.toList args.toList ds p := hA0
  rw [Tryd.params3] at hA hval hsz
  obtain ⟨v0, vs0, d0, ds0, p0, q0, hargs, rfl, rfl, h0, r0⟩ := trodAll_cons hA
  obtain ⟨rfl, rfl, rfl⟩ := trodAll_nil r0
  obtain rfl : args = #[v0] := by cases args; simp_all
  obtain ⟨rfl, rfl⟩ := trodVars_none hV
  have h0k := h0
  have hlt0 : ∀ x ∈ p0, x.block < W.heap.size := fun x hx => by have := hW'.lt x (by simp [hx]); simpa using this
  have hb : ∀ es sp, d0 = .slice es sp → (es.length + sp.length) * Tryd.prog.bytesOf 5 ≤ reachBytes := by
    intro es sp he
    exact sized_slice hsz (j := 0) (t := 22) (e := 5) rfl (by rw [he]; rfl) Tryd.underlying22
  obtain ⟨n0, f0, g0⟩ := open_bytes (hval 0 22 v0 rfl rfl) h0 hb
  have hn := arg_len g0 h0 hk0
  clear hA0 hval0
  simp only [List.append_nil] at hW'
  refine (walk v0 n0 f0 W (gl_of_laid hL) g0 hn).mono fun e W' ⟨he, hg⟩ => ?_
  subst he
  exact ⟨_, rfl, _, _, _, [], _, [], hW', trodAll_cons_mk (shut_bool Tryd.underlying4 _) trodAll_mk0,
    (trodAll_cons_mk (Below.trod laidOut (by kernel_rfl) (of_decide_eq_true (by kernel_rfl)) h0k hg hlt0) trodAll_mk0), rfl, hg.frame _, fun h => nomatch h⟩

theorem over : Rows.HashMDUptoSaid :=
  OpenClaim.holds_of_cond 3 Tryd.f3 rfl rfl rfl rfl rfl rfl rfl ⟨rfl, rfl, rfl, rfl, rfl⟩ rfl rfl rfl rfl rfl (by kernel_rfl) Tryd.func3 (by kernel_rfl)
    (of_decide_eq_true (by kernel_rfl)) (by unfold Func.isWrapper; first | (rw [if_pos (by decide +kernel)]; kernel_rfl) | (rw [if_neg (by decide +kernel)]; exact ⟨rfl, rfl⟩))
    (fun os started H enc _ I => by rw [OpenClaim.pre_eq_preRow]; exact lifted os started H enc I)

theorem proved : Rows.HashMDUptoCardSaid :=
  Claim7.holds_tied_plain_at .later [] _ _ _ _ over (fun _ h => by cases h) (by kernel_rfl) (fun _ h => by cases h) hashMDUpto_row_tie rfl ⟨rfl, rfl⟩ (by kernel_rfl) rfl
    (fun f fn hf hfn => by
      obtain rfl : f = 3 := Option.some.inj ((show Tryd.prog.funcNamed Rows.hashMDUptoRow.func = some 3 by kernel_rfl).symm.trans hf) |>.symm
      obtain rfl : fn = Tryd.f3 := (Option.some.inj (Tryd.func3.symm.trans hfn)).symm
      exact ⟨by kernel_rfl, fun j t ht => by
        rw [Tryd.params3] at ht
        have hm : t ∈ [22] := by simpa using Array.mem_of_getElem? ht
        have hall : ([22].all fun u => !Tryd.prog.wantsStandIn u) = true := by kernel_rfl
        exact (show Tryd.prog.wantsStandIn t = false by simpa using List.all_eq_true.1 hall t hm)⟩)
    (by kernel_rfl)
end Go.Proofs.YtenlbjnoiamfiaaDoor.hashMD
