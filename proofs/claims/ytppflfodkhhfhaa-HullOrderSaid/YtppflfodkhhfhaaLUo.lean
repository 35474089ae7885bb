/-
  HullOrder: The hull does not hang on the order of the sources, and moves with them. The law returns true for every input, and the input reads as it did.
  Conditions: none.
-/
import Derived.Test.YtppflfodkhhfhaaRows
import Derived.Test.YtppflfodkhhfhaaHuZ
import Derived.SizedLaws
import Derived.Lib.SmallJoins
namespace Go.Proofs.Ytppflfodkhhfhaa.hullOrder
open Go.ChangeShapes Go.WideShapes Go.ChangeAt Go.RowKit Go.Joins Fl Hu
set_option linter.unusedVariables false
set_option linter.unusedSimpArgs false

theorem own : ownKnob Try.prog.godebug = none := by kernel_rfl
theorem laidOut : laidOutB Try.prog = true := by kernel_rfl

theorem rmap_succ {α : Type} (g : Nat → α) (k : Nat) : (List.range (k + 1)).map g = (List.range k).map g ++ [g k] := by rw [List.range_succ, List.map_append]; rfl
theorem rany_succ (g : Nat → Bool) (k : Nat) : (List.range (k + 1)).any g = ((List.range k).any g || g k) := by rw [List.range_succ, List.any_append]; simp
theorem any_all {L : List Sn} {r : Nat} (hr : r < L.length) (h : (List.range L.length).any (fun i => fr (trn L r i)) = false) : ∀ s ∈ L, fr s = false := by
  intro s hs
  have hs' := (tl_perm hr).mem_iff.2 hs
  obtain ⟨i, hi, rfl⟩ := List.mem_map.1 hs'
  have := List.any_eq_false.1 h i hi
  simpa using this
set_option maxRecDepth 100000 in
set_option maxHeartbeats 8000000 in
theorem walk (pc : PC) (v : Value) (L : List Sn) (f turn dd : Int) (w : World) (g0 : Hs w v L ∧ (∀ s ∈ L, i64N s) ∧ L.length * 16 ≤ 140737488351232) (g1 : Lit.wf (.int .i64 f) = true) (g2 : Lit.wf (.int .i64 turn) = true) (g3 : Lit.wf (.int .i64 dd) = true) :
    Calls Try.prog 6 #[v, .int .i64 f, .int .i64 turn, .int .i64 dd] w fun e w' => e = .returned (.bool true) ∧ Below w.heap.size w w' := by
  obtain ⟨hS, hI, hN⟩ := g0
  have hN' : L.length ≤ 8796093022208 := by omega
  have fb := bounds_i64 g1
  have tb := bounds_i64 g2
  have db := bounds_i64 g3
  have AW := Lib.hid (awake15_c pc)
  have P1 := Lib.hid (fun w' (q : Below w.heap.size w w') => pc.hull w' v L f (hS.below q) hN' fb)
  have PM := Lib.hid (fun w' v' M (h : Hs w' v' M) (hl : M.length = L.length) => pc.hull w' v' M f h (hl ▸ hN') fb)
  have HS := Lib.hid hS
  have HI := Lib.hid hI
  obtain ⟨a, cap, rfl, c1, c2, _⟩ := hS
  clear pc g1 g2 g3 hI
  by_cases n0 : L.length = 0
  · obtain rfl : L = [] := List.length_eq_zero_iff.1 n0
    have ok0 : okL [] := by decide
    by_cases fn : f < 0
    · have d0 := decide_eq_true fn
      rw [huE_at (huA_range ok0 fn)] at P1
      go_enter Try.func6, Try.ntmps6
      go_wp2_with fail
      refine (AW.out _).mono ?_
      rintro e w1 ⟨rfl, hb⟩
      have B1 := Lib.hid hb
      clear hb AW
      go_wp2_with fail
      refine (P1.out _ B1.out).mono ?_
      rintro e w2 ⟨rfl, hb⟩
      have B2 := Lib.hid (balloc (bstep B1.out hb) (.cells #[.int .i64 0, .int .i64 0] 25))
      clear hb
      go_wp2_with fail
      go_ret
      exact ⟨rfl, B2.out⟩
    · have d0 := decide_eq_false fn
      have d1 : decide (0 ≤ f) = true := decide_eq_true (by omega)
      rw [huE_at (huA_bound ok0 fn (by show ((0 : Nat) : Int) ≤ f; omega))] at P1
      go_enter Try.func6, Try.ntmps6
      go_wp2_with fail
      refine (AW.out _).mono ?_
      rintro e w1 ⟨rfl, hb⟩
      have B1 := Lib.hid hb
      clear hb AW
      go_wp2_with fail
      refine (P1.out _ B1.out).mono ?_
      rintro e w2 ⟨rfl, hb⟩
      have B2 := Lib.hid (balloc (bstep B1.out hb) (.cells #[.int .i64 0, .int .i64 0] 25))
      clear hb
      go_wp2_with fail
      go_ret
      exact ⟨rfl, B2.out⟩
  · obtain ⟨m, hm⟩ : ∃ m, L.length = m := ⟨_, rfl⟩
    have HM := Lib.hid hm
    have hp : 0 < L.length := by omega
    have AT := Lib.hid (fun r i => trn_at (L := L) (r := r) (i := i) hp)
    have MEM := Lib.hid (fun r i => trn_mem (L := L) (r := r) hp i)
    rw [hm] at HS P1 c1 hN hN' n0 AT ⊢
    have m0 : (0 : Int) < (m : Int) := by omega
    have m1 : (m : Int) ≤ 8796093022208 := by omega
    have m2 : (m : Int) ≤ (cap : Int) := by omega
    have m3 : (cap : Int) ≤ 9223372036854775807 := by omega
    have mz : ((m : Int) == 0) = false := by rw [beq_eq_false_iff_ne]; omega
    obtain ⟨p1, hp1⟩ : ∃ p, turn.tmod (m : Int) = p := ⟨_, rfl⟩
    have p1b : -(m : Int) < p1 ∧ p1 < (m : Int) := by
      have := Int.tmod_lt_of_pos turn m0
      have := Int.lt_tmod_of_pos turn m0
      omega
    obtain ⟨ri, hp2⟩ : ∃ p, (p1 + (m : Int)).tmod (m : Int) = p := ⟨_, rfl⟩
    have rb : 0 ≤ ri ∧ ri < (m : Int) := by
      have := Int.tmod_lt_of_pos (p1 + (m : Int)) m0
      have := Int.tmod_nonneg (m : Int) (show 0 ≤ p1 + (m : Int) by omega)
      omega
    have wp1 : IntKind.i64.wrap p1 = p1 := wrap_in (by omega) (by omega)
    have wp2 : IntKind.i64.wrap (p1 + (m : Int)) = p1 + (m : Int) := wrap_in (by omega) (by omega)
    have wp3 : IntKind.i64.wrap ri = ri := wrap_in (by omega) (by omega)
    obtain ⟨d, hd⟩ : ∃ p, dd.tmod 1000000 = p := ⟨_, rfl⟩
    have dbd : -1000000 < d ∧ d < 1000000 := by
      have := Int.tmod_lt_of_pos dd (show (0 : Int) < 1000000 by decide)
      have := Int.lt_tmod_of_pos dd (show (0 : Int) < 1000000 by decide)
      omega
    have wd : IntKind.i64.wrap d = d := wrap_in (by omega) (by omega)
    obtain ⟨r, hr⟩ := Int.eq_ofNat_of_zero_le rb.1
    have HR := Lib.hid hr
    have rm : r < m := by omega
    have HRL : Hid (r < L.length) := Lib.hid (by rw [hm]; exact rm)
    go_enter Try.func6, Try.ntmps6
    go_wp2_with fail
    refine (AW.out _).mono ?_
    rintro e w1 ⟨rfl, hb⟩
    have B1 := Lib.hid hb
    clear hb AW hm hp n0
    go_wp2_with fail
    go_loopw [11, 12, 13] (fun ov fv iv wr => ∃ k : Nat, k ≤ m ∧ iv = .int .i64 (k : Nat) ∧ fv = .bool ((List.range k).any (fun i => fr (trn L r i))) ∧ OwnN wr w.heap.size ov ((List.range k).map (fun i => mw d (trn L r i))) ∧ Below w.heap.size w wr) (fun _ _ iv _ => m - (intOf iv).toNat)
    case atStart => exact ⟨0, by omega, rfl, rfl, OwnN.nil _ _, B1.out⟩
    case round =>
      obtain ⟨k, hk, rfl, rfl, ho, hb⟩ := hrel
      rename World => wr
      have HO := Lib.hid ho
      have HB := Lib.hid hb
      clear ho hb B1
      by_cases c : k < m
      · have e1 : decide ((k : Int) < (m : Int)) = true := decide_eq_true (by omega)
        have e2 : decide (k < m) = true := decide_eq_true c
        have k1 : (k : Int) < (m : Int) := by omega
        have wk : IntKind.i64.wrap ((k : Int) + 1) = (k : Int) + 1 := wrap_in (by omega) (by omega)
        have wj : IntKind.i64.wrap ((k : Int) + ri) = (k : Int) + ri := wrap_in (by omega) (by omega)
        have jm : (k + r) % m < m := Nat.mod_lt _ (by omega)
        have hjt : ((k : Int) + ri).tmod (m : Int) = (((k + r) % m : Nat) : Int) := by
          rw [HR.out, Int.tmod_eq_emod_of_nonneg (by omega)]
          exact (Int.natCast_emod (k + r) m).symm
        have ib0 : (0 : Int) ≤ ((k : Int) + (r : Int)) % (m : Int) := Int.emod_nonneg _ (by omega)
        have ib1 : ((k : Int) + (r : Int)) % (m : Int) < (m : Int) := Int.emod_lt_of_pos _ m0
        have hx := AT.out r k
        have IX := Lib.hid (HI.out _ (MEM.out r k))
        have ANY := Lib.hid (rany_succ (fun i => fr (trn L r i)) k)
        have MAP := Lib.hid (rmap_succ (fun i => mw d (trn L r i)) k)
        have LEN : Hid (((List.range k).map (fun i => mw d (trn L r i))).length = k) := Lib.hid (by rw [List.length_map, List.length_range])
        obtain ⟨oa, oc, eov⟩ := HO.out.form
        rw [LEN.out] at eov
        subst eov
        generalize trn L r k = x at *
        obtain ⟨b, off, rfl, y0, y1⟩ := (HS.out.below HB.out).at hx
        obtain ⟨H, hH⟩ : ∃ H, (List.range k).any (fun i => fr (trn L r i)) = H := ⟨_, rfl⟩
        rw [hH] at ANY ⊢
        obtain ⟨xl, xh⟩ := x
        have FE : Hid (fr ⟨xl, xh⟩ = (decide (xl < -1152921504606846976) || decide (1152921504606846976 < xh))) := Lib.hid rfl
        simp only at y0 y1
        obtain ⟨al, hal⟩ : ∃ z, IntKind.i64.wrap (xl + d) = z := ⟨_, rfl⟩
        obtain ⟨ah, hah⟩ : ∃ z, IntKind.i64.wrap (xh + d) = z := ⟨_, rfl⟩
        have MV : Hid (mw d ⟨xl, xh⟩ = ⟨al, ah⟩) := Lib.hid (by unfold mw; rw [hal, hah])
        rw [MV.out] at MAP
        have NX := Lib.hid (new2 wr xl xh 25)
        have BA := Lib.hid (balloc HB.out (.cells #[.int .i64 xl, .int .i64 xh] 25))
        have OA := Lib.hid (HO.out.below (balloc (brefl wr) (.cells #[.int .i64 xl, .int .i64 xh] 25)))
        obtain ⟨ov, w6, hr6, o6, b6⟩ := appN OA.out ⟨al, ah⟩ BA.out.size (by rw [LEN.out]; omega) 22
        rw [← MAP.out] at o6
        clear hx hH
        go_upto_region 14 with fail
        generalize wr.alloc (.cells #[.int .i64 xl, .int .i64 xh] 25) = wa at *
        replace hr6 : (Builtin.append_ #[22, 22] 22 #[.slice oa k oc, .slice (some ⟨wa.heap.size, 0, none⟩) 1 1]).run Try.prog (wa.alloc (.cells #[.int .i64 al, .int .i64 ah] 25)) = .ok ov w6 := hr6
        have R6 := Lib.hid hr6
        have O6 := Lib.hid o6
        have B6 := Lib.hid (BA.out.trans b6)
        obtain ⟨x0, x1⟩ := blk2 NX.out (brefl wa)
        clear hr6 o6 b6 y0 y1
        cases H with
        | true =>
          go_wp2_with (first | (at_builtin; refine wpList_append_eqL rfl _ _ 22 rfl _ _ ov w6 rfl rfl R6.out ?_))
          exact ⟨⟨k + 1, by omega, by go_num, by rw [ANY.out]; rfl, O6.out, B6.out⟩, by simp [intOf]; omega⟩
        | false =>
          cases e3 : decide (xl < -1152921504606846976) with
          | true =>
            go_wp2_with (first | (at_builtin; refine wpList_append_eqL rfl _ _ 22 rfl _ _ ov w6 rfl rfl R6.out ?_))
            exact ⟨⟨k + 1, by omega, by go_num, by rw [ANY.out, FE.out, e3]; rfl, O6.out, B6.out⟩, by simp [intOf]; omega⟩
          | false =>
            cases e4 : decide (1152921504606846976 < xh) with
            | true =>
              go_wp2_with (first | (at_builtin; refine wpList_append_eqL rfl _ _ 22 rfl _ _ ov w6 rfl rfl R6.out ?_))
              exact ⟨⟨k + 1, by omega, by go_num, by rw [ANY.out, FE.out, e3, e4]; rfl, O6.out, B6.out⟩, by simp [intOf]; omega⟩
            | false =>
              go_wp2_with (first | (at_builtin; refine wpList_append_eqL rfl _ _ 22 rfl _ _ ov w6 rfl rfl R6.out ?_))
              exact ⟨⟨k + 1, by omega, by go_num, by rw [ANY.out, FE.out, e3, e4]; rfl, O6.out, B6.out⟩, by simp [intOf]; omega⟩
      · have e1 : decide ((k : Int) < (m : Int)) = false := decide_eq_false (by omega)
        have e2 : decide (k < m) = false := decide_eq_false c
        obtain rfl : k = m := by omega
        have MS := HO.out.hs
        obtain ⟨ML, hML⟩ : ∃ M, (List.range k).map (fun i => mw d (trn L r i)) = M := ⟨_, rfl⟩
        have EM : ML = (tl L r).map (mw d) := by
          rw [← hML]
          unfold tl
          rw [List.map_map, HM.out]
          rfl
        have LM : ML.length = L.length := by rw [EM, List.length_map, (tl_perm HRL.out).length_eq]
        rw [hML] at MS
        obtain ⟨H, hH⟩ : ∃ H, (List.range k).any (fun i => fr (trn L r i)) = H := ⟨_, rfl⟩
        rw [hH]
        have MOV : Hid (H = false → (huA ML f).2 = (huA L f).2 ∧ ((huA L f).2 = 0 → huA ML f = (((huA L f).1.1 + d, (huA L f).1.2 + d), 0) ∧ -1152921504606846976 ≤ (huA L f).1.1 ∧ (huA L f).1.2 ≤ 1152921504606846976 ∧ (huA L f).1.1 ≤ (huA L f).1.2)) := Lib.hid fun hf => by
          rw [EM]
          exact huA_moved HRL.out HI.out (any_all HRL.out (by rw [HM.out, hH, hf])) dbd.1 dbd.2
        obtain ⟨oa, oc, eov, _⟩ := id MS
        subst eov
        have MSH := Lib.hid MS
        have PQ := Lib.hid (fun w' (q : Below wr.heap.size wr w') => PM.out w' _ ML (MS.below q) LM)
        have P2 := Lib.hid (P1.out wr HB.out)
        unfold huE at PQ P2
        rcases hA : huA L f with ⟨⟨a1, a2⟩, e⟩
        rcases hB : huA ML f with ⟨⟨b1, b2⟩, e'⟩
        rw [hA] at MOV P2
        rw [hB] at MOV PQ
        simp only at MOV P2 PQ
        have LL : ML.length = k := by rw [LM, HM.out]
        rw [LL] at PQ ⊢
        clear hA hB hH hML EM LM MS MSH PM LL HO P1
        go_wp2_with fail
        refine P2.out.mono ?_
        rintro x w2 ⟨rfl, hb⟩
        have hb2 := balloc hb (.cells #[.int .i64 a1, .int .i64 a2] 25)
        have B2 := Lib.hid (bstep HB.out hb2)
        have K2 := Lib.hid hb2
        have N2 := Lib.hid (new2 w2 a1 a2 25)
        clear hb hb2 P2
        go_wp2_with fail
        refine (PQ.out _ K2.out).mono ?_
        rintro x w3 ⟨rfl, hb⟩
        have hb2 := balloc hb (.cells #[.int .i64 b1, .int .i64 b2] 25)
        have B3 := Lib.hid (bstep B2.out hb2)
        have N3 := Lib.hid (N2.out.below hb2)
        have M3 := Lib.hid (new2 w3 b1 b2 25)
        clear hb hb2 PQ B2 K2 N2
        cases H with
        | true =>
          go_wp2_with fail
          go_ret
          exact ⟨rfl, B3.out⟩
        | false =>
          obtain ⟨q1, q2⟩ := MOV.out rfl
          subst q1
          by_cases ez : e' = 0
          · subst ez
            obtain ⟨q3, q4, q5, q6⟩ := q2 rfl
            simp only [Prod.mk.injEq, and_true] at q3
            obtain ⟨rfl, rfl⟩ := q3
            have wa1 : IntKind.i64.wrap (a1 + d) = a1 + d := wrap_in (by omega) (by omega)
            have wa2 : IntKind.i64.wrap (a2 + d) = a2 + d := wrap_in (by omega) (by omega)
            clear q2 MOV
            go_upto_region 20 with fail
            generalize w3.alloc (.cells #[.int .i64 (a1 + d), .int .i64 (a2 + d)] 25) = w4 at *
            obtain ⟨z0, z1⟩ := blk2 N3.out (brefl w4)
            obtain ⟨y0, y1⟩ := blk2 M3.out (brefl w4)
            go_wp2_with fail
            go_ret
            exact ⟨rfl, B3.out⟩
          · have ez2 : (e' != 0) = true := by simpa using ez
            clear q2 MOV
            go_wp2_with fail
            go_ret
            exact ⟨rfl, B3.out⟩
set_option maxRecDepth 100000 in
theorem lifted (os : Os) (started : os.Started) (H : Type) (enc : TypeId × Value → H) :
    ReturnsInHanded {} Try.checked os 6 .any (Rows.hullOrderSpec.pre6 enc Try.prog Try.f6 Rows.hullOrderRow.domain false) (Rows.hullOrderSpec.post enc Try.prog Try.f6 false true false false) := by
  refine returnsInHanded_of_change_sized (C := Try.checked) own started (by kernel_rfl) Try.func6
    (ChangeSpec.witness6 (enc := enc) (C := Try.checked) false ⟨#[], #[.slice none 0 0, .int .i64 0, .int .i64 0, .int .i64 0], []⟩ 8 (by kernel_rfl) (by kernel_rfl) (by kernel_rfl) (by kernel_rfl)) ?_
  intro W base args ds gs before hval0 hW hcnd hsz0 _
  have hsz : (DataW.weightsEach Try.prog (Try.f6.params.toList ++ Rows.hullOrderSpec.plain.varTypes Try.prog) (ds ++ gs)).all (· ≤ reachBytes) = true := hsz0
  have hval : ∀ (j : Nat) t v, Try.f6.params[j]? = some t → args[j]? = some v → Value.okWide Try.prog W .any base t v := hval0
  have hW' := hW
  obtain ⟨p, q, hA0, hV, rfl, hfz, hnd⟩ := hW
  have hA : DataW.TrodAll enc Try.prog W 0 (fun _ => true) true Try.f6.params.toList args.toList ds p := hA0
  rw [Try.params6] at hA hval hsz
  obtain ⟨v0, vs0, d0, ds0, p0, q0, hargs, rfl, rfl, h0, r0⟩ := trodAll_cons hA
  obtain ⟨v1, vs1, d1, ds1, p1, q1, rfl, rfl, rfl, h1, r1⟩ := trodAll_cons r0
  obtain ⟨v2, vs2, d2, ds2, p2, q2, rfl, rfl, rfl, h2, r2⟩ := trodAll_cons r1
  obtain ⟨v3, vs3, d3, ds3, p3, q3, rfl, rfl, rfl, h3, r3⟩ := trodAll_cons r2
  obtain ⟨rfl, rfl, rfl⟩ := trodAll_nil r3
  obtain rfl : args = #[v0, v1, v2, v3] := by cases args; simp_all
  obtain ⟨rfl, rfl⟩ := trodVars_none hV
  have h0k := h0
  have hlt0 : ∀ x ∈ p0, x.block < W.heap.size := fun x hx => by have := hW'.lt x (by simp [hx]); simpa using this
  have hb0 : ∀ es sp, d0 = .slice es sp → (es.length + sp.length) * Try.prog.bytesOf 25 ≤ reachBytes := by
    intro es sp he
    exact sized_slice hsz (j := 0) (t := 22) (e := 25) rfl (by rw [he]; rfl) Try.underlying22
  have h1k := h1
  have hlt1 : ∀ x ∈ p1, x.block < W.heap.size := fun x hx => by have := hW'.lt x (by simp [hx]); simpa using this
  have h2k := h2
  have hlt2 : ∀ x ∈ p2, x.block < W.heap.size := fun x hx => by have := hW'.lt x (by simp [hx]); simpa using this
  have h3k := h3
  have hlt3 : ∀ x ∈ p3, x.block < W.heap.size := fun x hx => by have := hW'.lt x (by simp [hx]); simpa using this
  obtain ⟨L0, g0⟩ := open_sns (hval 0 22 v0 rfl rfl) h0 hb0
  obtain ⟨z1, rfl, _, _, g1⟩ := open_int Try.underlying3 (hval 1 3 v1 rfl rfl) h1
  obtain ⟨z2, rfl, _, _, g2⟩ := open_int Try.underlying3 (hval 2 3 v2 rfl rfl) h2
  obtain ⟨z3, rfl, _, _, g3⟩ := open_int Try.underlying23 (hval 3 23 v3 rfl rfl) h3
  clear hA0 hval0
  simp only [List.append_nil] at hW'
  refine (walk pc v0 L0 z1 z2 z3 W g0 g1 g2 g3).mono fun e W' ⟨he, hg⟩ => ?_
  subst he
  exact ⟨_, rfl, _, _, _, [], _, [], hW', trodAll_cons_mk (shut_bool Try.underlying4 _) trodAll_mk0,
    (trodAll_cons_mk (Below.trod laidOut (by kernel_rfl) (of_decide_eq_true (by kernel_rfl)) h0k hg hlt0) (trodAll_cons_mk (Below.trod laidOut (by kernel_rfl) (of_decide_eq_true (by kernel_rfl)) h1k hg hlt1) (trodAll_cons_mk (Below.trod laidOut (by kernel_rfl) (of_decide_eq_true (by kernel_rfl)) h2k hg hlt2) (trodAll_cons_mk (Below.trod laidOut (by kernel_rfl) (of_decide_eq_true (by kernel_rfl)) h3k hg hlt3) trodAll_mk0)))), rfl, hg.frame _, fun h => nomatch h⟩

theorem over : Rows.hullOrderRow.holds Try.pinned (OpenSpec.ofChange Rows.hullOrderSpec) :=
  OpenClaim.holds_of_wide 6 Try.f6 rfl rfl rfl rfl rfl rfl rfl ⟨rfl, rfl, rfl, rfl, rfl⟩ rfl rfl rfl rfl rfl (by kernel_rfl) Try.func6 (by kernel_rfl)
    (of_decide_eq_true (by kernel_rfl)) (by unfold Func.isWrapper; first | (rw [if_pos (by decide +kernel)]; kernel_rfl) | (rw [if_neg (by decide +kernel)]; exact ⟨rfl, rfl⟩))
    (fun os started H enc _ => lifted os started H enc)

theorem proved : Rows.HullOrderSaid :=
  over
end Go.Proofs.Ytppflfodkhhfhaa.hullOrder
