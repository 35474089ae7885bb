/-
  AesChain: what goes ahead of a tag's last blocks comes in through one enciphered block alone. The law returns true for every input, and the input reads as it did.
  Conditions: none.
-/
import Derived.Test.YtfefkakdhaecpaaRows
import Derived.Test.YtfefkakdhaecpaaAeZ
import Derived.SizedLaws
import Derived.Lib.SmallJoins
namespace Go.Proofs.Ytfefkakdhaecpaa.aesChain
open Go.ChangeShapes Go.WideShapes Go.ChangeAt Go.RowKit Go.Joins By Ae
set_option linter.unusedVariables false
set_option linter.unusedSimpArgs false

theorem own : ownKnob Try.prog.godebug = none := by kernel_rfl
theorem laidOut : laidOutB Try.prog = true := by kernel_rfl

theorem bl_byte' {f : Nat → Nat} (hf : ∀ i, f i < 256) (n : Nat) : ∀ x ∈ bl f n, x < 256 := by
  intro x hx
  simp only [bl, List.mem_map] at hx
  obtain ⟨i, _, rfl⟩ := hx
  exact hf i

set_option maxRecDepth 100000 in
set_option maxHeartbeats 4000000 in
theorem walk (v0 : Value) (n0 : Nat) (f0 : Nat → Nat) (v1 : Value) (n1 : Nat) (f1 : Nat → Nat) (v2 : Value) (n2 : Nat) (f2 : Nat → Nat) (v3 : Value) (n3 : Nat) (f3 : Nat → Nat) (w : World) (A0 : Arg w v0 n0 f0) (A1 : Arg w v1 n1 f1) (A2 : Arg w v2 n2 f2) (A3 : Arg w v3 n3 f3) :
    Calls Try.prog 6 #[v0, v1, v2, v3] w fun e w' => e = .returned (.bool true) ∧ Below w.heap.size w w' := by
  have H0 := Lib.hid A0
  have H1 := Lib.hid A1
  have H2 := Lib.hid A2
  have H3 := Lib.hid A3
  have LN : n3 ≤ 140737488351232 := by
    obtain ⟨p, c, _, h1, h2, _⟩ := A3
    omega
  have F3 : Hid (∀ i, f3 i < 256) := Lib.hid (by
    obtain ⟨p, c, _, h1, h2, h3, _⟩ := A3
    exact h3)
  have MK := mk16
  clear A0 A1 A2 A3
  go_enter Try.func6, Try.ntmps6
  go_wp2_with fail
  refine (awake_c _).mono ?_
  rintro e w1 ⟨rfl, hb⟩
  have B1 := Lib.hid hb
  clear hb
  go_wp2_with fail
  refine (fit_any H0.out B1.out).mono ?_
  rintro e w2 ⟨gk, rfl, hgk, bk, hb⟩
  have K2 := Lib.hid bk
  have B2 := Lib.hid (bstep B1.out hb)
  clear bk hb B1
  go_wp2_with fail
  refine (fit_any H1.out B2.out).mono ?_
  rintro e w3 ⟨gx, rfl, hgx, bx, hb⟩
  have K3 := Lib.hid (K2.out.below hb)
  have X3 := Lib.hid bx
  have B3 := Lib.hid (bstep B2.out hb)
  clear bx hb K2 B2
  go_wp2_with fail
  refine (fit_any H2.out B3.out).mono ?_
  rintro e w4 ⟨gy, rfl, hgy, by', hb⟩
  have K4 := Lib.hid (K3.out.below hb)
  have X4 := Lib.hid (X3.out.below hb)
  have Y4 := Lib.hid by'
  have B4 := Lib.hid (bstep B3.out hb)
  clear by' hb K3 X3 B3
  have KF := Lib.hid K4.out.2.1
  have XF := Lib.hid X4.out.2.1
  have YF := Lib.hid Y4.out.2.1
  generalize pad0 f0 n0 = K at *
  generalize pad0 f1 n1 = X at *
  generalize pad0 f2 n2 = Y at *
  have WA := Lib.hid (kW_all KF.out)
  go_wp2_with fail
  refine (Encipher_c (some ⟨gk, 0, none⟩) (some ⟨gx, 0, none⟩) 16 16 K X w4 (fun _ => ⟨gk, 0, rfl, K4.out⟩) (fun _ => ⟨gx, 0, rfl, X4.out⟩) (fun i _ => KF.out i) (fun i _ => XF.out i)).mono ?_
  rintro e w5 ⟨gi, rfl, hgi, ai, hb⟩
  have I5 := Lib.hid (ai.bs (fun _ _ => rfl) (enc_all WA.out))
  have K5 := Lib.hid (K4.out.below hb)
  have X5 := Lib.hid (X4.out.below hb)
  have Y5 := Lib.hid (Y4.out.below hb)
  have B5 := Lib.hid (bstep B4.out hb)
  clear ai hb K4 X4 Y4 B4
  have BA := balloc (brefl w5) (.cells #[.int .u8 0, .int .u8 0, .int .u8 0, .int .u8 0, .int .u8 0, .int .u8 0, .int .u8 0, .int .u8 0, .int .u8 0, .int .u8 0, .int .u8 0, .int .u8 0, .int .u8 0, .int .u8 0, .int .u8 0, .int .u8 0] 5)
  have I6 := Lib.hid (I5.out.below BA)
  have K6 := Lib.hid (K5.out.below BA)
  have X6 := Lib.hid (X5.out.below BA)
  have Y6 := Lib.hid (Y5.out.below BA)
  have B6 := Lib.hid (bstep B5.out BA)
  have J6 : Hid (Ay (w5.alloc (.cells #[.int .u8 0, .int .u8 0, .int .u8 0, .int .u8 0, .int .u8 0, .int .u8 0, .int .u8 0, .int .u8 0, .int .u8 0, .int .u8 0, .int .u8 0, .int .u8 0, .int .u8 0, .int .u8 0, .int .u8 0, .int .u8 0] 5)) w5.heap.size 0 16 (fun _ => 0)) := Lib.hid (Ay.new0 w5 16 5)
  have LI := I5.out.1
  have LK := K5.out.1
  have LX := X5.out.1
  have LY := Y5.out.1
  have LW := B5.out.size
  clear I5 K5 X5 Y5 B5 BA
  have EF := Lib.hid (fun i => enc_all (B := X) WA.out i)
  generalize hE : enc (kW K) X = E at *
  have HE := Lib.hid hE
  clear hE
  go_wp2_with fail
  generalize w5.alloc (.cells #[.int .u8 0, .int .u8 0, .int .u8 0, .int .u8 0, .int .u8 0, .int .u8 0, .int .u8 0, .int .u8 0, .int .u8 0, .int .u8 0, .int .u8 0, .int .u8 0, .int .u8 0, .int .u8 0, .int .u8 0, .int .u8 0] 5) = W6 at *
  generalize w5.heap.size = gj at *
  clear MK
  go_loopw [15] (fun i wr => ∃ k : Nat, k ≤ 16 ∧ i = .int .i64 k ∧ Ay wr gj 0 16 (fun i => if i < k then xr E Y i else 0) ∧ Below gj W6 wr) (fun i _ => 16 - (intOf i).toNat)
  case atStart => exact ⟨0, by omega, rfl, J6.out.eq (by simp), Below.refl _ _⟩
  case round =>
    clear J6
    obtain ⟨k, hk, rfl, ar, hb⟩ := hrel
    rename World => wr
    have AR := Lib.hid ar
    have BB := Lib.hid hb
    clear ar hb
    by_cases c : k < 16
    · have e0 : decide ((k : Int) < 16) = true := by rw [decide_eq_true_iff]; omega
      obtain ⟨a1, a2⟩ := AR.out.at c
      rw [if_neg (Nat.lt_irrefl _)] at a1
      have g1 := (I6.out.belowB LI BB.out).2.2 k c
      have g2 := (Y6.out.belowB LY BB.out).2.2 k c
      have e1 := EF.out k
      have y1 := YF.out k
      have XO := xor8 (E k) (Y k) e1 y1
      have XE : Hid (xr E Y k = E k ^^^ Y k) := rfl
      have VL := lt_xor8 e1 y1
      have ST := Lib.hid (AR.out.set0 k (E k ^^^ Y k) c VL)
      rw [Nat.zero_add] at g1 g2
      generalize E k ^^^ Y k = z at *
      generalize E k = x at *
      generalize Y k = y at *
      have k0 : (0 : Int) ≤ (k : Int) := by omega
      have k1 : (k : Int) < 16 := by omega
      go_wp2_with fail
      go_region
      go_wp2_with fail
      go_roundw
      case rel => exact ⟨k + 1, by omega, by go_num, (ST.out.below (bdrew1 _ _)).eq (fun i hi => by unfold up; by_cases e : i = k <;> by_cases e' : i < k <;> simp [e, e', XE.out] <;> omega), (BB.out.setCell (Nat.le_refl _) _).trans (bdrew1 _ _)⟩
      case measure => simp [intOf]; omega
    · have e0 : decide ((k : Int) < 16) = false := by rw [decide_eq_false_iff_not]; omega
      obtain rfl : k = 16 := by omega
      have JF := Lib.hid (xr_lt EF.out YF.out)
      have J7 := Lib.hid (AR.out.bs (fun i hi => by rw [if_pos hi]) JF.out)
      have K7 := Lib.hid (K6.out.belowB LK BB.out)
      have X7 := Lib.hid (X6.out.belowB LX BB.out)
      have Y7 := Lib.hid (Y6.out.belowB LY BB.out)
      have B7 := Lib.hid (B6.out.trans (BB.out.mono LW))
      clear AR BB K6 X6 Y6 I6 B6
      have O0 := own0 wr wr.heap.size (Nat.le_refl _)
      have BZ := balloc (brefl wr) (.cells #[] 5)
      obtain ⟨va, wa, ra, oa, ba, sa⟩ := appB O0 (X7.out.below BZ) 16 BZ.size (by simp) 22
      have BA := BZ.trans ba
      obtain ⟨vb, wb, rb, ob, bb, sb⟩ := appB oa (Y7.out.below BA) 16 BA.size (by rw [List.nil_append, bl_len]; omega) 22
      have BB := BA.trans bb
      obtain ⟨vc, wc, rc, oc, bc, sc, _⟩ := H3.out.app (bstep B7.out BB) ob BB.size (by rw [List.length_append, List.nil_append, bl_len, bl_len]; omega) 22
      have BC := BB.trans bc
      rw [List.nil_append] at oc
      have LC : (bl X 16 ++ bl Y 16 ++ bl f3 n3).length = 32 + n3 := by simp only [List.length_append, bl_len]
      obtain ⟨gc, cc, rfl, hgc, BSC, hc1, hc2⟩ := Own.bsC oc (by rw [LC]; omega) (fun x hx => by
        simp only [List.mem_append] at hx
        rcases hx with (hx | hx) | hx
        · exact bl_byte' XF.out 16 x hx
        · exact bl_byte' YF.out 16 x hx
        · exact bl_byte' F3.out n3 x hx)
      have RA := Lib.hid ra
      have RB := Lib.hid rb
      have RC := Lib.hid rc
      rw [LC] at RC BSC hc1
      have M1H := Lib.hid BSC
      have K8 := Lib.hid (K7.out.below BC)
      have J8 := Lib.hid (J7.out.below BC)
      have B8 := Lib.hid (bstep B7.out BC)
      have e1 : ∀ i, i < 16 → (bl X 16 ++ bl Y 16 ++ bl f3 n3).getD i 0 = X i := fun i hi => by rw [List.append_assoc, bl_get hi]
      have e2 : ∀ i, i < 16 → (bl X 16 ++ bl Y 16 ++ bl f3 n3).getD (16 + i) 0 = Y i := fun i hi => by rw [List.append_assoc, app_get, bl_get hi]
      have e4 : ∀ j, 16 ≤ j → (bl X 16 ++ bl Y 16 ++ bl f3 n3).getD (16 + j) 0 = (bl (xr E Y) 16 ++ bl f3 n3).getD j 0 := fun j hj => by
        obtain ⟨d, rfl⟩ : ∃ d, j = 16 + d := ⟨j - 16, by omega⟩
        rw [List.append_assoc, app_get, app_get, app_get]
      have e3 : ∀ i, i < 16 → (bl (xr E Y) 16 ++ bl f3 n3).getD i 0 = enc (kW K) X i ^^^ Y i := fun i hi => by rw [bl_get hi, HE.out]; rfl
      have TG := Lib.hid (bl_congr (tag_chain (W := kW K) n3 e1 e2 e3 e4))
      have M1L := Lib.hid BSC.2.1
      clear e0 e1 e2 e3 e4 ra rb rc oa ob oc O0 BZ BA BB BC ba bb bc BSC K7 J7 B7
      go_wp2_with (first | (at_builtin; refine wpList_append_eq rfl (.tmp 59) (.tmp 60) 22 rfl _ _ va wa rfl rfl RA.out ?_) | (at_builtin; refine wpList_append_eq rfl (.tmp 61) (.tmp 62) 22 rfl _ _ vb wb rfl rfl RB.out ?_) | (at_builtin; refine wpList_append_eq rfl (.tmp 63) (.tmp 64) 22 rfl _ _ _ wc rfl rfl RC.out ?_))
      refine (CMAC_c (some ⟨gk, 0, none⟩) (some ⟨gc, 0, none⟩) (32 + n3) 16 cc K _ wc (fun _ => ⟨gk, 0, rfl, K8.out⟩) (fun _ => ⟨gc, 0, rfl, M1H.out⟩) (fun i _ => KF.out i) M1L.out hc1 (by omega)).mono ?_
      rintro e w9 ⟨g1, rfl, hg1, a1, hb⟩
      have T9 := Lib.hid (a1.bs (fun _ _ => rfl) (enc_all WA.out))
      have K9 := Lib.hid (K8.out.below hb)
      have J9 := Lib.hid (J8.out.below hb)
      have B9 := Lib.hid (bstep B8.out hb)
      clear a1 hb K8 J8 B8 RA RB RC M1H
      have O0 := own0 w9 w9.heap.size (Nat.le_refl _)
      have BZ := balloc (brefl w9) (.cells #[] 5)
      obtain ⟨vd, wd, rd, od, bd, sd⟩ := appB O0 (J9.out.below BZ) 16 BZ.size (by simp) 22
      have BD := BZ.trans bd
      obtain ⟨ve, we, re, oe, be, se, _⟩ := H3.out.app (bstep B9.out BD) od BD.size (by rw [List.nil_append, bl_len]; omega) 22
      have BE := BD.trans be
      rw [List.nil_append] at oe
      have LE : (bl (xr E Y) 16 ++ bl f3 n3).length = 16 + n3 := by simp only [List.length_append, bl_len]
      obtain ⟨ge, ce, rfl, hge, BSE, he1, he2⟩ := Own.bsC oe (by rw [LE]; omega) (fun x hx => by
        simp only [List.mem_append] at hx
        rcases hx with hx | hx
        · exact bl_byte' JF.out 16 x hx
        · exact bl_byte' F3.out n3 x hx)
      have RD := Lib.hid rd
      have RE := Lib.hid re
      rw [LE] at RE BSE he1
      have M2H := Lib.hid BSE
      have M2L := Lib.hid BSE.2.1
      have K10 := Lib.hid (K9.out.below BE)
      have T10 := Lib.hid (T9.out.below BE)
      have B10 := Lib.hid (bstep B9.out BE)
      clear rd re od oe O0 BZ BD BE bd be BSE K9 J9 B9 T9
      go_wp2_with (first | (at_builtin; refine wpList_append_eq rfl (.tmp 71) (.tmp 72) 22 rfl _ _ vd wd rfl rfl RD.out ?_) | (at_builtin; refine wpList_append_eq rfl (.tmp 73) (.tmp 74) 22 rfl _ _ _ we rfl rfl RE.out ?_))
      refine (CMAC_c (some ⟨gk, 0, none⟩) (some ⟨ge, 0, none⟩) (16 + n3) 16 ce K _ we (fun _ => ⟨gk, 0, rfl, K10.out⟩) (fun _ => ⟨ge, 0, rfl, M2H.out⟩) (fun i _ => KF.out i) M2L.out he1 (by omega)).mono ?_
      rintro e w11 ⟨g2, rfl, hg2, a2, hb⟩
      have c2 := (Cv.bs (cap := 16) (a2.bs (fun _ _ => rfl) (enc_all WA.out))).here
      have c1 := (Cv.bs (cap := 16) (T10.out.below hb)).here
      rw [TG.out] at c1
      have B11 := Lib.hid (bstep B10.out hb)
      clear a2 hb K10 T10 B10 RD RE M2H TG
      generalize bs8 (bl (tg (kW K) (fun i => (bl (xr E Y) 16 ++ bl f3 n3).getD i 0) (16 + n3)) 16) = S at *
      go_wp2_with fail
      go_ret
      exact ⟨rfl, B11.out⟩

set_option maxRecDepth 100000 in
theorem lifted (os : Os) (started : os.Started) (H : Type) (enc : TypeId × Value → H) :
    ReturnsInHanded {} Try.checked os 6 .any (Rows.aesChainSpec.pre6 enc Try.prog Try.f6 Rows.aesChainRow.domain false) (Rows.aesChainSpec.post enc Try.prog Try.f6 false true false false) := by
  refine returnsInHanded_of_change_sized (C := Try.checked) own started (by kernel_rfl) Try.func6
    (ChangeSpec.witness6 (enc := enc) (C := Try.checked) false ⟨#[], #[.slice none 0 0, .slice none 0 0, .slice none 0 0, .slice none 0 0], []⟩ 8 (by kernel_rfl) (by kernel_rfl) (by kernel_rfl) (by kernel_rfl)) ?_
  intro W base args ds gs before hval0 hW hcnd hsz0 _
  have hsz : (DataW.weightsEach Try.prog (Try.f6.params.toList ++ Rows.aesChainSpec.plain.varTypes Try.prog) (ds ++ gs)).all (· ≤ reachBytes) = true := hsz0
  have hval : ∀ (j : Nat) t v, Try.f6.params[j]? = some t → args[j]? = some v → Value.okWide Try.prog W .any base t v := hval0
  have hW' := hW
  obtain ⟨p, q, hA0, hV, rfl, hfz, hnd⟩ := hW
  have hA : DataW.TrodAll enc Try.prog W 0 (fun _ => true) true Try.f6.params.toList args.toList ds p := hA0
  rw [Try.params6] at hA hval hsz
  obtain ⟨v0, vs0, d0, ds0, p0, q0, hargs, rfl, rfl, h0, r0⟩ := trodAll_cons hA
  obtain ⟨v1, vs1, d1, ds1, p1, q1, rfl, rfl, rfl, h1, r1⟩ := trodAll_cons r0
  obtain ⟨v2, vs2, d2, ds2, p2, q2, rfl, rfl, rfl, h2, r2⟩ := trodAll_cons r1
  obtain ⟨v3, vs3, d3, ds3, p3, q3, rfl, rfl, rfl, h3, r3⟩ := trodAll_cons r2
  obtain ⟨rfl, rfl, rfl⟩ := trodAll_nil r3
  obtain rfl : args = #[v0, v1, v2, v3] := by cases args; simp_all
  obtain ⟨rfl, rfl⟩ := trodVars_none hV
  have h0k := h0
  have hlt0 : ∀ x ∈ p0, x.block < W.heap.size := fun x hx => by have := hW'.lt x (by simp [hx]); simpa using this
  have hb0 : ∀ es sp, d0 = .slice es sp → (es.length + sp.length) * Try.prog.bytesOf 5 ≤ reachBytes := by
    intro es sp he
    exact sized_slice hsz (j := 0) (t := 22) (e := 5) rfl (by rw [he]; rfl) Try.underlying22
  have h1k := h1
  have hlt1 : ∀ x ∈ p1, x.block < W.heap.size := fun x hx => by have := hW'.lt x (by simp [hx]); simpa using this
  have hb1 : ∀ es sp, d1 = .slice es sp → (es.length + sp.length) * Try.prog.bytesOf 5 ≤ reachBytes := by
    intro es sp he
    exact sized_slice hsz (j := 1) (t := 22) (e := 5) rfl (by rw [he]; rfl) Try.underlying22
  have h2k := h2
  have hlt2 : ∀ x ∈ p2, x.block < W.heap.size := fun x hx => by have := hW'.lt x (by simp [hx]); simpa using this
  have hb2 : ∀ es sp, d2 = .slice es sp → (es.length + sp.length) * Try.prog.bytesOf 5 ≤ reachBytes := by
    intro es sp he
    exact sized_slice hsz (j := 2) (t := 22) (e := 5) rfl (by rw [he]; rfl) Try.underlying22
  have h3k := h3
  have hlt3 : ∀ x ∈ p3, x.block < W.heap.size := fun x hx => by have := hW'.lt x (by simp [hx]); simpa using this
  have hb3 : ∀ es sp, d3 = .slice es sp → (es.length + sp.length) * Try.prog.bytesOf 5 ≤ reachBytes := by
    intro es sp he
    exact sized_slice hsz (j := 3) (t := 22) (e := 5) rfl (by rw [he]; rfl) Try.underlying22
  obtain ⟨n0, f0, g0⟩ := open_bytes (hval 0 22 v0 rfl rfl) h0 hb0
  obtain ⟨n1, f1, g1⟩ := open_bytes (hval 1 22 v1 rfl rfl) h1 hb1
  obtain ⟨n2, f2, g2⟩ := open_bytes (hval 2 22 v2 rfl rfl) h2 hb2
  obtain ⟨n3, f3, g3⟩ := open_bytes (hval 3 22 v3 rfl rfl) h3 hb3
  clear hA0 hval0
  simp only [List.append_nil] at hW'
  refine (walk v0 n0 f0 v1 n1 f1 v2 n2 f2 v3 n3 f3 W g0 g1 g2 g3).mono fun e W' ⟨he, hg⟩ => ?_
  subst he
  exact ⟨_, rfl, _, _, _, [], _, [], hW', trodAll_cons_mk (shut_bool Try.underlying4 _) trodAll_mk0,
    (trodAll_cons_mk (Below.trod laidOut (by kernel_rfl) (of_decide_eq_true (by kernel_rfl)) h0k hg hlt0) (trodAll_cons_mk (Below.trod laidOut (by kernel_rfl) (of_decide_eq_true (by kernel_rfl)) h1k hg hlt1) (trodAll_cons_mk (Below.trod laidOut (by kernel_rfl) (of_decide_eq_true (by kernel_rfl)) h2k hg hlt2) (trodAll_cons_mk (Below.trod laidOut (by kernel_rfl) (of_decide_eq_true (by kernel_rfl)) h3k hg hlt3) trodAll_mk0)))), rfl, hg.frame _, fun h => nomatch h⟩

theorem over : Rows.aesChainRow.holds Try.pinned (OpenSpec.ofChange Rows.aesChainSpec) :=
  OpenClaim.holds_of_wide 6 Try.f6 rfl rfl rfl rfl rfl rfl rfl ⟨rfl, rfl, rfl, rfl, rfl⟩ rfl rfl rfl rfl rfl (by kernel_rfl) Try.func6 (by kernel_rfl)
    (of_decide_eq_true (by kernel_rfl)) (by unfold Func.isWrapper; first | (rw [if_pos (by decide +kernel)]; kernel_rfl) | (rw [if_neg (by decide +kernel)]; exact ⟨rfl, rfl⟩))
    (fun os started H enc _ => lifted os started H enc)

theorem proved : Rows.AesChainSaid :=
  over
end Go.Proofs.Ytfefkakdhaecpaa.aesChain
