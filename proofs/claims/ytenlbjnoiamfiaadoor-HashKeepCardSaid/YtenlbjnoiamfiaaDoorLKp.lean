/-
  HashKeep: no call changes what it is handed, digests have their lengths, and share no memory. The law returns true for every input, and the input reads as it did.
  Conditions: the tables of package hash that the row lists read as the program's text lays them (the card ties them).
-/
import Derived.Test.YtenlbjnoiamfiaaDoorRows
import Derived.Test.YtenlbjnoiamfiaaDoorCards
import Derived.Test.YtenlbjnoiamfiaaDoorTie
import Derived.Test.YtenlbjnoiamfiaaDoorHsN2
import Derived.SevenTiedAt
namespace Go.Proofs.YtenlbjnoiamfiaaDoor.hashKeep
open Go.ChangeShapes Go.WideShapes Go.ChangeAt Go.RowKit Go.Joins Hs
set_option linter.unusedVariables false
set_option linter.unusedSimpArgs false

theorem own_there {w : World} {base g m cap : Nat} {l : List Nat} (h : Own w base (.slice (some ⟨g, 0, none⟩) m cap) l) : w.there g 0 l.length := by
  rcases h.2 with ⟨h0, _⟩ | ⟨g', cap', cur, hv, hb, hh, hc, _, hcs, ht⟩
  · cases h0
  · simp only [Value.slice.injEq, Option.some.injEq, Addr.mk.injEq, and_true, true_and] at hv
    obtain ⟨rfl, _, rfl⟩ := hv
    intro j hj
    rw [cell_of_row w g (0 + j) cur _ (0, 0) hh]
    refine ⟨?_, frozen_of_row w g _ cur _ hh⟩
    rw [Array.getElem?_eq_getElem (by omega)]
    rfl
theorem there_set {w : World} {b n : Nat} (h : w.there b 0 n) (b' i : Nat) (v : Value) : (w.setCell ⟨b', i, none⟩ v).there b 0 n := World.there_setCells h b' i [v]
theorem bs_other {w : World} {b off n : Nat} {f : Nat → Nat} (h : Bs w b off n f) {b' : Nat} (hb : b ≠ b') (i : Nat) (v : Value) : Bs (w.setCell ⟨b', i, none⟩ v) b off n f :=
  ⟨by simpa [World.setCell] using h.1, h.2.1, fun j hj => (World.cell?_setCell_other _ _ _ _ (fun q => hb (by simpa using (congrArg Addr.block q).symm))).trans (h.2.2 j hj)⟩
theorem there_below {B : Nat} {w w' : World} {b n : Nat} (h : w.there b 0 n) (hb : b < B) (k : Below B w w') : w'.there b 0 n := fun j hj => by
  have hc : w'.cell? ⟨b, 0 + j, none⟩ = w.cell? ⟨b, 0 + j, none⟩ := k.cell (p := ⟨b, 0 + j, none⟩) hb
  have hf : w'.frozen? ⟨b, 0 + j, none⟩ = w.frozen? ⟨b, 0 + j, none⟩ := k.frozen (p := ⟨b, 0 + j, none⟩) hb
  rw [hc, hf]
  exact h j hj

set_option maxRecDepth 100000 in
set_option maxHeartbeats 8000000 in
theorem walk (v : Value) (n : Nat) (f : Nat → Nat) (w : World) (G : Gl w) (A : Arg w v n f) :
    Calls Tryd.prog 6 #[v] w fun e w' => e = .returned (.bool true) ∧ Below w.heap.size w w' := by
  have HG := Lib.hid G
  have HA := Lib.hid A
  obtain ⟨a, cap, rfl, h1, h2, hf, h4, h5⟩ := A
  have HF := Lib.hid hf
  have h1' : (n : Int) ≤ (cap : Int) := by omega
  have h2' : (cap : Int) ≤ 140737488351232 := by omega
  clear G hf h4 h5
  go_enter Tryd.func6, Tryd.ntmps6
  go_wp2_with fail
  refine (awake_c _ HG.out).mono ?_
  rintro e w1 ⟨rfl, hb⟩
  have B1 := Lib.hid hb
  clear hb
  have BA := Lib.hid (B1.out.trans ((balloc (brefl w1) (.cells #[] 5)).mono B1.out.size))
  obtain ⟨v2, w2, r2, o2, b2, s2, nn2⟩ := HA.out.app BA.out (own0 w1 w1.heap.size (Nat.le_refl _)) (by simp) (by simp; omega) 22
  rw [List.nil_append] at o2
  obtain ⟨v3, w3, r3, o3, b3, s3⟩ := appL o2 [71, 72] (by simp) (by have := s2; simp at this; omega) (by rw [bl_len]; simp; omega) 22
  have R2 := Lib.hid r2
  have R3 : Hid ((Builtin.append_ #[22, 22] 22 #[v2, .slice (some ⟨w2.heap.size, 0, none⟩) 2 2]).run Tryd.prog (w2.alloc (.cells #[.int .u8 71, .int .u8 72] 5)) = .ok v3 w3) := Lib.hid r3
  have L3 : (bl f n ++ [71, 72]).length = n + 2 := by rw [List.length_append, bl_len]; rfl
  obtain ⟨g, cx, rfl, hg1, hbx, hc1, hc2⟩ := o3.bsC (by rw [L3]; omega) (by
    intro x hx
    simp only [bl, List.mem_append, List.mem_map, List.mem_range, List.mem_cons, List.not_mem_nil, or_false] at hx
    rcases hx with ⟨i, _, rfl⟩ | rfl | rfl
    · exact HF.out i
    · omega
    · omega)
  rw [L3] at hc1
  rw [L3] at R3
  have X3 : Hid (Bs w3 g 0 n f) := Lib.hid ⟨hbx.1, HF.out, fun i hi => by
    rw [hbx.2.2 i (by rw [L3]; omega)]
    show some (Value.int .u8 (((bl f n ++ [71, 72]).getD i 0 : Nat) : Int)) = _
    rw [bl_get hi]⟩
  have Y3 : Hid (w3.cell? ⟨g, n, none⟩ = some (.int .u8 71) ∧ w3.cell? ⟨g, n + 1, none⟩ = some (.int .u8 72)) := Lib.hid (by
    have y0 := hbx.2.2 n (by rw [L3]; omega)
    have y1 := hbx.2.2 (n + 1) (by rw [L3]; omega)
    rw [Nat.zero_add] at y0 y1
    rw [y0, y1]
    show some (Value.int .u8 (((bl f n ++ [71, 72]).getD n 0 : Nat) : Int)) = _ ∧ some (Value.int .u8 (((bl f n ++ [71, 72]).getD (n + 1) 0 : Nat) : Int)) = _
    have e0 := app_get f n 0 [71, 72]
    have e1 := app_get f n 1 [71, 72]
    rw [Nat.add_zero] at e0
    rw [e0, e1]
    exact ⟨rfl, rfl⟩)
  have B3 := Lib.hid (BA.out.trans ((b2.trans b3).mono B1.out.size))
  have hgl : g < w3.heap.size := hbx.1
  have hc1' : (n : Int) + 2 ≤ (cx : Int) := by omega
  have hc2' : (cx : Int) ≤ 9223372036854775807 := by omega
  clear r2 o2 b2 s2 nn2 r3 o3 b3 s3 hbx BA
  go_wp2_with (first | (at_builtin; refine wpList_append_eq rfl _ _ 22 rfl _ _ v2 w2 rfl rfl R2.out ?_) | (at_builtin; refine wpList_append_eq rfl _ _ 22 rfl _ _ _ w3 rfl rfl R3.out ?_))
  clear R2 R3
  refine (MD5_c g 0 n cx f w3 (HG.out.below B3.out) (by omega) (by omega) hc2 X3.out).mono ?_
  rintro e w4 ⟨⟨va, rfl, own⟩, hb⟩
  obtain ⟨ga, ca, rfl, ga1, ga2, ga3, ga4⟩ := own.bsC (by rw [md5_len]; omega) (ob_byte _ _ _)
  rw [md5_len]
  have TA := Lib.hid (own_there own)
  have SA := Lib.hid (own.conv (w' := w4) (by rw [md5_len]; omega) (ob_byte _ _ _) (brefl _))
  have la := ga2.1
  have QA := Lib.hid ga2
  rw [md5_len] at TA QA SA ga3
  have B4 := Lib.hid hb
  clear own hb ga2
  go_wp2_with fail
  refine (MD5_c g 0 n cx f w4 (HG.out.below (bstep B3.out B4.out)) (by omega) (by omega) hc2 (X3.out.below B4.out)).mono ?_
  rintro e w5 ⟨⟨vc, rfl, own⟩, hb⟩
  obtain ⟨gc, cc, rfl, gc1, gc2, gc3, gc4⟩ := own.bsC (by rw [md5_len]; omega) (ob_byte _ _ _)
  rw [md5_len]
  have lc := gc2.1
  have QC := Lib.hid gc2
  rw [md5_len] at QC gc3
  have B5 := Lib.hid hb
  clear own hb gc2
  go_wp2_with fail
  refine (SHA256_c g 0 n cx f w5 (HG.out.below (bstep (bstep B3.out B4.out) B5.out)) (by omega) (by omega) hc2 ((X3.out.below B4.out).below B5.out)).mono ?_
  rintro e w6 ⟨⟨vd, rfl, own⟩, hb⟩
  obtain ⟨gd, cd, rfl, gd1, gd2, gd3, gd4⟩ := own.bsC (by rw [sha_len]; omega) (ob_byte _ _ _)
  rw [sha_len]
  have TD := Lib.hid (own_there own)
  have ld := gd2.1
  have QD := Lib.hid gd2
  rw [sha_len] at TD QD gd3
  have B6 := Lib.hid hb
  clear own hb gd2
  go_wp2_with fail
  refine (SHA256_c g 0 n cx f w6 (HG.out.below (bstep (bstep (bstep B3.out B4.out) B5.out) B6.out)) (by omega) (by omega) hc2 (((X3.out.below B4.out).below B5.out).below B6.out)).mono ?_
  rintro e w7 ⟨⟨ve, rfl, own⟩, hb⟩
  obtain ⟨ge, ce, rfl, ge1, ge2, ge3, ge4⟩ := own.bsC (by rw [sha_len]; omega) (ob_byte _ _ _)
  rw [sha_len]
  have le := ge2.1
  have QE := Lib.hid ge2
  rw [sha_len] at QE ge3
  have B7 := Lib.hid hb
  clear own hb ge2
  go_wp2_with fail
  have B47 := Lib.hid (bstep (bstep B5.out B6.out) B7.out)
  have BLM : bl (fun i => (md5 f n).getD i 0) 16 = md5 f n := by have h := bl_getD (md5 f n); rwa [md5_len] at h
  have BLS : bl (fun i => (sha256 f n).getD i 0) 32 = sha256 f n := by have h := bl_getD (sha256 f n); rwa [sha_len] at h
  have QA7 := Lib.hid (QA.out.below B47.out)
  have QC7 := Lib.hid ((QC.out.below B6.out).below B7.out)
  have QD7 := Lib.hid (QD.out.below B7.out)
  have X7 := Lib.hid ((X3.out.below B4.out).below B47.out)
  have BW7 := Lib.hid (bstep (bstep B3.out B4.out) B47.out)
  have CA := conv_bs QA7.out ca
  have CC := conv_bs QC7.out cc
  have CD := conv_bs QD7.out cd
  have CE := conv_bs QE.out ce
  have CX := conv_bs X7.out cx
  have CB := HA.out.conv BW7.out
  rw [BLM] at CA CC
  rw [BLS] at CD CE
  have TA7 := Lib.hid (there_below TA.out la B47.out)
  have TD7 := Lib.hid (there_below TD.out ld B7.out)
  have Y7 : w7.cell? ⟨g, n, none⟩ = some (.int .u8 71) ∧ w7.cell? ⟨g, n + 1, none⟩ = some (.int .u8 72) :=
    ⟨((bstep B4.out B47.out).cell (p := ⟨g, n, none⟩) hgl).trans Y3.out.1, ((bstep B4.out B47.out).cell (p := ⟨g, n + 1, none⟩) hgl).trans Y3.out.2⟩
  have n1 : ga < gc := by omega
  have n2 : gc < gd := by omega
  have n3 : gd < ge := by omega
  have hw0 : w.heap.size ≤ ga := by have := B3.out.size; omega
  generalize hS1 : bs8 (md5 f n) = s1 at *
  generalize hS2 : bs8 (sha256 f n) = s2 at *
  generalize hS3 : bs8 (bl f n) = s3 at *
  have z1 : s1.size = 16 := by rw [← hS1, bs8_size, md5_len]
  have z2 : s2.size = 32 := by rw [← hS2, bs8_size, sha_len]
  have HS1 := Lib.hid hS1
  have HS2 := Lib.hid hS2
  have HBLM := Lib.hid BLM
  have HBLS := Lib.hid BLS
  have R1 := Lib.hid (rSame_eq _ _ s1 w7 CA CC)
  have R2 := Lib.hid (rSame_eq _ _ s2 w7 CD CE)
  have R3 := Lib.hid (rSame_eq _ _ s3 w7 CX CB)
  clear hS1 hS2 hS3 BLM BLS CA CD CX CB QA QC QD TA TD X3 Y3 X7 SA QA7 QD7 B4 B5 B6 B7 B47
  obtain ⟨y0, y1⟩ := Y7
  refine R1.out.mono ?_
  rintro e w' ⟨rfl, rfl⟩
  go_wp2_with fail
  refine R2.out.mono ?_
  rintro e wy ⟨rfl, rfl⟩
  go_wp2_with fail
  refine R3.out.mono ?_
  rintro e wz ⟨rfl, rfl⟩
  go_wp2_with fail
  clear CC CE R1 R2 R3 y0 y1
  go_loopw [10] (fun i wr => ∃ k : Nat, k ≤ 16 ∧ i = .int .i64 k ∧ Bs wr gc 0 16 (fun i => (md5 f n).getD i 0) ∧ Bs wr ge 0 32 (fun i => (sha256 f n).getD i 0) ∧ wr.there ga 0 16 ∧ wr.there gd 0 32 ∧ Below w.heap.size w wr) (fun i _ => 16 - (intOf i).toNat)
  case atStart => exact ⟨0, by omega, rfl, QC7.out, QE.out, TA7.out, TD7.out, BW7.out⟩
  case round =>
    clear QC7 QE TA7 TD7 BW7
    obtain ⟨k, hk, rfl, bc, be, ta, td, hb⟩ := hrel
    rename World => wr
    have BC := Lib.hid bc
    have BE := Lib.hid be
    have HB := Lib.hid hb
    by_cases c : k < 16
    · have e0 : decide ((k : Int) < 16) = true := by rw [decide_eq_true_iff]; omega
      have TA := Lib.hid ta
      have TD := Lib.hid td
      obtain ⟨a1, a2⟩ := ta k c
      obtain ⟨d1, d2⟩ := td k (by omega)
      obtain ⟨f1, f2⟩ := td (16 + k) (by omega)
      obtain ⟨u1, a1⟩ := Option.isSome_iff_exists.1 a1
      obtain ⟨u2, d1⟩ := Option.isSome_iff_exists.1 d1
      obtain ⟨u3, f1⟩ := Option.isSome_iff_exists.1 f1
      rw [Nat.zero_add] at a1 a2 d1 d2 f1 f2
      have x1 : ¬ ga = gd := by omega
      have x2 : ¬ gd = ga := by omega
      have c0 : (0 : Int) ≤ (k : Int) := by omega
      have c1 : (k : Int) ≤ 15 := by omega
      clear bc be ta td hb
      go_wp2_with fail
      go_roundw
      case rel => exact ⟨k + 1, by omega, by go_num, bs_other (bs_other (bs_other BC.out (by omega) _ _) (by omega) _ _) (by omega) _ _, bs_other (bs_other (bs_other BE.out (by omega) _ _) (by omega) _ _) (by omega) _ _, there_set (there_set (there_set TA.out _ _ _) _ _ _) _ _ _, there_set (there_set (there_set TD.out _ _ _) _ _ _) _ _ _, ((HB.out.setCell (by show w.heap.size ≤ ga; omega) _).setCell (by show w.heap.size ≤ gd; omega) _).setCell (by show w.heap.size ≤ gd; omega) _⟩
      case measure => simp [intOf]; omega
    · have e0 : decide ((k : Int) < 16) = false := by rw [decide_eq_false_iff_not]; omega
      have CC := conv_bs BC.out cc
      have CE := conv_bs BE.out ce
      rw [HBLM.out, HS1.out] at CC
      rw [HBLS.out, HS2.out] at CE
      clear bc be ta td hb
      go_wp2_with fail
      go_ret
      exact ⟨rfl, HB.out⟩

set_option maxRecDepth 100000 in
theorem lifted (os : Os) (started : os.Started) (H : Type) (enc : TypeId × Value → H) :
    ReturnsInHanded {} Tryd.checked os 6 .any (fun w args => (Rows.hashKeepSpec.pre enc Tryd.prog Tryd.f6 [] false w args ∧ laidMetH Tryd.prog Rows.hashMDRow.laid w) ∧ sizedMet enc Tryd.prog Tryd.f6 (OpenSpec.ofChange Rows.hashKeepSpec) false w args)
      (Rows.hashKeepSpec.post enc Tryd.prog Tryd.f6 false true false false) := by
  refine returnsInHanded_of_change_and (C := Tryd.checked) (X := fun w _ => laidMetH Tryd.prog Rows.hashMDRow.laid w) (fun _ _ _ hh h => h.of_heap hh) own started (by kernel_rfl) Tryd.func6
    (ChangeSpec.witness_shaped (enc := enc) (C := Tryd.checked) (os := os) (X := fun w _ => laidMetH Tryd.prog Rows.hashMDRow.laid w) false (World.doorLaid Tryd.prog 28 os) #[.slice none 0 0] 8 rfl (World.shaped_of_RefB (by kernel_rfl) (by kernel_rfl)) (by kernel_rfl) (by kernel_rfl) (by kernel_rfl) (door_met os _)) ?_
  intro W base args ds gs before hval0 hW _ hsz0 hL _
  have hsz : (DataW.weightsEach Tryd.prog (Tryd.f6.params.toList ++ Rows.hashKeepSpec.plain.varTypes Tryd.prog) (ds ++ gs)).all (· ≤ reachBytes) = true := hsz0
  have hval : ∀ (j : Nat) t v, Tryd.f6.params[j]? = some t → args[j]? = some v → Value.okWide Tryd.prog W .any base t v := hval0
  have hW' := hW
  obtain ⟨p, q, hA0, hV, rfl, hfz, hnd⟩ := hW
  have hA : DataW.TrodAll enc Tryd.prog W 0 (fun _ => true) true Tryd.f6.params.toList args.toList ds p := hA0
  rw [Tryd.params6] at hA hval hsz
  obtain ⟨v0, vs0, d0, ds0, p0, q0, hargs, rfl, rfl, h0, r0⟩ := trodAll_cons hA
  obtain ⟨rfl, rfl, rfl⟩ := trodAll_nil r0
  obtain rfl : args = #[v0] := by cases args; simp_all
  obtain ⟨rfl, rfl⟩ := trodVars_none hV
  have h0k := h0
  have hlt0 : ∀ x ∈ p0, x.block < W.heap.size := fun x hx => by have := hW'.lt x (by simp [hx]); simpa using this
  have hb : ∀ es sp, d0 = .slice es sp → (es.length + sp.length) * Tryd.prog.bytesOf 5 ≤ reachBytes := by
    intro es sp he
    exact sized_slice hsz (j := 0) (t := 22) (e := 5) rfl (by rw [he]; rfl) Tryd.underlying22
  obtain ⟨n0, f0, g0⟩ := open_bytes (hval 0 22 v0 rfl rfl) h0 hb
  clear hA0 hval0
  simp only [List.append_nil] at hW'
  refine (walk v0 n0 f0 W (gl_of_laid hL) g0).mono fun e W' ⟨he, hg⟩ => ?_
  subst he
  exact ⟨_, rfl, _, _, _, [], _, [], hW', trodAll_cons_mk (shut_bool Tryd.underlying4 _) trodAll_mk0,
    (trodAll_cons_mk (Below.trod laidOut (by kernel_rfl) (of_decide_eq_true (by kernel_rfl)) h0k hg hlt0) trodAll_mk0), rfl, hg.frame _, fun h => nomatch h⟩

theorem over : Rows.HashKeepSaid :=
  OpenClaim.holds_of_wide 6 Tryd.f6 rfl rfl rfl rfl rfl rfl rfl ⟨rfl, rfl, rfl, rfl, rfl⟩ rfl rfl rfl rfl rfl (by kernel_rfl) Tryd.func6 (by kernel_rfl)
    (of_decide_eq_true (by kernel_rfl)) (by unfold Func.isWrapper; first | (rw [if_pos (by decide +kernel)]; kernel_rfl) | (rw [if_neg (by decide +kernel)]; exact ⟨rfl, rfl⟩))
    (fun os started H enc _ => lifted os started H enc)

theorem proved : Rows.HashKeepCardSaid :=
  Claim7.holds_tied_plain_at .later [] [.data, .data, .data] true Rows.hashKeepCard.stood.harness false
    over (fun _ h => by cases h) (by kernel_rfl) (fun _ h => by cases h) hashKeep_row_tie rfl ⟨rfl, rfl⟩ (by kernel_rfl) rfl
    (fun f fn hf hfn => by
      obtain rfl : f = 6 := Option.some.inj ((show Tryd.prog.funcNamed Rows.hashKeepRow.func = some 6 by kernel_rfl).symm.trans hf) |>.symm
      obtain rfl : fn = Tryd.f6 := (Option.some.inj (Tryd.func6.symm.trans hfn)).symm
      exact ⟨by kernel_rfl, fun j t ht => by
        rw [Tryd.params6] at ht
        have hm : t ∈ [22] := by simpa using Array.mem_of_getElem? ht
        have hall : ([22].all fun u => !Tryd.prog.wantsStandIn u) = true := by kernel_rfl
        exact (show Tryd.prog.wantsStandIn t = false by simpa using List.all_eq_true.1 hall t hm)⟩)
    (by kernel_rfl)
end Go.Proofs.YtenlbjnoiamfiaaDoor.hashKeep
