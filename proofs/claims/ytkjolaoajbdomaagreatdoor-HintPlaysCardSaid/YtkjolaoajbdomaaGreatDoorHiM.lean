/-
  The contracts of the document's Save and Load of hints.
  Conditions: no more than 80000 files.
-/
import Derived.Test.YtkjolaoajbdomaaGreatDoorHiK
import Derived.Test.YtkjolaoajbdomaaGreatDoorHiF
import Derived.Test.YtkjolaoajbdomaaGreatDoorDkR
namespace Go.Proofs.YtkjolaoajbdomaaGreatDoor.Hi
open Go.ChangeShapes Go.WideShapes Go.ChangeAt Go.RowKit Go.Joins By Ct Dk
set_option linter.unusedVariables false
set_option linter.unusedSimpArgs false

theorem rt_ahead {w0 w w' : World} {d : Nat} {X : Nat → Prop} {s' : Dk} (q : Below w0.heap.size w0 w) (h : Rt w w' d X s') : Rt w0 w' d X s' :=
  h.tr (fun k hk => .inl hk) (tu_below q)
/-- what comes behind the writing. -/
theorem save_then {s1 : Dk} {e : Int} {t : Dk} (h1 : (if asideE s1 ≠ 0 then asideE s1 else renameE (asideS s1) wN fN) = e) (h2 : (if asideE s1 ≠ 0 then asideS s1 else renameS (asideS s1) wN fN) = t) :
    (readE s1 fN = 50 ∧ e = 50 ∧ t = s1) ∨ (readE s1 fN = 5 ∧ renameE s1 wN fN = e ∧ renameS s1 wN fN = t) ∨
    (readE s1 fN = 0 ∧ ((renameE s1 fN oN ≠ 0 ∧ e = renameE s1 fN oN ∧ t = renameS s1 fN oN) ∨ (renameE s1 fN oN = 0 ∧ renameE (renameS s1 fN oN) wN fN = e ∧ renameS (renameS s1 fN oN) wN fN = t))) := by
  rcases readE_of s1 okf with ⟨_, q⟩ | ⟨_, _, q⟩ | ⟨_, _, _, q, _⟩
  · have a1 : asideE s1 = 50 := by unfold asideE; rw [q]; rfl
    have a2 : asideS s1 = s1 := by unfold asideS; rw [q]; rfl
    rw [a1, a2, if_pos (by decide)] at h1 h2
    exact .inl ⟨q, h1.symm, h2.symm⟩
  · have a1 : asideE s1 = 0 := by unfold asideE; rw [q]; rfl
    have a2 : asideS s1 = s1 := by unfold asideS; rw [q]; rfl
    rw [a1, a2, if_neg (by decide)] at h1 h2
    exact .inr (.inl ⟨q, h1, h2⟩)
  · have a1 : asideE s1 = renameE s1 fN oN := by unfold asideE; rw [q]; rfl
    have a2 : asideS s1 = renameS s1 fN oN := by unfold asideS; rw [q]; rfl
    rw [a1, a2] at h1 h2
    refine .inr (.inr ⟨q, ?_⟩)
    by_cases c : renameE s1 fN oN = 0
    · rw [if_neg (by rw [c]; decide)] at h1 h2
      exact .inr ⟨c, h1, h2⟩
    · rw [if_pos c] at h1 h2
      exact .inl ⟨c, h1.symm, h2.symm⟩
set_option maxRecDepth 100000 in
set_option maxHeartbeats 16000000 in
theorem rSave_c {w : World} {d : Nat} {s : Dk} {X : Nat → Prop} {n : Int} (h : Rm w d s X) (hf : s.fs.length ≤ 80000) :
    Calls Tryz.prog 9 #[.pointer (some ⟨d, 0, none⟩), .int .i64 n] w fun e w' => e = .returned (.int .i64 (saveE s n)) ∧ Rt w w' d X (saveS s n) := by
  have H := Lib.hid h
  cases ho : okT n with
  | false =>
    have T := Lib.hid (rText_no w ho)
    have a1 : saveE s n = 2 := by unfold saveE; rw [if_pos ho]
    have a2 : saveS s n = s := by unfold saveS; rw [if_pos ho]
    rw [a1, a2]
    clear h hf ho a1 a2
    go_enter Tryz.func9, Tryz.ntmps9
    go_wp2_with fail
    refine T.out.mono ?_
    rintro e w1 ⟨rfl, rfl⟩
    go_wp2_with fail
    go_ret
    exact ⟨rfl, Rt.same H.out (brefl _)⟩
  | true =>
    have T := Lib.hid (rText_c w ho)
    have tl : (txt n).length ≤ 27 := by rw [txt_len]; have := (itoa_len ho).1; omega
    obtain ⟨re, hre⟩ : ∃ re, saveE s n = re := ⟨_, rfl⟩
    obtain ⟨rs, hrs⟩ : ∃ rs, saveS s n = rs := ⟨_, rfl⟩
    rw [hre, hrs]
    have n0 : ¬ okT n = false := by rw [ho]; decide
    unfold saveE at hre
    unfold saveS at hrs
    rw [if_neg n0] at hre hrs
    have HE := Lib.hid hre
    have HS := Lib.hid hrs
    have L1 : Hid ((newS s n).fs.length ≤ 80001) := Lib.hid (by have := len_write s wN (nb (txt n)); unfold newS; omega)
    have K1 : Hid (∀ w1, Below w.heap.size w w1 → Calls Tryz.prog 17 #[.pointer (some ⟨d, 0, none⟩), .string ⟨#[100, 114, 105, 102, 116, 46, 110, 101, 119]⟩, .slice (some ⟨w1.heap.size, 0, none⟩) (⟨(txt n).toArray⟩ : ByteArray).size (grownCap w1 (⟨(txt n).toArray⟩ : ByteArray).size 0 5)] (Lib.bytesWorld w1 5 ⟨(txt n).toArray⟩) fun e w' => e = .returned (.int .i64 (writeE s wN (txt n).length)) ∧ Rt (Lib.bytesWorld w1 5 ⟨(txt n).toArray⟩) w' d X (newS s n)) := Lib.hid (fun w1 q => by
      have := rWrite_c (nm := ⟨#[100, 114, 105, 102, 116, 46, 110, 101, 119]⟩) ((H.out.below q).below (conv_below w1 ⟨(txt n).toArray⟩)) (by omega) (by decide) (conv_sl w1 (txt n) (by omega)) (fun _ => by
        have hd := H.out.2.2.1 d H.out.2.1
        have := q.size
        simp [Value.ownBlock]
        omega)
      rw [nb_len] at this
      exact this)
    have CV := fun w1 => conv_str w1 ⟨(txt n).toArray⟩
    have CB := Lib.hid (fun w1 => conv_below w1 ⟨(txt n).toArray⟩)
    generalize writeE s wN (txt n).length = e1 at *
    generalize (⟨(txt n).toArray⟩ : ByteArray) = tx at *
    clear h hf ho n0 tl hre hrs
    go_enter Tryz.func9, Tryz.ntmps9
    go_wp2_with fail
    refine T.out.mono ?_
    rintro e w1 ⟨rfl, hb⟩
    have B1 := Lib.hid hb
    have CV1 := CV w1
    clear hb CV T
    go_wp2_with fail
    refine (K1.out w1 B1.out).mono ?_
    rintro e w2 ⟨rfl, hp⟩
    have P2 := Lib.hid (rt_ahead (bstep B1.out (CB.out w1)) hp)
    clear hp K1 CV1 CB B1
    by_cases c1 : e1 = 0
    · subst c1
      have hh := Lib.hid (save_then ((if_neg (fun q => q rfl)).symm.trans HE.out) ((if_neg (fun q => q rfl)).symm.trans HS.out))
      clear HE HS
      generalize newS s n = s1 at *
      obtain ⟨X1, p1, x1, t1⟩ := P2.out
      have K2 : Hid (Calls Tryz.prog 23 #[.pointer (some ⟨d, 0, none⟩), .string ⟨#[100, 114, 105, 102, 116]⟩] w2 fun e w' => e = .returned (.tuple #[.string (bs8 (readD s1 fN)), .int .i64 (readE s1 fN)]) ∧ w' = w2) := Lib.hid (rRead_c (nm := ⟨#[100, 114, 105, 102, 116]⟩) p1 (by have := L1.out; omega) (by decide))
      have K3 : Hid (Calls Tryz.prog 28 #[.pointer (some ⟨d, 0, none⟩), .string ⟨#[100, 114, 105, 102, 116]⟩, .string ⟨#[100, 114, 105, 102, 116, 46, 111, 108, 100]⟩] w2 fun e w' => e = .returned (.int .i64 (renameE s1 fN oN)) ∧ Rt w2 w' d X1 (renameS s1 fN oN)) := Lib.hid (rRename_c (na := ⟨#[100, 114, 105, 102, 116]⟩) (nb := ⟨#[100, 114, 105, 102, 116, 46, 111, 108, 100]⟩) p1 (by have := L1.out; omega) (by decide) (by decide))
      have K4 : Hid (Calls Tryz.prog 28 #[.pointer (some ⟨d, 0, none⟩), .string ⟨#[100, 114, 105, 102, 116, 46, 110, 101, 119]⟩, .string ⟨#[100, 114, 105, 102, 116]⟩] w2 fun e w' => e = .returned (.int .i64 (renameE s1 wN fN)) ∧ Rt w2 w' d X1 (renameS s1 wN fN)) := Lib.hid (rRename_c (na := ⟨#[100, 114, 105, 102, 116, 46, 110, 101, 119]⟩) (nb := ⟨#[100, 114, 105, 102, 116]⟩) p1 (by have := L1.out; omega) (by decide) (by decide))
      have XX := Lib.hid x1
      have TT := Lib.hid t1
      have L2 : Hid ((renameS s1 fN oN).fs.length ≤ 80002) := Lib.hid (by have := len_rename s1 fN oN; have := L1.out; omega)
      clear p1 x1 t1
      generalize readD s1 fN = dt at *
      rcases hh.out with ⟨q, rfl, rfl⟩ | ⟨q, h3, h4⟩ | ⟨q, ⟨z, h3, h4⟩ | ⟨z, h3, h4⟩⟩
      · rw [q] at K2
        clear q hh K3 K4
        go_wp2_with fail
        refine K2.out.mono ?_
        rintro e w3 ⟨rfl, hw⟩
        subst hw
        clear K2
        go_wp2_with fail
        go_ret
        exact ⟨rfl, P2.out⟩
      · rw [q] at K2
        rw [h3, h4] at K4
        clear q hh K3 h3 h4
        go_wp2_with fail
        refine K2.out.mono ?_
        rintro e w3 ⟨rfl, hw⟩
        subst hw
        clear K2
        go_wp2_with fail
        refine K4.out.mono ?_
        rintro e w4 ⟨rfl, hp⟩
        have P4 := Lib.hid (hp.tr XX.out TT.out)
        clear hp K4
        go_wp2_with fail
        go_ret
        exact ⟨rfl, P4.out⟩
      · rw [q] at K2
        have z1 : (renameE s1 fN oN != 0) = true := by simpa using z
        have z2 : (renameE s1 fN oN == 0) = false := by simpa using z
        rw [← h3, ← h4] at K3
        rw [← h3] at z1 z2
        clear q hh K4 z h3 h4 L2
        go_wp2_with fail
        refine K2.out.mono ?_
        rintro e w3 ⟨rfl, hw⟩
        subst hw
        clear K2
        go_wp2_with fail
        refine K3.out.mono ?_
        rintro e w4 ⟨rfl, hp⟩
        have P4 := Lib.hid (hp.tr XX.out TT.out)
        clear hp K3
        go_wp2_with fail
        go_ret
        exact ⟨rfl, P4.out⟩
      · rw [q] at K2
        rw [z] at K3
        clear q hh K4 z
        have H3 := Lib.hid h3
        have H4 := Lib.hid h4
        clear h3 h4
        generalize renameS s1 fN oN = s3 at *
        go_wp2_with fail
        refine K2.out.mono ?_
        rintro e w3 ⟨rfl, hw⟩
        subst hw
        clear K2
        go_wp2_with fail
        refine K3.out.mono ?_
        rintro e w4 ⟨rfl, hp⟩
        have P4 := Lib.hid (hp.tr XX.out TT.out)
        clear hp K3
        obtain ⟨X3, p3, x3, t3⟩ := P4.out
        have K5 : Hid (Calls Tryz.prog 28 #[.pointer (some ⟨d, 0, none⟩), .string ⟨#[100, 114, 105, 102, 116, 46, 110, 101, 119]⟩, .string ⟨#[100, 114, 105, 102, 116]⟩] w4 fun e w' => e = .returned (.int .i64 (renameE s3 wN fN)) ∧ Rt w4 w' d X3 (renameS s3 wN fN)) := Lib.hid (rRename_c (na := ⟨#[100, 114, 105, 102, 116, 46, 110, 101, 119]⟩) (nb := ⟨#[100, 114, 105, 102, 116]⟩) p3 (by have := L2.out; omega) (by decide) (by decide))
        have X4 := Lib.hid x3
        have T4 := Lib.hid t3
        rw [H3.out, H4.out] at K5
        clear p3 x3 t3
        go_wp2_with fail
        refine K5.out.mono ?_
        rintro e w5 ⟨rfl, hp⟩
        have P5 := Lib.hid (hp.tr X4.out T4.out)
        clear hp K5
        go_wp2_with fail
        go_ret
        exact ⟨rfl, P5.out⟩
    · have he := Lib.hid ((if_pos c1).symm.trans HE.out)
      have hs := Lib.hid ((if_pos c1).symm.trans HS.out)
      have t1 : (e1 != 0) = true := by simpa using c1
      go_wp2_with fail
      go_ret
      exact ⟨by rw [he.out]; rfl, by rw [← hs.out]; exact P2.out⟩
/-- the first, or the second, file gives no answer. -/
def Nix (s : Dk) (a : List UInt8) : Prop := ¬ readE s a = 50 ∧ ¬ (readE s a = 0 ∧ (prs (bt (readD s a))).2 = 0)
theorem rl_one50 {s : Dk} (h : readE s fN = 50) : rload s = (0, 50) := by
  unfold rload
  rw [if_pos h]
theorem rl_one0 {s : Dk} {t : List Nat} {a : Int} (h : readE s fN = 0) (ht : readD s fN = t) (hp : prs (bt t) = (a, 0)) : rload s = (a, 0) := by
  unfold rload
  rw [if_neg (by rw [h]; decide), if_pos ⟨h, by rw [ht, hp]⟩, ht, hp]
theorem rl_two50 {s : Dk} (n : Nix s fN) (h : readE s oN = 50) : rload s = (0, 50) := by
  unfold rload
  rw [if_neg n.1, if_neg n.2, if_pos h]
theorem rl_two0 {s : Dk} {t : List Nat} {a : Int} (n : Nix s fN) (h : readE s oN = 0) (ht : readD s oN = t) (hp : prs (bt t) = (a, 0)) : rload s = (a, 0) := by
  unfold rload
  rw [if_neg n.1, if_neg n.2, if_neg (by rw [h]; decide), if_pos ⟨h, by rw [ht, hp]⟩, ht, hp]
theorem rl_none {s : Dk} (n : Nix s fN) (m : Nix s oN) : rload s = (0, 5) := by
  unfold rload
  rw [if_neg n.1, if_neg n.2, if_neg m.1, if_neg m.2]
set_option maxRecDepth 100000 in
set_option maxHeartbeats 16000000 in
theorem rLoad_c {w : World} {d : Nat} {s : Dk} {X : Nat → Prop} (h : Rm w d s X) (hf : s.fs.length ≤ 80000) :
    Calls Tryz.prog 11 #[.pointer (some ⟨d, 0, none⟩)] w fun e w' => e = .returned (.tuple #[.int .i64 (Hi.load s).1, .int .i64 (Hi.load s).2]) ∧ Below w.heap.size w w' := by
  rw [← load_same]
  obtain ⟨⟨r1, r2⟩, hR⟩ : ∃ R, rload s = R := ⟨_, rfl⟩
  rw [hR]
  dsimp only
  have HR := Lib.hid hR
  have H := Lib.hid h
  have W1 := Lib.hid (read_wf h.1 fN)
  have W2 := Lib.hid (read_wf h.1 oN)
  have K1 : Hid (∀ z, Below w.heap.size w z → Calls Tryz.prog 23 #[.pointer (some ⟨d, 0, none⟩), .string ⟨#[100, 114, 105, 102, 116]⟩] z fun e w' => e = .returned (.tuple #[.string (bs8 (readD s fN)), .int .i64 (readE s fN)]) ∧ w' = z) := Lib.hid (fun z q => rRead_c (nm := ⟨#[100, 114, 105, 102, 116]⟩) (H.out.below q) (by omega) (by decide))
  have K2 : Hid (∀ z, Below w.heap.size w z → Calls Tryz.prog 23 #[.pointer (some ⟨d, 0, none⟩), .string ⟨#[100, 114, 105, 102, 116, 46, 111, 108, 100]⟩] z fun e w' => e = .returned (.tuple #[.string (bs8 (readD s oN)), .int .i64 (readE s oN)]) ∧ w' = z) := Lib.hid (fun z q => rRead_c (nm := ⟨#[100, 114, 105, 102, 116, 46, 111, 108, 100]⟩) (H.out.below q) (by omega) (by decide))
  have SR := Lib.hid (sr_two w ⟨#[100, 114, 105, 102, 116]⟩ ⟨#[100, 114, 105, 102, 116, 46, 111, 108, 100]⟩ 9)
  have B1 := Lib.hid (balloc (brefl w) (.cells #[.string ⟨#[100, 114, 105, 102, 116]⟩, .string ⟨#[100, 114, 105, 102, 116, 46, 111, 108, 100]⟩] 9))
  clear hR h hf
  go_enter Tryz.func11, Tryz.ntmps11
  go_wp2_with fail
  generalize w.alloc (.cells #[.string ⟨#[100, 114, 105, 102, 116]⟩, .string ⟨#[100, 114, 105, 102, 116, 46, 111, 108, 100]⟩] 9) = wl at *
  go_loopw [5, 6, 7, 8, 9, 12] (fun _ _ _ _ _ iv wr => ∃ i : Nat, i ≤ 2 ∧ iv = .int .i64 i ∧ (0 < i → Nix s fN) ∧ (1 < i → Nix s oN) ∧ Below wl.heap.size wl wr) (fun _ _ _ _ _ iv _ => 2 - (intOf iv).toNat)
  case atStart => exact ⟨0, by omega, rfl, fun z => absurd z (by decide), fun z => absurd z (by decide), brefl wl⟩
  case round =>
    obtain ⟨i, hi, rfl, hn1, hn2, hb⟩ := hrel
    rename World => wr
    have BW := Lib.hid hb
    have HN := Lib.hid hn1
    have HN2 := Lib.hid hn2
    clear hb hn1 hn2
    have i3 : i = 0 ∨ i = 1 ∨ i = 2 := by omega
    rcases i3 with rfl | rfl | rfl
    · clear HN HN2
      have c0 := ((SR.out.below BW.out).2 0 _ rfl)
      obtain ⟨q, hq⟩ : ∃ q, readE s fN = q := ⟨_, rfl⟩
      obtain ⟨t, ht⟩ : ∃ t, readD s fN = t := ⟨_, rfl⟩
      have RK := Lib.hid (K1.out wr (bstep B1.out BW.out))
      rw [hq, ht] at RK
      have RB : Hid ((∀ y ∈ t, y < 256) ∧ t.length ≤ 65536) := Lib.hid (by rw [← ht]; exact W1.out)
      have HQ := Lib.hid hq
      have HT := Lib.hid ht
      clear hq ht
      by_cases c50 : q = 50
      · subst c50
        have hr := Lib.hid (HR.out.symm.trans (rl_one50 HQ.out))
        go_wp2_with fail
        refine RK.out.mono ?_
        rintro e z1 ⟨rfl, hw⟩
        subst hw
        go_wp2_with fail
        exact bodyPost_ret (v := .tuple #[.int .i64 0, .int .i64 50]) (by simp [results, Tryz.results11, go_sem]) rfl ⟨by obtain ⟨rfl, rfl⟩ := Prod.mk.inj hr.out; rfl, bstep B1.out BW.out⟩
      · have n50 : (q == 50) = false := beq_eq_false_iff_ne.2 c50
        have CV := fun z => conv_str z ⟨(bt t).toArray⟩
        have CB := Lib.hid (fun z => conv_below z ⟨(bt t).toArray⟩)
        have PZ := Lib.hid (fun z => rParse_c (conv_sl z (bt t) (by rw [bt_len]; have := RB.out.2; omega)))
        rw [bt_nb] at PZ
        have BE : By.bs8 t = ⟨(bt t).toArray⟩ := rfl
        rw [BE] at RK
        clear BE
        generalize (⟨(bt t).toArray⟩ : ByteArray) = sb at *
        obtain ⟨⟨a, f⟩, hp⟩ : ∃ p, prs (bt t) = p := ⟨_, rfl⟩
        rw [hp] at PZ
        dsimp only at PZ
        have HP := Lib.hid hp
        clear hp
        go_wp2_with fail
        refine RK.out.mono ?_
        rintro e z1 ⟨rfl, hw⟩
        have BZ : Hid (Below wl.heap.size wl z1) := Lib.hid (by rw [hw]; exact BW.out)
        have CV1 := CV z1
        clear hw RK CV
        go_wp2_with fail
        refine (PZ.out z1).mono ?_
        rintro e z2 ⟨rfl, hb⟩
        have B2 := Lib.hid (bstep (bstep BZ.out (CB.out z1)) hb)
        clear hb PZ CV1 CB
        by_cases g : q = 0 ∧ f = 0
        · obtain ⟨rfl, rfl⟩ := g
          have hr := Lib.hid (HR.out.symm.trans (rl_one0 HQ.out HT.out HP.out))
          go_wp2_with fail
          exact bodyPost_ret (v := .tuple #[.int .i64 a, .int .i64 0]) (by simp [results, Tryz.results11, go_sem]) rfl ⟨by obtain ⟨rfl, rfl⟩ := Prod.mk.inj hr.out; rfl, bstep B1.out B2.out⟩
        · have NX : Hid (Nix s fN) := Lib.hid ⟨by rw [HQ.out]; exact c50, by rw [HQ.out, HT.out, HP.out]; exact g⟩
          by_cases q0 : q = 0
          · subst q0
            have f0 : (f == 0) = false := beq_eq_false_iff_ne.2 (fun z => g ⟨rfl, z⟩)
            go_wp2_with fail
            go_roundw
            case rel => exact ⟨1, by omega, by go_num, fun _ => NX.out, fun z => absurd z (by decide), B2.out⟩
            case measure => simp [intOf]
          · have q1 : (q == 0) = false := beq_eq_false_iff_ne.2 q0
            go_wp2_with fail
            go_roundw
            case rel => exact ⟨1, by omega, by go_num, fun _ => NX.out, fun z => absurd z (by decide), B2.out⟩
            case measure => simp [intOf]
    · clear HN2
      have c0 := ((SR.out.below BW.out).2 1 _ rfl)
      obtain ⟨q, hq⟩ : ∃ q, readE s oN = q := ⟨_, rfl⟩
      obtain ⟨t, ht⟩ : ∃ t, readD s oN = t := ⟨_, rfl⟩
      have RK := Lib.hid (K2.out wr (bstep B1.out BW.out))
      rw [hq, ht] at RK
      have RB : Hid ((∀ y ∈ t, y < 256) ∧ t.length ≤ 65536) := Lib.hid (by rw [← ht]; exact W2.out)
      have HQ := Lib.hid hq
      have HT := Lib.hid ht
      clear hq ht
      by_cases c50 : q = 50
      · subst c50
        have hr := Lib.hid (HR.out.symm.trans (rl_two50 (HN.out (by decide)) HQ.out))
        go_wp2_with fail
        refine RK.out.mono ?_
        rintro e z1 ⟨rfl, hw⟩
        subst hw
        go_wp2_with fail
        exact bodyPost_ret (v := .tuple #[.int .i64 0, .int .i64 50]) (by simp [results, Tryz.results11, go_sem]) rfl ⟨by obtain ⟨rfl, rfl⟩ := Prod.mk.inj hr.out; rfl, bstep B1.out BW.out⟩
      · have n50 : (q == 50) = false := beq_eq_false_iff_ne.2 c50
        have CV := fun z => conv_str z ⟨(bt t).toArray⟩
        have CB := Lib.hid (fun z => conv_below z ⟨(bt t).toArray⟩)
        have PZ := Lib.hid (fun z => rParse_c (conv_sl z (bt t) (by rw [bt_len]; have := RB.out.2; omega)))
        rw [bt_nb] at PZ
        have BE : By.bs8 t = ⟨(bt t).toArray⟩ := rfl
        rw [BE] at RK
        clear BE
        generalize (⟨(bt t).toArray⟩ : ByteArray) = sb at *
        obtain ⟨⟨a, f⟩, hp⟩ : ∃ p, prs (bt t) = p := ⟨_, rfl⟩
        rw [hp] at PZ
        dsimp only at PZ
        have HP := Lib.hid hp
        clear hp
        go_wp2_with fail
        refine RK.out.mono ?_
        rintro e z1 ⟨rfl, hw⟩
        have BZ : Hid (Below wl.heap.size wl z1) := Lib.hid (by rw [hw]; exact BW.out)
        have CV1 := CV z1
        clear hw RK CV
        go_wp2_with fail
        refine (PZ.out z1).mono ?_
        rintro e z2 ⟨rfl, hb⟩
        have B2 := Lib.hid (bstep (bstep BZ.out (CB.out z1)) hb)
        clear hb PZ CV1 CB
        by_cases g : q = 0 ∧ f = 0
        · obtain ⟨rfl, rfl⟩ := g
          have hr := Lib.hid (HR.out.symm.trans (rl_two0 (HN.out (by decide)) HQ.out HT.out HP.out))
          go_wp2_with fail
          exact bodyPost_ret (v := .tuple #[.int .i64 a, .int .i64 0]) (by simp [results, Tryz.results11, go_sem]) rfl ⟨by obtain ⟨rfl, rfl⟩ := Prod.mk.inj hr.out; rfl, bstep B1.out B2.out⟩
        · have NX : Hid (Nix s oN) := Lib.hid ⟨by rw [HQ.out]; exact c50, by rw [HQ.out, HT.out, HP.out]; exact g⟩
          by_cases q0 : q = 0
          · subst q0
            have f0 : (f == 0) = false := beq_eq_false_iff_ne.2 (fun z => g ⟨rfl, z⟩)
            go_wp2_with fail
            go_roundw
            case rel => exact ⟨2, by omega, by go_num, fun _ => HN.out (by decide), fun _ => NX.out, B2.out⟩
            case measure => simp [intOf]
          · have q1 : (q == 0) = false := beq_eq_false_iff_ne.2 q0
            go_wp2_with fail
            go_roundw
            case rel => exact ⟨2, by omega, by go_num, fun _ => HN.out (by decide), fun _ => NX.out, B2.out⟩
            case measure => simp [intOf]
    · have hr := Lib.hid (HR.out.symm.trans (rl_none (HN.out (by decide)) (HN2.out (by decide))))
      go_wp2_with fail
      exact bodyPost_ret (v := .tuple #[.int .i64 0, .int .i64 5]) (by simp [results, Tryz.results11, go_sem]) rfl ⟨by obtain ⟨rfl, rfl⟩ := Prod.mk.inj hr.out; rfl, bstep B1.out BW.out⟩
end Go.Proofs.YtkjolaoajbdomaaGreatDoor.Hi
