/-
  The document's Liars of spans.
  Conditions: none but that the spans lie in memory.
-/
import Derived.Test.YtppflfodkhhfhaaHuC
namespace Go.Proofs.Ytppflfodkhhfhaa.Hu
open Go.RowKit Go.ChangeShapes Go.WideShapes Go.ChangeAt Go.Joins Fl
set_option linter.unusedVariables false
set_option linter.unusedSimpArgs false

/-- the places of the liars, as numbers. -/
def liL (s : Sn) (L : List Sn) (k : Nat) : List Int := (apart s L k).map Int.ofNat
theorem liL_yes {s : Sn} {L : List Sn} {k : Nat} {x : Sn} (h : L[k]? = some x) (q : x.hi < s.lo ∨ s.hi < x.lo) : liL s L (k + 1) = liL s L k ++ [(k : Int)] := by
  unfold liL
  rw [apart_succ, List.getD_eq_getElem?_getD, h, Option.getD_some, if_pos q, List.map_append]
  rfl
theorem liL_no {s : Sn} {L : List Sn} {k : Nat} {x : Sn} (h : L[k]? = some x) (q : ¬ (x.hi < s.lo ∨ s.hi < x.lo)) : liL s L (k + 1) = liL s L k := by
  unfold liL
  rw [apart_succ, List.getD_eq_getElem?_getD, h, Option.getD_some, if_neg q, List.append_nil]
theorem liL_len (s : Sn) (L : List Sn) (k : Nat) : (liL s L k).length ≤ k := by
  unfold liL apart
  rw [List.length_map]
  exact Nat.le_trans (List.length_filter_le _ _) (by rw [List.length_range]; exact Nat.le_refl _)
/-- what Liars answers. -/
def LiP (w : World) (L : List Sn) (s : Sn) (e : Ending) (w' : World) : Prop :=
  ∃ v', e = .returned (.tuple #[v', .int .i64 (if okL L ∧ okN s then 0 else 3)]) ∧ OwnI w' w.heap.size v' (if okL L ∧ okN s then liL s L L.length else [])
theorem rCheck_any (s : Sn) (w : World) : Calls Try.prog 24 #[NV s] w fun e w' => e = .returned (.int .i64 (if okN s then 0 else 3)) ∧ Below w.heap.size w w' := by
  by_cases h : okN s
  · rw [if_pos h]
    exact (Fx.rCheck_okx s.lo s.hi w (okN_iff.1 h)).mono fun e w' ⟨h1, h2⟩ => ⟨h1, h2 ▸ balloc (brefl w) _⟩
  · rw [if_neg h]
    exact (Fx.rCheck_badx s.lo s.hi w (fun q => h (okN_iff.2 q))).mono fun e w' ⟨h1, h2⟩ => ⟨h1, h2 ▸ balloc (brefl w) _⟩
set_option maxRecDepth 100000 in
set_option maxHeartbeats 4000000 in
theorem rLiars_c {w : World} {v : Value} {L : List Sn} (h : Hs w v L) (hn : L.length ≤ 8796093022208) (s : Sn) :
    Calls Try.prog 13 #[v, NV s] w fun e w' => LiP w L s e w' ∧ Below w.heap.size w w' := by
  have CA := Lib.hid (rCheck_any s)
  obtain ⟨sl, sh⟩ := s
  have HS := Lib.hid h
  have B0 := Lib.hid (balloc (brefl w) (.cells #[.int .i64 sl, .int .i64 sh] 25))
  have N0 := Lib.hid (new2 w sl sh 25)
  have CK := Lib.hid (rcheck_c (h.below B0.out) hn)
  replace CA : Hid (∀ w, Calls Try.prog 24 #[.agg #[.int .i64 sl, .int .i64 sh]] w fun e w' => e = .returned (.int .i64 (if okN ⟨sl, sh⟩ then 0 else 3)) ∧ Below w.heap.size w w') := CA
  show Calls Try.prog 13 #[v, .agg #[.int .i64 sl, .int .i64 sh]] w _
  obtain ⟨a, cap, rfl, c1, c2, _⟩ := h
  obtain ⟨m, hm⟩ : ∃ m, L.length = m := ⟨_, rfl⟩
  have HM := Lib.hid hm
  by_cases ok : okL L
  · rw [decide_eq_true ok] at CK
    by_cases os : okN ⟨sl, sh⟩
    · rw [if_pos os] at CA
      have HP : Hid (∀ v' w', OwnI w' w.heap.size v' (liL ⟨sl, sh⟩ L m) → LiP w L ⟨sl, sh⟩ (.returned (.tuple #[v', .int .i64 0])) w') := Lib.hid fun v' w' q => ⟨v', by rw [if_pos ⟨ok, os⟩], by rw [if_pos ⟨ok, os⟩, hm]; exact q⟩
      have OS := Lib.hid os
      have OK := Lib.hid ok
      have m32 : m ≤ 32 := hm ▸ ok.2
      rw [hm] at HS CK c1 hn ⊢
      have m0 : (0 : Int) ≤ (m : Int) := by omega
      have m1 : (m : Int) ≤ 32 := by omega
      have m2 : (m : Int) ≤ (cap : Int) := by omega
      have m3 : (cap : Int) ≤ 9223372036854775807 := by omega
      clear ok os hm
      go_enter Try.func13, Try.ntmps13
      go_wp2_with fail
      refine CK.out.mono ?_
      rintro e w1 ⟨rfl, hb⟩
      have B1 := Lib.hid (bstep B0.out hb)
      have N1 := Lib.hid (N0.out.below hb)
      clear hb N0 B0 CK
      obtain ⟨z0, z1⟩ := blk2 N1.out (brefl _)
      go_wp2_with fail
      refine (CA.out _).mono ?_
      rintro e w2 ⟨rfl, hb⟩
      have B2 := Lib.hid (bstep B1.out hb)
      have N2 := Lib.hid (N1.out.below hb)
      clear hb z0 z1 N1 B1 CA
      go_wp2_with fail
      go_loopw [6, 7] (fun ov iv wr => ∃ k : Nat, k ≤ m ∧ iv = .int .i64 (k : Nat) ∧ OwnI wr (w.heap.size + 1) ov (liL ⟨sl, sh⟩ L k) ∧ Blk wr w.heap.size [.int .i64 sl, .int .i64 sh] ∧ Below w.heap.size w wr) (fun _ iv _ => m - (intOf iv).toNat)
      case atStart => exact ⟨0, by omega, rfl, OwnI.nil _ _, N2.out, B2.out⟩
      case round =>
        obtain ⟨k, hk, rfl, ho, hnb, hb⟩ := hrel
        rename World => wr
        have HO := Lib.hid ho
        have NB := Lib.hid hnb
        have HB := Lib.hid hb
        clear ho hnb hb N2 B2
        by_cases c : k < m
        · have e1 : decide ((k : Int) < (m : Int)) = true := decide_eq_true (by omega)
          have e2 : decide (k < m) = true := decide_eq_true c
          have k1 : (k : Int) < (m : Int) := by omega
          have wk : IntKind.i64.wrap ((k : Int) + 1) = (k : Int) + 1 := wrap_in (by omega) (by omega)
          obtain ⟨x, hx⟩ : ∃ x, L[k]? = some x := ⟨_, List.getElem?_eq_getElem (by rw [HM.out]; exact c)⟩
          have HX := Lib.hid hx
          have ox := Lib.hid (OK.out.1 x (List.mem_of_getElem? hx))
          obtain ⟨sb, so, rfl, y0, y1⟩ := (HS.out.below HB.out).at hx
          have KP : Hid (∀ W, Below wr.heap.size wr W → W.cell? ⟨sb, so + k * 2, none⟩ = some (.int .i64 x.lo) ∧ W.cell? ⟨sb, so + k * 2 + 1, none⟩ = some (.int .i64 x.hi) ∧ W.cell? ⟨w.heap.size, 0, none⟩ = some (.int .i64 sl) ∧ W.cell? ⟨w.heap.size, 1, none⟩ = some (.int .i64 sh)) := Lib.hid fun W q => by
            obtain ⟨sb', so', e, a, b⟩ := (HS.out.below (bstep HB.out q)).at HX.out
            cases e
            obtain ⟨z0, z1⟩ := blk2 NB.out q
            exact ⟨a, b, z0, z1⟩
          clear hx y0 y1
          obtain ⟨xl, xh⟩ := x
          simp only at KP
          have ls := liL_len ⟨sl, sh⟩ L k
          have hb0 : Below wr.heap.size wr wr.drew := (brefl wr).drew
          by_cases q : xh < sl ∨ sh < xl
          · have MT := Lib.hid (fun w => Fx.rMeet_none xl xh sl sh w (okN_iff.1 ox.out) (okN_iff.1 OS.out) (by have h1 := ox.out.1; have h2 := OS.out.1; simp only at h1 h2; omega))
            have NL := Lib.hid (liL_yes (s := ⟨sl, sh⟩) HX.out q)
            go_upto_region 7 with fail
            go_cut [8, 9] from 24 to 32 (fun _ ev wx => ev = .int .i64 5 ∧ Below wr.heap.size wr wx)
            case first =>
              have hb1 : Below wr.heap.size wr (wr.alloc (.cells #[.int .i64 0, .int .i64 0] 25)).drew := (balloc (brefl wr) _).drew
              have NW := Lib.hid ((new2 wr 0 0 25).below (brefl _).drew)
              obtain ⟨x0, x1, x2, x3⟩ := KP.out _ hb0
              obtain ⟨t0, t1, t2, t3⟩ := KP.out _ hb1
              go_region_with (first | (go_at_call 25; (with_reducible refine (MT.out wr.drew).mono ?_); rintro e w' ⟨rfl, hb⟩; replace hb := bstep hb0 hb) | (go_at_call 25; (with_reducible refine (MT.out (wr.alloc (.cells #[.int .i64 0, .int .i64 0] 25)).drew).mono ?_); rintro e w' ⟨rfl, hb⟩; obtain ⟨g0, g1⟩ := blk2 NW.out hb; have f0 := ((NW.out.below hb).2 0 _ rfl).2; have f1 := ((NW.out.below hb).2 1 _ rfl).2; replace hb := bstep hb1 hb))
              all_goals (go_wp2_with fail)
              all_goals go_meet
              all_goals exact ⟨rfl, by first | assumption | exact balloc (by assumption) _ | exact below_set (below_set (by assumption) (Nat.le_refl _) 0 _) (Nat.le_refl _) 1 _⟩
            obtain ⟨he, hbx⟩ := hcut
            subst he
            rename World => wx
            have BX := Lib.hid (bstep HB.out hbx)
            have NX := Lib.hid (NB.out.below hbx)
            obtain ⟨v', w6, hr, o6, b6, _⟩ := appI (ownI_below HO.out hbx) (k : Int) NX.out.1 (by omega) 36
            rw [← NL.out] at o6
            have HR := Lib.hid hr
            have O6 := Lib.hid o6
            have N6 := Lib.hid (NX.out.belowB (Nat.lt_succ_self _) b6)
            have B6 := Lib.hid (BX.out.trans (b6.mono (Nat.le_succ _)))
            clear hbx hr o6 b6
            go_wp2_with (first | (at_builtin; refine wpList_append_eqL rfl _ _ 36 rfl _ _ v' w6 rfl rfl HR.out ?_))
            exact ⟨⟨k + 1, by omega, by go_num, O6.out, N6.out, B6.out⟩, by simp [intOf]; omega⟩
          · have MT := Lib.hid (fun w => Fx.rMeet_ok xl xh sl sh w (okN_iff.1 ox.out) (okN_iff.1 OS.out) (by have h1 := ox.out.1; have h2 := OS.out.1; simp only at h1 h2; omega))
            have NL := Lib.hid (liL_no (s := ⟨sl, sh⟩) HX.out q)
            go_upto_region 7 with fail
            go_cut [8, 9] from 24 to 32 (fun _ ev wx => ev = .int .i64 0 ∧ Below wr.heap.size wr wx)
            case first =>
              have hb1 : Below wr.heap.size wr (wr.alloc (.cells #[.int .i64 0, .int .i64 0] 25)).drew := (balloc (brefl wr) _).drew
              have NW := Lib.hid ((new2 wr 0 0 25).below (brefl _).drew)
              obtain ⟨x0, x1, x2, x3⟩ := KP.out _ hb0
              obtain ⟨t0, t1, t2, t3⟩ := KP.out _ hb1
              go_region_with (first | (go_at_call 25; (with_reducible refine (MT.out wr.drew).mono ?_); rintro e w' ⟨rfl, hb⟩; replace hb := bstep hb0 hb) | (go_at_call 25; (with_reducible refine (MT.out (wr.alloc (.cells #[.int .i64 0, .int .i64 0] 25)).drew).mono ?_); rintro e w' ⟨rfl, hb⟩; obtain ⟨g0, g1⟩ := blk2 NW.out hb; have f0 := ((NW.out.below hb).2 0 _ rfl).2; have f1 := ((NW.out.below hb).2 1 _ rfl).2; replace hb := bstep hb1 hb))
              all_goals (go_wp2_with fail)
              all_goals go_meet
              all_goals exact ⟨rfl, by first | assumption | exact balloc (by assumption) _ | exact below_set (below_set (by assumption) (Nat.le_refl _) 0 _) (Nat.le_refl _) 1 _⟩
            obtain ⟨he, hbx⟩ := hcut
            subst he
            rename World => wx
            have BX := Lib.hid (bstep HB.out hbx)
            have NX := Lib.hid (NB.out.below hbx)
            have OX := Lib.hid (ownI_below HO.out hbx)
            clear hbx
            go_wp2_with fail
            exact ⟨⟨k + 1, by omega, by go_num, by rw [NL.out]; exact OX.out, NX.out, BX.out⟩, by simp [intOf]; omega⟩
        · have e1 : decide ((k : Int) < (m : Int)) = false := decide_eq_false (by omega)
          have e2 : decide (k < m) = false := decide_eq_false c
          obtain rfl : k = m := by omega
          have FN := Lib.hid (HP.out _ _ (HO.out.mono (Nat.le_succ _)))
          go_wp2_with fail
          go_ret2
          exact ⟨FN.out, HB.out⟩
    · rw [if_neg os] at CA
      have HP : Hid (∀ w', LiP w L ⟨sl, sh⟩ (.returned (.tuple #[.slice none 0 0, .int .i64 3])) w') := Lib.hid fun w' => ⟨_, by rw [if_neg (fun q => os q.2)], by rw [if_neg (fun q => os q.2)]; exact OwnI.nil _ _⟩
      rw [hm] at CK
      rw [hm]
      clear ok os hm
      go_enter Try.func13, Try.ntmps13
      go_wp2_with fail
      refine CK.out.mono ?_
      rintro e w1 ⟨rfl, hb⟩
      have B1 := Lib.hid (bstep B0.out hb)
      have N1 := Lib.hid (N0.out.below hb)
      clear hb N0 B0 CK
      obtain ⟨z0, z1⟩ := blk2 N1.out (brefl _)
      go_wp2_with fail
      refine (CA.out _).mono ?_
      rintro e w2 ⟨rfl, hb⟩
      have B2 := Lib.hid (bstep B1.out hb)
      clear hb z0 z1 N1 B1 CA
      go_wp2_with fail
      go_ret2
      exact ⟨HP.out _, B2.out⟩
  · rw [decide_eq_false ok] at CK
    have HP : Hid (∀ w', LiP w L ⟨sl, sh⟩ (.returned (.tuple #[.slice none 0 0, .int .i64 3])) w') := Lib.hid fun w' => ⟨_, by rw [if_neg (fun q => ok q.1)], by rw [if_neg (fun q => ok q.1)]; exact OwnI.nil _ _⟩
    rw [hm] at CK
    rw [hm]
    clear ok hm
    go_enter Try.func13, Try.ntmps13
    go_wp2_with fail
    refine CK.out.mono ?_
    rintro e w1 ⟨rfl, hb⟩
    have B1 := Lib.hid (bstep B0.out hb)
    clear hb N0 B0 CK
    go_wp2_with fail
    go_ret2
    exact ⟨HP.out _, B1.out⟩
end Go.Proofs.Ytppflfodkhhfhaa.Hu
