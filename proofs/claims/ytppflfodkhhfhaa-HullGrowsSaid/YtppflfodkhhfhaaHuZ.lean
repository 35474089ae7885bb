/-
  The program's Hull, Held and Liars of spans.
  Conditions: none but that the spans lie in memory.
-/
import Derived.Test.YtppflfodkhhfhaaHuI
import Derived.Test.YtppflfodkhhfhaaHuF
namespace Go.Proofs.Ytppflfodkhhfhaa.Hu
open Go.RowKit Go.ChangeShapes Go.WideShapes Go.ChangeAt Go.Joins Fl
set_option linter.unusedVariables false
set_option linter.unusedSimpArgs false

theorem hull_found {L : List Sn} {g : Nat} {lo hi : Int} (hg : g < L.length) (EN : ∀ t, Enough L g t ↔ (L.length : Int) - (g : Int) ≤ (cnt L t : Nat)) (h1 : Lst (loL L ((L.length : Int) - (g : Int)) L.length) lo) (h2 : Gst (hiL L ((L.length : Int) - (g : Int)) L.length) hi) : Hull L g lo hi := by
  obtain ⟨a, b⟩ := h1
  obtain ⟨c, d⟩ := h2
  obtain ⟨s, hs, e1, rfl⟩ := loL_mem.1 a
  obtain ⟨s', hs', e2, rfl⟩ := hiL_mem.1 c
  exact hull_ends hg ((EN _).2 e1) ((EN _).2 e2) (fun x hx q => b _ (loL_mem.2 ⟨x, hx, (EN _).1 q, rfl⟩)) (fun x hx q => d _ (hiL_mem.2 ⟨x, hx, (EN _).1 q, rfl⟩))
theorem hull_lost {L : List Sn} {g : Nat} (hg : g < L.length) (EN : ∀ t, Enough L g t ↔ (L.length : Int) - (g : Int) ≤ (cnt L t : Nat)) (h : (loL L ((L.length : Int) - (g : Int)) L.length).length = 0) : ∀ t, ¬ Enough L g t :=
  none_of_lows hg fun s hs q => by
    have : s.lo ∈ loL L ((L.length : Int) - (g : Int)) L.length := loL_mem.2 ⟨s, hs, (EN _).1 q, rfl⟩
    rw [List.length_eq_zero_iff.1 h] at this
    cases this
theorem highs_too {L : List Sn} {g : Nat} (hg : g < L.length) (EN : ∀ t, Enough L g t ↔ (L.length : Int) - (g : Int) ≤ (cnt L t : Nat)) (h : 0 < (loL L ((L.length : Int) - (g : Int)) L.length).length) : 0 < (hiL L ((L.length : Int) - (g : Int)) L.length).length := by
  obtain ⟨x, hx⟩ := List.exists_mem_of_length_pos h
  obtain ⟨s, hs, e1, _⟩ := loL_mem.1 hx
  obtain ⟨s', hs', _, e2⟩ := high_of hg ((EN _).2 e1)
  exact List.length_pos_of_mem (hiL_mem.2 ⟨s', hs', (EN _).1 e2, rfl⟩)
set_option maxRecDepth 100000 in
set_option maxHeartbeats 8000000 in
theorem Hull_c {w : World} {v : Value} {L : List Sn} (h : Hs w v L) (hn : L.length ≤ 8796093022208) (f : Int) (hfi : -9223372036854775808 ≤ f ∧ f ≤ 9223372036854775807) :
    Calls Try.prog 8 #[v, .int .i64 f] w fun e w' => e = huE L f ∧ Below w.heap.size w w' := by
  have B0 := Lib.hid (balloc (brefl w) (.cells #[.int .i64 0, .int .i64 0] 25))
  have N0 := Lib.hid (new2 w 0 0 25)
  have CK := Lib.hid (isRight_c (h.below B0.out) hn)
  have CN := Lib.hid (fun w' (b : Below w.heap.size w w') q => ends_c (h.below b) hn q)
  have RZ : Hid (∀ W (a b e : Int), Blk W w.heap.size [.int .i64 a, .int .i64 b] → huA L f = ((a, b), e) → ∀ tmps : Array Value, tmps.getD 4 undef = .pointer (some ⟨w.heap.size, 0, none⟩) → tmps.getD 5 undef = .int .i64 e → (results Try.f8 tmps).run Try.prog W = .ok (.tuple #[.agg #[.int .i64 a, .int .i64 b], .int .i64 e]) W) := Lib.hid fun W a b e hb _ tmps h1 h2 =>
    results_cell_slot rfl tmps W w.heap.size [.int .i64 a, .int .i64 b] _ _ h1 h2 hb.range Try.underlying25 rfl (by exact info_sn)
  obtain ⟨a, cap, rfl, c1, c2, _⟩ := h
  obtain ⟨m, hm⟩ : ∃ m, L.length = m := ⟨_, rfl⟩
  have HM := Lib.hid hm
  by_cases ok : okL L
  · rw [decide_eq_true ok] at CK
    have m32 : m ≤ 32 := hm ▸ ok.2
    have OK := Lib.hid ok
    by_cases fn : f < 0
    · have AE := Lib.hid (huA_range ok fn)
      have d0 := decide_eq_true fn
      rw [hm]
      rw [hm] at CK
      clear ok hm
      go_enter Try.func8, Try.ntmps8
      go_wp2_with fail
      refine CK.out.mono ?_
      rintro e w1 ⟨rfl, hb⟩
      have B1 := Lib.hid (bstep B0.out hb)
      have N1 := Lib.hid (N0.out.below hb)
      clear hb N0 B0 CK
      have S2 := Lib.hid (blk_set (blk_set N1.out 0 (.int .i64 0)) 1 (.int .i64 0))
      have B2 := Lib.hid (below_set (below_set B1.out (Nat.le_refl w.heap.size) 0 (.int .i64 0)) (Nat.le_refl w.heap.size) 1 (.int .i64 0))
      obtain ⟨z0, z1⟩ := blk2 N1.out (brefl _)
      have f0 := (N1.out.2 0 _ rfl).2
      have f1 := (N1.out.2 1 _ rfl).2
      go_wp2_with fail
      exact bodyPost_ret (v := .tuple #[.agg #[.int .i64 0, .int .i64 0], .int .i64 2]) (RZ.out _ 0 0 2 S2.out AE.out _ rfl rfl) rfl ⟨(huE_at AE.out).symm, B2.out⟩
    · have d0 := decide_eq_false fn
      by_cases fb : (m : Int) ≤ f
      · have AE := Lib.hid (huA_bound ok fn (by rw [hm]; exact fb))
        have d1 := decide_eq_true fb
        rw [hm]
        rw [hm] at CK
        clear ok hm
        go_enter Try.func8, Try.ntmps8
        go_wp2_with fail
        refine CK.out.mono ?_
        rintro e w1 ⟨rfl, hb⟩
        have B1 := Lib.hid (bstep B0.out hb)
        have N1 := Lib.hid (N0.out.below hb)
        clear hb N0 B0 CK
        have S2 := Lib.hid (blk_set (blk_set N1.out 0 (.int .i64 0)) 1 (.int .i64 0))
        have B2 := Lib.hid (below_set (below_set B1.out (Nat.le_refl w.heap.size) 0 (.int .i64 0)) (Nat.le_refl w.heap.size) 1 (.int .i64 0))
        obtain ⟨z0, z1⟩ := blk2 N1.out (brefl _)
        have f0 := (N1.out.2 0 _ rfl).2
        have f1 := (N1.out.2 1 _ rfl).2
        go_wp2_with fail
        exact bodyPost_ret (v := .tuple #[.agg #[.int .i64 0, .int .i64 0], .int .i64 61]) (RZ.out _ 0 0 61 S2.out AE.out _ rfl rfl) rfl ⟨(huE_at AE.out).symm, B2.out⟩
      · have d1 := decide_eq_false fb
        obtain ⟨g, rfl⟩ := Int.eq_ofNat_of_zero_le (show 0 ≤ f by omega)
        have gm : g < m := by omega
        have d1' : decide (m ≤ g) = false := decide_eq_false (by omega)
        have d0' : decide ((g : Int) < 0) = false := decide_eq_false (by omega)
        have gl : Hid (g < L.length) := Lib.hid (by rw [hm]; exact gm)
        have EN : Hid (∀ t, Enough L g t ↔ (L.length : Int) - (g : Int) ≤ (cnt L t : Nat)) := Lib.hid fun t => by unfold Enough; omega
        have wg : IntKind.i64.wrap ((m : Int) - (g : Int)) = (m : Int) - (g : Int) := wrap_in (by omega) (by omega)
        have LO := Lib.hid (hull_lost gl.out EN.out)
        have HI := Lib.hid (highs_too gl.out EN.out)
        have FO := Lib.hid (fun lo hi => hull_found (lo := lo) (hi := hi) gl.out EN.out)
        have l32 := loL_len L ((L.length : Int) - (g : Int)) L.length
        have h32 := hiL_len L ((L.length : Int) - (g : Int)) L.length
        have NX : Hid (huA L (g : Int) = huA L (g : Int)) := Lib.hid rfl
        replace CN : Hid (∀ w', Below w.heap.size w w' → Calls Try.prog 15 #[.slice a L.length cap, .int .i64 ((L.length : Int) - (g : Int))] w' fun e w'' => (∃ lv hv, e = .returned (.tuple #[lv, hv]) ∧ Is w'' lv (loL L ((L.length : Int) - (g : Int)) L.length) ∧ Is w'' hv (hiL L ((L.length : Int) - (g : Int)) L.length)) ∧ Below w'.heap.size w' w'') := Lib.hid fun w' b => CN.out w' b _
        generalize loL L ((L.length : Int) - (g : Int)) L.length = LL at *
        generalize hiL L ((L.length : Int) - (g : Int)) L.length = HH at *
        have hg2 : ((L.length : Int) - (g : Int)) = (m : Int) - (g : Int) := by rw [hm]
        rw [hg2] at CN
        rw [hm] at CN CK c1 hn l32 h32 ⊢
        have m0 : (0 : Int) ≤ (m : Int) := by omega
        have m1 : (m : Int) ≤ 32 := by omega
        have m2 : (m : Int) ≤ (cap : Int) := by omega
        have m3 : (cap : Int) ≤ 9223372036854775807 := by omega
        clear ok hm hg2
        go_enter Try.func8, Try.ntmps8
        go_wp2_with fail
        refine CK.out.mono ?_
        rintro e w1 ⟨rfl, hb⟩
        have B1 := Lib.hid (bstep B0.out hb)
        have N1 := Lib.hid (N0.out.below hb)
        clear hb N0 B0 CK
        go_wp2_with fail
        refine (CN.out _ B1.out).mono ?_
        rintro e w2 ⟨⟨lv, hv, rfl, il, ih⟩, hb⟩
        have B2 := Lib.hid (bstep B1.out hb)
        have N2 := Lib.hid (N1.out.below hb)
        have IL := Lib.hid il
        have IH := Lib.hid ih
        obtain ⟨la, lc, rfl, p1, p2, _⟩ := il
        obtain ⟨ha, hc, rfl, q1, q2, _⟩ := ih
        obtain ⟨ln, hln⟩ : ∃ n, LL.length = n := ⟨_, rfl⟩
        obtain ⟨hn', hhn⟩ : ∃ n, HH.length = n := ⟨_, rfl⟩
        rw [hln] at IL p1 l32 LO HI ⊢
        rw [hhn] at IH q1 h32 HI ⊢
        clear hb N1 B1 CN
        by_cases z : ln = 0
        · have AE := Lib.hid (huA_none OK.out gl.out (LO.out z))
          have dz : ((ln : Int) == 0) = true := by rw [beq_iff_eq]; omega
          have S2 := Lib.hid (blk_set (blk_set N2.out 0 (.int .i64 0)) 1 (.int .i64 0))
          have B3 := Lib.hid (below_set (below_set B2.out (Nat.le_refl w.heap.size) 0 (.int .i64 0)) (Nat.le_refl w.heap.size) 1 (.int .i64 0))
          obtain ⟨z0, z1⟩ := blk2 N2.out (brefl _)
          have f0 := (N2.out.2 0 _ rfl).2
          have f1 := (N2.out.2 1 _ rfl).2
          go_wp2_with fail
          exact bodyPost_ret (v := .tuple #[.agg #[.int .i64 0, .int .i64 0], .int .i64 60]) (RZ.out _ 0 0 60 S2.out AE.out _ rfl rfl) rfl ⟨(huE_at AE.out).symm, B3.out⟩
        · have dz : ((ln : Int) == 0) = false := by rw [beq_eq_false_iff_ne]; omega
          have MI := Lib.hid (Min_c IL.out (by omega))
          have MA := Lib.hid (Max_c IH.out (by have := HI.out (by omega); omega))
          obtain ⟨z0, z1⟩ := blk2 N2.out (brefl _)
          have f0 := (N2.out.2 0 _ rfl).2
          have f1 := (N2.out.2 1 _ rfl).2
          clear IL IH
          go_wp2_with fail
          refine MI.out.mono ?_
          rintro e w3 ⟨⟨lo, rfl, kl⟩, rfl⟩
          have KL := Lib.hid kl
          clear kl MI
          go_wp2_with fail
          refine MA.out.mono ?_
          rintro e w3 ⟨⟨hi, rfl, kh⟩, rfl⟩
          have AE := Lib.hid (huA_some OK.out gl.out (FO.out lo hi KL.out kh))
          clear kh MA KL
          rename World => w2
          have S2 := Lib.hid (blk_set (blk_set N2.out 0 (.int .i64 lo)) 1 (.int .i64 hi))
          have B3 := Lib.hid (below_set (below_set B2.out (Nat.le_refl w.heap.size) 0 (.int .i64 lo)) (Nat.le_refl w.heap.size) 1 (.int .i64 hi))
          go_wp2_with fail
          exact bodyPost_ret (v := .tuple #[.agg #[.int .i64 lo, .int .i64 hi], .int .i64 0]) (RZ.out _ lo hi 0 S2.out AE.out _ rfl rfl) rfl ⟨(huE_at AE.out).symm, B3.out⟩
  · rw [decide_eq_false ok] at CK
    have AE := Lib.hid (huA_shape (f := f) ok)
    rw [hm]
    rw [hm] at CK
    clear ok hm
    go_enter Try.func8, Try.ntmps8
    go_wp2_with fail
    refine CK.out.mono ?_
    rintro e w1 ⟨rfl, hb⟩
    have B1 := Lib.hid (bstep B0.out hb)
    have N1 := Lib.hid (N0.out.below hb)
    clear hb N0 B0 CK
    have S2 := Lib.hid (blk_set (blk_set N1.out 0 (.int .i64 0)) 1 (.int .i64 0))
    have B2 := Lib.hid (below_set (below_set B1.out (Nat.le_refl w.heap.size) 0 (.int .i64 0)) (Nat.le_refl w.heap.size) 1 (.int .i64 0))
    obtain ⟨z0, z1⟩ := blk2 N1.out (brefl _)
    have f0 := (N1.out.2 0 _ rfl).2
    have f1 := (N1.out.2 1 _ rfl).2
    go_wp2_with fail
    exact bodyPost_ret (v := .tuple #[.agg #[.int .i64 0, .int .i64 0], .int .i64 3]) (RZ.out _ 0 0 3 S2.out AE.out _ rfl rfl) rfl ⟨(huE_at AE.out).symm, B2.out⟩
set_option maxRecDepth 100000 in
theorem Held_c {w : World} {v : Value} {L : List Sn} (h : Hs w v L) (hn : L.length ≤ 8796093022208) (t : Int) :
    Calls Try.prog 10 #[v, .int .i64 t] w fun e w' => e = heE L t ∧ Below w.heap.size w w' := by
  have CK := Lib.hid (isRight_c h hn)
  have IS : Hid (∀ w, Calls Try.prog 20 #[.agg #[.int .i64 t, .int .i64 t]] w fun e w' => e = .returned (.int .i64 (if okT t then 0 else 3)) ∧ Below w.heap.size w w') := Lib.hid fun w => by
    have CA := Check_any ⟨t, t⟩ w
    have q : okN ⟨t, t⟩ ↔ okT t := by unfold okN okT; exact ⟨fun q => ⟨q.2.1, q.2.2⟩, fun q => ⟨Int.le_refl _, q.1, q.2⟩⟩
    by_cases c : okT t
    · rw [if_pos (q.2 c)] at CA
      rw [if_pos c]
      exact CA
    · rw [if_neg (fun z => c (q.1 z))] at CA
      rw [if_neg c]
      exact CA
  have CN := Lib.hid (fun w' (q : Below w.heap.size w w') => holders_c (h.below q) hn t)
  obtain ⟨a, cap, rfl, _⟩ := h
  generalize L.length = m at *
  by_cases ok : okL L
  · rw [decide_eq_true ok] at CK
    by_cases ot : okT t
    · rw [if_pos ot] at IS
      rw [show heE L t = .returned (.tuple #[.int .i64 (cnt L t : Nat), .int .i64 0]) by unfold heE; rw [if_pos ⟨ok, ot⟩, if_pos ok, if_pos ot]]
      go_enter Try.func10, Try.ntmps10
      go_wp2_with fail
      refine CK.out.mono ?_
      rintro e w1 ⟨rfl, hb⟩
      have B1 := Lib.hid hb
      clear hb
      go_wp2_with fail
      refine (IS.out _).mono ?_
      rintro e w2 ⟨rfl, hb⟩
      have B2 := Lib.hid (bstep B1.out hb)
      clear hb
      go_wp2_with fail
      refine (CN.out _ B2.out).mono ?_
      rintro e w3 ⟨rfl, hb⟩
      have B3 := Lib.hid (bstep B2.out hb)
      clear hb
      go_wp2_with fail
      go_ret2
      exact ⟨rfl, B3.out⟩
    · rw [if_neg ot] at IS
      rw [show heE L t = .returned (.tuple #[.int .i64 0, .int .i64 2]) by unfold heE; rw [if_neg (fun q => ot q.2), if_pos ok, if_neg ot]]
      go_enter Try.func10, Try.ntmps10
      go_wp2_with fail
      refine CK.out.mono ?_
      rintro e w1 ⟨rfl, hb⟩
      have B1 := Lib.hid hb
      clear hb
      go_wp2_with fail
      refine (IS.out _).mono ?_
      rintro e w2 ⟨rfl, hb⟩
      have B2 := Lib.hid (bstep B1.out hb)
      clear hb
      go_wp2_with fail
      go_ret2
      exact ⟨rfl, B2.out⟩
  · rw [decide_eq_false ok] at CK
    rw [show heE L t = .returned (.tuple #[.int .i64 0, .int .i64 3]) by unfold heE; rw [if_neg (fun q => ok q.1), if_neg ok]]
    go_enter Try.func10, Try.ntmps10
    go_wp2_with fail
    refine CK.out.mono ?_
    rintro e w1 ⟨rfl, hb⟩
    have B1 := Lib.hid hb
    clear hb
    go_wp2_with fail
    go_ret2
    exact ⟨rfl, B1.out⟩
set_option maxRecDepth 100000 in
set_option maxHeartbeats 4000000 in
theorem Liars_c {w : World} {v : Value} {L : List Sn} (h : Hs w v L) (hn : L.length ≤ 8796093022208) (s : Sn) :
    Calls Try.prog 12 #[v, NV s] w fun e w' => LiP w L s e w' ∧ Below w.heap.size w w' := by
  have CA := Lib.hid (Check_any s)
  obtain ⟨sl, sh⟩ := s
  have HS := Lib.hid h
  have B0 := Lib.hid (balloc (brefl w) (.cells #[.int .i64 sl, .int .i64 sh] 25))
  have N0 := Lib.hid (new2 w sl sh 25)
  have CK := Lib.hid (isRight_c (h.below B0.out) hn)
  replace CA : Hid (∀ w, Calls Try.prog 20 #[.agg #[.int .i64 sl, .int .i64 sh]] w fun e w' => e = .returned (.int .i64 (if okN ⟨sl, sh⟩ then 0 else 3)) ∧ Below w.heap.size w w') := CA
  show Calls Try.prog 12 #[v, .agg #[.int .i64 sl, .int .i64 sh]] w _
  obtain ⟨a, cap, rfl, c1, c2, _⟩ := h
  obtain ⟨m, hm⟩ : ∃ m, L.length = m := ⟨_, rfl⟩
  have HM := Lib.hid hm
  by_cases ok : okL L
  · rw [decide_eq_true ok] at CK
    by_cases os : okN ⟨sl, sh⟩
    · rw [if_pos os] at CA
      have HP : Hid (∀ v' w', OwnI w' w.heap.size v' (liL ⟨sl, sh⟩ L m) → LiP w L ⟨sl, sh⟩ (.returned (.tuple #[v', .int .i64 0])) w') := Lib.hid fun v' w' q => ⟨v', by rw [if_pos ⟨ok, os⟩], by rw [if_pos ⟨ok, os⟩, hm]; exact q⟩
      have OS := Lib.hid os
      have OK := Lib.hid ok
      have m32 : m ≤ 32 := hm ▸ ok.2
      rw [hm] at HS CK c1 hn ⊢
      have m0 : (0 : Int) ≤ (m : Int) := by omega
      have m1 : (m : Int) ≤ 32 := by omega
      have m2 : (m : Int) ≤ (cap : Int) := by omega
      have m3 : (cap : Int) ≤ 9223372036854775807 := by omega
      clear ok os hm
      go_enter Try.func12, Try.ntmps12
      go_wp2_with fail
      refine CK.out.mono ?_
      rintro e w1 ⟨rfl, hb⟩
      have B1 := Lib.hid (bstep B0.out hb)
      have N1 := Lib.hid (N0.out.below hb)
      clear hb N0 B0 CK
      obtain ⟨z0, z1⟩ := blk2 N1.out (brefl _)
      go_wp2_with fail
      refine (CA.out _).mono ?_
      rintro e w2 ⟨rfl, hb⟩
      have B2 := Lib.hid (bstep B1.out hb)
      have N2 := Lib.hid (N1.out.below hb)
      clear hb z0 z1 N1 B1 CA
      go_wp2_with fail
      go_loopw [6, 21] (fun ov iv wr => ∃ k : Nat, k ≤ m ∧ iv = .int .i64 (k : Nat) ∧ OwnI wr (w.heap.size + 1) ov (liL ⟨sl, sh⟩ L k) ∧ Blk wr w.heap.size [.int .i64 sl, .int .i64 sh] ∧ Below w.heap.size w wr) (fun _ iv _ => m - (intOf iv).toNat)
      case atStart => exact ⟨0, by omega, rfl, OwnI.nil _ _, N2.out, B2.out⟩
      case round =>
        obtain ⟨k, hk, rfl, ho, hnb, hb⟩ := hrel
        rename World => wr
        have HO := Lib.hid ho
        have NB := Lib.hid hnb
        have HB := Lib.hid hb
        clear ho hnb hb N2 B2
        by_cases c : k < m
        · have e1 : decide ((k : Int) < (m : Int)) = true := decide_eq_true (by omega)
          have e2 : decide (k < m) = true := decide_eq_true c
          have k1 : (k : Int) < (m : Int) := by omega
          have wk : IntKind.i64.wrap ((k : Int) + 1) = (k : Int) + 1 := wrap_in (by omega) (by omega)
          obtain ⟨x, hx⟩ : ∃ x, L[k]? = some x := ⟨_, List.getElem?_eq_getElem (by rw [HM.out]; exact c)⟩
          have HX := Lib.hid hx
          have ox := Lib.hid (OK.out.1 x (List.mem_of_getElem? hx))
          obtain ⟨sb, so, rfl, y0, y1⟩ := (HS.out.below HB.out).at hx
          clear hx
          obtain ⟨xl, xh⟩ := x
          simp only at y0 y1
          have ls := liL_len ⟨sl, sh⟩ L k
          have hba := balloc (brefl wr) (.cells #[.int .i64 xl, .int .i64 xh] 25)
          have NXA := Lib.hid (new2 wr xl xh 25)
          have NBA := Lib.hid (NB.out.below hba)
          have BA := Lib.hid (bstep HB.out hba)
          have OA := Lib.hid (ownI_below HO.out hba)
          obtain ⟨nb, hnb⟩ : ∃ b, wr.heap.size = b := ⟨_, rfl⟩
          rw [hnb] at NXA
          obtain ⟨oa, oc, eov, _⟩ := HO.out.is
          subst eov
          clear hba
          by_cases q : xh < sl ∨ sh < xl
          · have MT := Lib.hid (fun w => Fx.Meet_none xl xh sl sh w (okN_iff.1 ox.out) (okN_iff.1 OS.out) (by have h1 := ox.out.1; have h2 := OS.out.1; simp only at h1 h2; omega))
            have NL := Lib.hid (liL_yes (s := ⟨sl, sh⟩) HX.out q)
            go_upto_region 7 with fail
            clear y0 y1
            generalize wr.alloc (.cells #[.int .i64 xl, .int .i64 xh] 25) = wa at *
            obtain ⟨z0, z1⟩ := blk2 NBA.out (brefl wa)
            obtain ⟨x0, x1⟩ := blk2 NXA.out (brefl wa)
            go_wp2_with fail
            refine (MT.out _).mono ?_
            rintro e wx ⟨rfl, hb⟩
            have hb2 := balloc hb (.cells #[.int .i64 0, .int .i64 0] 25)
            have BX := Lib.hid (bstep BA.out hb2)
            have NX := Lib.hid (NBA.out.below hb2)
            have OX := Lib.hid (ownI_below OA.out hb2)
            clear hb hb2 x0 x1 z0 z1 OA BA NBA NXA MT
            obtain ⟨v', w6, hr, o6, b6, _⟩ := appI OX.out (k : Int) NX.out.1 (by omega) 36
            rw [← NL.out] at o6
            have HR := Lib.hid hr
            have O6 := Lib.hid o6
            have N6 := Lib.hid (NX.out.belowB (Nat.lt_succ_self _) b6)
            have B6 := Lib.hid (BX.out.trans (b6.mono (Nat.le_succ _)))
            clear hr o6 b6
            go_upto_region 9 with fail
            generalize wx.alloc (.cells #[.int .i64 0, .int .i64 0] 25) = wy at *
            go_wp2_with (first | (at_builtin; refine wpList_append_eqL rfl _ _ 36 rfl _ _ v' w6 rfl rfl HR.out ?_))
            exact ⟨⟨k + 1, by omega, by go_num, O6.out, N6.out, B6.out⟩, by simp [intOf]; omega⟩
          · have MT := Lib.hid (fun w => Fx.Meet_ok xl xh sl sh w (okN_iff.1 ox.out) (okN_iff.1 OS.out) (by have h1 := ox.out.1; have h2 := OS.out.1; simp only at h1 h2; omega))
            have NL := Lib.hid (liL_no (s := ⟨sl, sh⟩) HX.out q)
            replace OA : Hid (OwnI (wr.alloc (.cells #[.int .i64 xl, .int .i64 xh] 25)) (w.heap.size + 1) (.slice oa (liL ⟨sl, sh⟩ L k).length oc) (liL ⟨sl, sh⟩ L (k + 1))) := Lib.hid (by rw [NL.out]; exact OA.out)
            obtain ⟨p0, hp0⟩ : ∃ p, max xl sl = p := ⟨_, rfl⟩
            obtain ⟨p1, hp1⟩ : ∃ p, min xh sh = p := ⟨_, rfl⟩
            rw [hp0, hp1] at MT
            clear hp0 hp1
            go_upto_region 7 with fail
            clear y0 y1
            generalize wr.alloc (.cells #[.int .i64 xl, .int .i64 xh] 25) = wa at *
            obtain ⟨z0, z1⟩ := blk2 NBA.out (brefl wa)
            obtain ⟨x0, x1⟩ := blk2 NXA.out (brefl wa)
            go_wp2_with fail
            refine (MT.out _).mono ?_
            rintro e wx ⟨rfl, hb⟩
            have hb2 := balloc hb (.cells #[.int .i64 p0, .int .i64 p1] 25)
            have BX := Lib.hid (bstep BA.out hb2)
            have NX := Lib.hid (NBA.out.below hb2)
            have OX := Lib.hid (ownI_below OA.out hb2)
            clear hb hb2 x0 x1 z0 z1 OA BA NBA NXA MT
            go_wp2_with fail
            exact ⟨⟨k + 1, by omega, by go_num, OX.out, NX.out, BX.out⟩, by simp [intOf]; omega⟩
        · have e1 : decide ((k : Int) < (m : Int)) = false := decide_eq_false (by omega)
          have e2 : decide (k < m) = false := decide_eq_false c
          obtain rfl : k = m := by omega
          have FN := Lib.hid (HP.out _ _ (HO.out.mono (Nat.le_succ _)))
          go_wp2_with fail
          go_ret2
          exact ⟨FN.out, HB.out⟩
    · rw [if_neg os] at CA
      have HP : Hid (∀ w', LiP w L ⟨sl, sh⟩ (.returned (.tuple #[.slice none 0 0, .int .i64 3])) w') := Lib.hid fun w' => ⟨_, by rw [if_neg (fun q => os q.2)], by rw [if_neg (fun q => os q.2)]; exact OwnI.nil _ _⟩
      rw [hm] at CK
      rw [hm]
      clear ok os hm
      go_enter Try.func12, Try.ntmps12
      go_wp2_with fail
      refine CK.out.mono ?_
      rintro e w1 ⟨rfl, hb⟩
      have B1 := Lib.hid (bstep B0.out hb)
      have N1 := Lib.hid (N0.out.below hb)
      clear hb N0 B0 CK
      obtain ⟨z0, z1⟩ := blk2 N1.out (brefl _)
      go_wp2_with fail
      refine (CA.out _).mono ?_
      rintro e w2 ⟨rfl, hb⟩
      have B2 := Lib.hid (bstep B1.out hb)
      have N2 := Lib.hid (N1.out.below hb)
      clear hb z0 z1 N1 B1 CA
      go_wp2_with fail
      go_ret2
      exact ⟨HP.out _, B2.out⟩
  · rw [decide_eq_false ok] at CK
    have HP : Hid (∀ w', LiP w L ⟨sl, sh⟩ (.returned (.tuple #[.slice none 0 0, .int .i64 3])) w') := Lib.hid fun w' => ⟨_, by rw [if_neg (fun q => ok q.1)], by rw [if_neg (fun q => ok q.1)]; exact OwnI.nil _ _⟩
    rw [hm] at CK
    rw [hm]
    clear ok hm
    go_enter Try.func12, Try.ntmps12
    go_wp2_with fail
    refine CK.out.mono ?_
    rintro e w1 ⟨rfl, hb⟩
    have B1 := Lib.hid (bstep B0.out hb)
    have N1 := Lib.hid (N0.out.below hb)
    clear hb N0 B0 CK
    obtain ⟨z0, z1⟩ := blk2 N1.out (brefl _)
    go_wp2_with fail
    go_ret2
    exact ⟨HP.out _, B1.out⟩
theorem pc : PC := ⟨fun w v L f h hn hf => Hull_c h hn f hf, fun w v L t h hn => Held_c h hn t, fun w v L s h hn => Liars_c h hn s⟩
end Go.Proofs.Ytppflfodkhhfhaa.Hu
