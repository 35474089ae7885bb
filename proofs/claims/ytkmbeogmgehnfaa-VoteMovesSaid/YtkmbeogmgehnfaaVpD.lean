/-
  The span that so many candidates' spans agree on, the program's way.
  Conditions: none but that the candidates lie in memory.
-/
import Derived.Test.YtkmbeogmgehnfaaVpA
import Derived.Test.YtkmbeogmgehnfaaVpC
namespace Go.Proofs.Ytkmbeogmgehnfaa.Vo
open Go.RowKit Go.ChangeShapes Go.WideShapes Go.ChangeAt Go.Joins Fl Hu
set_option linter.unusedVariables false
set_option linter.unusedSimpArgs false

/-- the beginnings (the ends) that are held enough, of the first k. -/
def loL (L : List Sn) (q : Int) (k : Nat) : List Int := ((L.take k).filter fun s => decide (q ≤ (cnt L s.lo : Nat))).map Sn.lo
def hiL (L : List Sn) (q : Int) (k : Nat) : List Int := ((L.take k).filter fun s => decide (q ≤ (cnt L s.hi : Nat))).map Sn.hi
theorem loL_len (L : List Sn) (q : Int) (k : Nat) : (loL L q k).length ≤ k := by
  unfold loL
  rw [List.length_map]
  exact Nat.le_trans (List.length_filter_le _ _) (by rw [List.length_take]; omega)
theorem hiL_len (L : List Sn) (q : Int) (k : Nat) : (hiL L q k).length ≤ k := by
  unfold hiL
  rw [List.length_map]
  exact Nat.le_trans (List.length_filter_le _ _) (by rw [List.length_take]; omega)
theorem loL_yes {L : List Sn} {q : Int} {k : Nat} {x : Sn} (h : L[k]? = some x) (c : q ≤ (cnt L x.lo : Nat)) : loL L q (k + 1) = loL L q k ++ [x.lo] := by
  unfold loL
  rw [take_snoc h, List.filter_append, List.filter_cons_of_pos (by simpa using c), List.map_append]
  rfl
theorem loL_no {L : List Sn} {q : Int} {k : Nat} {x : Sn} (h : L[k]? = some x) (c : ¬ q ≤ (cnt L x.lo : Nat)) : loL L q (k + 1) = loL L q k := by
  unfold loL
  rw [take_snoc h, List.filter_append, List.filter_cons_of_neg (by simpa using c), List.filter_nil, List.append_nil]
theorem hiL_yes {L : List Sn} {q : Int} {k : Nat} {x : Sn} (h : L[k]? = some x) (c : q ≤ (cnt L x.hi : Nat)) : hiL L q (k + 1) = hiL L q k ++ [x.hi] := by
  unfold hiL
  rw [take_snoc h, List.filter_append, List.filter_cons_of_pos (by simpa using c), List.map_append]
  rfl
theorem hiL_no {L : List Sn} {q : Int} {k : Nat} {x : Sn} (h : L[k]? = some x) (c : ¬ q ≤ (cnt L x.hi : Nat)) : hiL L q (k + 1) = hiL L q k := by
  unfold hiL
  rw [take_snoc h, List.filter_append, List.filter_cons_of_neg (by simpa using c), List.filter_nil, List.append_nil]
theorem loL_mem {L : List Sn} {q : Int} {x : Int} : x ∈ loL L q L.length ↔ ∃ s ∈ L, q ≤ (cnt L s.lo : Nat) ∧ s.lo = x := by
  unfold loL
  rw [List.take_length]
  simp [and_assoc]
theorem hiL_mem {L : List Sn} {q : Int} {x : Int} : x ∈ hiL L q L.length ↔ ∃ s ∈ L, q ≤ (cnt L s.hi : Nat) ∧ s.hi = x := by
  unfold hiL
  rw [List.take_length]
  simp [and_assoc]
/-- no row's block is the other's. -/
def Ap (v v' : Value) : Prop := ∀ k, v.ownBlock = some k → v'.ownBlock ≠ some k
theorem Ap.nil : Ap (.slice none 0 0) (.slice none 0 0) := fun k h => by simp [Value.ownBlock] at h
theorem hull_found {L : List Sn} {g : Nat} {lo hi : Int} (hg : g < L.length) (EN : ∀ t, Enough L g t ↔ (L.length : Int) - (g : Int) ≤ (cnt L t : Nat)) (h1 : Lst (loL L ((L.length : Int) - (g : Int)) L.length) lo) (h2 : Gst (hiL L ((L.length : Int) - (g : Int)) L.length) hi) : Hull L g lo hi := by
  obtain ⟨a, b⟩ := h1
  obtain ⟨c, d⟩ := h2
  obtain ⟨s, hs, e1, rfl⟩ := loL_mem.1 a
  obtain ⟨s', hs', e2, rfl⟩ := hiL_mem.1 c
  exact hull_ends hg ((EN _).2 e1) ((EN _).2 e2) (fun x hx q => b _ (loL_mem.2 ⟨x, hx, (EN _).1 q, rfl⟩)) (fun x hx q => d _ (hiL_mem.2 ⟨x, hx, (EN _).1 q, rfl⟩))
theorem hull_lost {L : List Sn} {g : Nat} (hg : g < L.length) (EN : ∀ t, Enough L g t ↔ (L.length : Int) - (g : Int) ≤ (cnt L t : Nat)) (h : (loL L ((L.length : Int) - (g : Int)) L.length).length = 0) : ∀ t, ¬ Enough L g t :=
  none_of_lows hg fun s hs q => by
    have : s.lo ∈ loL L ((L.length : Int) - (g : Int)) L.length := loL_mem.2 ⟨s, hs, (EN _).1 q, rfl⟩
    rw [List.length_eq_zero_iff.1 h] at this
    cases this
theorem highs_too {L : List Sn} {g : Nat} (hg : g < L.length) (EN : ∀ t, Enough L g t ↔ (L.length : Int) - (g : Int) ≤ (cnt L t : Nat)) (h : 0 < (loL L ((L.length : Int) - (g : Int)) L.length).length) : 0 < (hiL L ((L.length : Int) - (g : Int)) L.length).length := by
  obtain ⟨x, hx⟩ := List.exists_mem_of_length_pos h
  obtain ⟨s, hs, e1, _⟩ := loL_mem.1 hx
  obtain ⟨s', hs', _, e2⟩ := high_of hg ((EN _).2 e1)
  exact List.length_pos_of_mem (hiL_mem.2 ⟨s', hs', (EN _).1 e2, rfl⟩)
theorem sps_at {L : List Cd} {k : Nat} {x : Cd} (h : L[k]? = some x) : (sps L)[k]? = some ⟨x.off - x.dist, x.off + x.dist⟩ := by
  unfold sps
  rw [List.getElem?_map, h]
  rfl
/-- what agreed answers. -/
def AgP (L : List Cd) (g : Nat) (e : Ending) : Prop :=
  (∃ lo hi, e = .returned (.tuple #[.agg #[.int .i64 lo, .int .i64 hi], .bool true]) ∧ Hull (sps L) g lo hi) ∨ (e = .returned (.tuple #[.agg #[.int .i64 0, .int .i64 0], .bool false]) ∧ ∀ t, ¬ Enough (sps L) g t)
set_option maxRecDepth 100000 in
set_option maxHeartbeats 8000000 in
theorem agreed_c {w : World} {v : Value} {L : List Cd} (h : Cs w v L) (ok : okL L) (g : Nat) (hg : g < L.length) :
    Calls Try.prog 17 #[v, .int .i64 ((L.length : Int) - (g : Int))] w fun e w' => AgP L g e ∧ Below w.heap.size w w' := by
  have HS := Lib.hid h
  have OK := Lib.hid ok
  have n32 := ok.2
  have CN := Lib.hid (fun w' (b : Below w.heap.size w w') t => holders_c (h.below b) n32 ok.1 t)
  have B0 := Lib.hid (balloc (brefl w) (.cells #[.int .i64 0, .int .i64 0] 27))
  have N0 := Lib.hid (new2 w 0 0 27)
  have RZ : Hid (∀ W (x y : Int) (b : Bool), Blk W w.heap.size [.int .i64 x, .int .i64 y] → ∀ tmps : Array Value, tmps.getD 4 undef = .pointer (some ⟨w.heap.size, 0, none⟩) → tmps.getD 5 undef = .bool b → (results Try.f17 tmps).run Try.prog W = .ok (.tuple #[.agg #[.int .i64 x, .int .i64 y], .bool b]) W) := Lib.hid fun W x y b hb tmps h1 h2 =>
    results_cell_slot rfl tmps W w.heap.size [.int .i64 x, .int .i64 y] _ _ h1 h2 hb.range Try.underlying27 rfl (by exact info_span)
  obtain ⟨a, cap, rfl, c1, c2, _⟩ := h
  obtain ⟨m, hm⟩ : ∃ m, L.length = m := ⟨_, rfl⟩
  have HM := Lib.hid hm
  have gl : Hid (g < (sps L).length) := Lib.hid (by rw [sps_len]; exact hg)
  have EN : Hid (∀ t, Enough (sps L) g t ↔ ((sps L).length : Int) - (g : Int) ≤ (cnt (sps L) t : Nat)) := Lib.hid fun t => by unfold Enough; omega
  have LO := Lib.hid (hull_lost gl.out EN.out)
  have HI := Lib.hid (highs_too gl.out EN.out)
  have FO := Lib.hid (fun lo hi => hull_found (lo := lo) (hi := hi) gl.out EN.out)
  rw [sps_len, hm] at LO HI FO
  have l32 := loL_len (sps L) ((m : Int) - (g : Int)) m
  have h32 := hiL_len (sps L) ((m : Int) - (g : Int)) m
  rw [hm] at HS CN c1 n32 hg ⊢
  obtain ⟨q, hq⟩ : ∃ q, (m : Int) - (g : Int) = q := ⟨_, rfl⟩
  rw [hq] at LO HI FO l32 h32 ⊢
  have m0 : (0 : Int) ≤ (m : Int) := by omega
  have m1 : (m : Int) ≤ 32 := by omega
  have m2 : (m : Int) ≤ (cap : Int) := by omega
  have m3 : (cap : Int) ≤ 9223372036854775807 := by omega
  clear hm hq ok gl EN
  go_enter Try.func17, Try.ntmps17
  go_wp2_with fail
  go_loopw [6, 7, 13] (fun lv hv iv wr => ∃ k : Nat, k ≤ m ∧ iv = .int .i64 (k : Nat) ∧ OwnT wr (w.heap.size + 1) lv (loL (sps L) q k) ∧ OwnT wr (w.heap.size + 1) hv (hiL (sps L) q k) ∧ Ap lv hv ∧ Blk wr w.heap.size [.int .i64 0, .int .i64 0] ∧ Below w.heap.size w wr) (fun _ _ iv _ => m - (intOf iv).toNat)
  case atStart => exact ⟨0, by omega, rfl, OwnT.nil _ _, OwnT.nil _ _, Ap.nil, N0.out, B0.out⟩
  case round =>
    obtain ⟨k, hk, rfl, hlo, hhi, hap, hn0, hb⟩ := hrel
    rename World => wr
    have HL := Lib.hid hlo
    have HH := Lib.hid hhi
    have HA := Lib.hid hap
    have HB := Lib.hid hb
    have HN := Lib.hid hn0
    clear hlo hhi hap hb hn0 N0 B0
    by_cases c : k < m
    · have e1 : decide ((k : Int) < (m : Int)) = true := decide_eq_true (by omega)
      have e2 : decide (k < m) = true := decide_eq_true c
      have k1 : (k : Int) < (m : Int) := by omega
      have k0 : (0 : Int) ≤ (k : Int) := by omega
      have wk : IntKind.i64.wrap ((k : Int) + 1) = (k : Int) + 1 := wrap_in (by omega) (by omega)
      obtain ⟨x, hx⟩ : ∃ x, L[k]? = some x := ⟨_, List.getElem?_eq_getElem (by rw [HM.out]; exact c)⟩
      have ll := loL_len (sps L) q k
      have lh := hiL_len (sps L) q k
      have SP := Lib.hid (fun w => spanOf_c x w (OK.out.1 x (List.mem_of_getElem? hx)))
      obtain ⟨b, off, rfl, y0, y1, y2, y3⟩ := (HS.out.below HB.out).at hx
      have LY := Lib.hid (loL_yes (q := q) (sps_at hx))
      have LN := Lib.hid (loL_no (q := q) (sps_at hx))
      have HY := Lib.hid (hiL_yes (q := q) (sps_at hx))
      have HNO := Lib.hid (hiL_no (q := q) (sps_at hx))
      clear hx
      obtain ⟨xo, xd, xj, xs⟩ := x
      obtain ⟨xl, hxl⟩ : ∃ z, xo - xd = z := ⟨_, rfl⟩
      obtain ⟨xh, hxh⟩ : ∃ z, xo + xd = z := ⟨_, rfl⟩
      simp only [hxl, hxh] at y0 y1 y2 y3 SP LY LN HY HNO
      clear hxl hxh
      replace SP : Hid (∀ w, Calls Try.prog 36 #[.agg #[.int .i64 xo, .int .i64 xd, .int .i64 xj, .int .i64 xs]] w fun e w' => e = .returned (.agg #[.int .i64 xl, .int .i64 xh]) ∧ Below w.heap.size w w') := SP
      have C0 := Lib.hid (fun w' b' => CN.out w' b' xl)
      have C1 := Lib.hid (fun w' b' => CN.out w' b' xh)
      generalize cnt (sps L) xl = n0 at *
      generalize cnt (sps L) xh = n1 at *
      have NA := Lib.hid (new4 wr xo xd xj xs 44)
      have BA := Lib.hid (balloc HB.out (.cells #[.int .i64 xo, .int .i64 xd, .int .i64 xj, .int .i64 xs] 44))
      have NC := Lib.hid (HN.out.below (balloc (brefl wr) (.cells #[.int .i64 xo, .int .i64 xd, .int .i64 xj, .int .i64 xs] 44)))
      have LA := Lib.hid (HL.out.below (balloc (brefl wr) (.cells #[.int .i64 xo, .int .i64 xd, .int .i64 xj, .int .i64 xs] 44)))
      have HHA := Lib.hid (HH.out.below (balloc (brefl wr) (.cells #[.int .i64 xo, .int .i64 xd, .int .i64 xj, .int .i64 xs] 44)))
      obtain ⟨la, lc, elv⟩ := HL.out.form
      obtain ⟨ha, hc, ehv⟩ := HH.out.form
      subst elv
      subst ehv
      go_upto_region 5 with fail
      generalize wr.alloc (.cells #[.int .i64 xo, .int .i64 xd, .int .i64 xj, .int .i64 xs] 44) = wa at *
      obtain ⟨z0, z1, z2, z3⟩ := blk4 NA.out (brefl wa)
      go_wp2_with fail
      refine (SP.out _).mono ?_
      rintro e w3 ⟨rfl, hb⟩
      have hb2 := balloc hb (.cells #[.int .i64 xl, .int .i64 xh] 27)
      have BB := Lib.hid (bstep BA.out hb2)
      have NB := Lib.hid (NC.out.below hb2)
      have LB := Lib.hid (LA.out.below hb2)
      have HHB := Lib.hid (HHA.out.below hb2)
      have NX := Lib.hid (new2 w3 xl xh 27)
      obtain ⟨nb, hnb⟩ : ∃ b, w3.heap.size = b := ⟨_, rfl⟩
      have FR : Hid (∀ z l, OwnT wa (w.heap.size + 1) z l → ∀ j, z.ownBlock = some j → j ≠ nb) := Lib.hid fun z l o j hj => by have := o.block j hj; have := hb.size; omega
      have FL := Lib.hid (FR.out _ _ LA.out)
      have FH := Lib.hid (FR.out _ _ HHA.out)
      rw [hnb] at NX
      have wnb : Hid (w.heap.size < nb) := Lib.hid (by have := NC.out.1; have := hb.size; omega)
      clear hb hb2 y0 y1 y2 y3 z0 z1 z2 z3 SP HL HH HB HN NA BA NC LA HHA FR
      go_upto_region 6 with fail
      try rw [hnb]
      clear hnb
      generalize w3.alloc (.cells #[.int .i64 xl, .int .i64 xh] 27) = wb at *
      obtain ⟨z0, z1⟩ := blk2 NX.out (brefl wb)
      go_wp2_with fail
      refine (C0.out _ BB.out).mono ?_
      rintro e w4 ⟨rfl, hh⟩
      have B3 := Lib.hid (bstep BB.out hh)
      have N3 := Lib.hid (NX.out.below hh)
      have Z3 := Lib.hid (NB.out.below hh)
      have L3 := Lib.hid (LB.out.below hh)
      have H3 := Lib.hid (HHB.out.below hh)
      clear hh z0 z1 BB NX NB LB HHB C0
      by_cases c0 : q ≤ (n0 : Int)
      · have d0 := decide_eq_true c0
        obtain ⟨lv, w5, r4, o4, b4, k4, s4⟩ := appT L3.out xl Z3.out.1 (by omega) 66
        rw [← LY.out c0] at o4
        have R4 := Lib.hid r4
        have O4 := Lib.hid o4
        have B4 : Hid (Below w.heap.size w w5) := Lib.hid (B3.out.trans (b4.mono (Nat.le_succ _)))
        have Z4 := Lib.hid (Z3.out.belowB (Nat.lt_succ_self _) b4)
        have H4 := Lib.hid (H3.out.keep (w' := w5) fun j hj ho => k4 j hj (fun e => HA.out j e ho))
        have N4 : Hid (Blk w5 nb [.int .i64 xl, .int .i64 xh]) := Lib.hid (blk_keep N3.out (k4 nb N3.out.1 (fun e => FL.out nb e rfl)) b4.size)
        have A4 : Hid (Ap lv (.slice ha (hiL (sps L) q k).length hc)) := Lib.hid fun j hj ho => by
          rcases s4 j hj with e | e
          · exact HA.out j e ho
          · have := (H3.out.block j ho).2
            omega
        obtain ⟨z0, z1⟩ := blk2 N3.out (brefl w4)
        clear r4 o4 b4 k4 s4 HA L3 H3 N3 B3 FL Z3
        go_upto_region 8 with (first | (at_builtin; refine wpList_append_eqL rfl _ _ 66 rfl _ _ lv w5 rfl rfl R4.out ?_))
        clear R4 z0 z1
        obtain ⟨z0, z1⟩ := blk2 N4.out (brefl w5)
        go_wp2_with fail
        refine (C1.out _ B4.out).mono ?_
        rintro e w6 ⟨rfl, hh⟩
        have B5 := Lib.hid (bstep B4.out hh)
        have N5 := Lib.hid (N4.out.below hh)
        have Z5 := Lib.hid (Z4.out.below hh)
        have L5 := Lib.hid (O4.out.below hh)
        have H5 := Lib.hid (H4.out.below hh)
        clear hh z0 z1 B4 N4 O4 H4 Z4 C1
        by_cases c1' : q ≤ (n1 : Int)
        · have d1 := decide_eq_true c1'
          obtain ⟨hv, w7, r6, o6, b6, k6, s6⟩ := appT H5.out xh Z5.out.1 (by omega) 66
          rw [← HY.out c1'] at o6
          have R6 := Lib.hid r6
          have O6 := Lib.hid o6
          have B6 : Hid (Below w.heap.size w w7) := Lib.hid (B5.out.trans (b6.mono (Nat.le_succ _)))
          have Z6 := Lib.hid (Z5.out.belowB (Nat.lt_succ_self _) b6)
          have L6 := Lib.hid (L5.out.keep (w' := w7) fun j hj ho => k6 j hj (fun e => A4.out j ho e))
          have A6 : Hid (Ap lv hv) := Lib.hid fun j hj ho => by
            rcases s6 j ho with e | e
            · exact A4.out j hj e
            · have := (L5.out.block j hj).2
              omega
          obtain ⟨z0, z1⟩ := blk2 N5.out (brefl w6)
          clear r6 o6 b6 k6 s6 A4 L5 H5 N5 B5 Z5
          go_wp2_with (first | (at_builtin; refine wpList_append_eqL rfl _ _ 66 rfl _ _ hv w7 rfl rfl R6.out ?_))
          exact ⟨⟨k + 1, by omega, by go_num, L6.out, O6.out, A6.out, Z6.out, B6.out⟩, by simp [intOf]; omega⟩
        · have d1 := decide_eq_false c1'
          have O6 : Hid (OwnT w6 (w.heap.size + 1) (.slice ha (hiL (sps L) q k).length hc) (hiL (sps L) q (k + 1))) := Lib.hid (by rw [HNO.out (Int.not_le.1 c1')]; exact H5.out)
          go_wp2_with fail
          exact ⟨⟨k + 1, by omega, by go_num, L5.out, O6.out, A4.out, Z5.out, B5.out⟩, by simp [intOf]; omega⟩
      · have d0 := decide_eq_false c0
        have O4 : Hid (OwnT w4 (w.heap.size + 1) (.slice la (loL (sps L) q k).length lc) (loL (sps L) q (k + 1))) := Lib.hid (by rw [LN.out (Int.not_le.1 c0)]; exact L3.out)
        have B4 := B3
        have Z4 := Z3
        have H4 := H3
        have N4 := N3
        have A4 := HA
        go_upto_region 8 with fail
        clear HA L3 H3 N3 B3 FL Z3
        obtain ⟨z0, z1⟩ := blk2 N4.out (brefl w4)
        go_wp2_with fail
        refine (C1.out _ B4.out).mono ?_
        rintro e w6 ⟨rfl, hh⟩
        have B5 := Lib.hid (bstep B4.out hh)
        have N5 := Lib.hid (N4.out.below hh)
        have Z5 := Lib.hid (Z4.out.below hh)
        have L5 := Lib.hid (O4.out.below hh)
        have H5 := Lib.hid (H4.out.below hh)
        clear hh z0 z1 B4 N4 O4 H4 Z4 C1
        by_cases c1' : q ≤ (n1 : Int)
        · have d1 := decide_eq_true c1'
          obtain ⟨hv, w7, r6, o6, b6, k6, s6⟩ := appT H5.out xh Z5.out.1 (by omega) 66
          rw [← HY.out c1'] at o6
          have R6 := Lib.hid r6
          have O6 := Lib.hid o6
          have B6 : Hid (Below w.heap.size w w7) := Lib.hid (B5.out.trans (b6.mono (Nat.le_succ _)))
          have Z6 := Lib.hid (Z5.out.belowB (Nat.lt_succ_self _) b6)
          have L6 := Lib.hid (L5.out.keep (w' := w7) fun j hj ho => k6 j hj (fun e => A4.out j ho e))
          have A6 : Hid (Ap (.slice la (loL (sps L) q k).length lc) hv) := Lib.hid fun j hj ho => by
            rcases s6 j ho with e | e
            · exact A4.out j hj e
            · have := (L5.out.block j hj).2
              omega
          obtain ⟨z0, z1⟩ := blk2 N5.out (brefl w6)
          clear r6 o6 b6 k6 s6 A4 L5 H5 N5 B5 Z5
          go_wp2_with (first | (at_builtin; refine wpList_append_eqL rfl _ _ 66 rfl _ _ hv w7 rfl rfl R6.out ?_))
          exact ⟨⟨k + 1, by omega, by go_num, L6.out, O6.out, A6.out, Z6.out, B6.out⟩, by simp [intOf]; omega⟩
        · have d1 := decide_eq_false c1'
          have O6 : Hid (OwnT w6 (w.heap.size + 1) (.slice ha (hiL (sps L) q k).length hc) (hiL (sps L) q (k + 1))) := Lib.hid (by rw [HNO.out (Int.not_le.1 c1')]; exact H5.out)
          go_wp2_with fail
          exact ⟨⟨k + 1, by omega, by go_num, L5.out, O6.out, A4.out, Z5.out, B5.out⟩, by simp [intOf]; omega⟩
    · have e1 : decide ((k : Int) < (m : Int)) = false := decide_eq_false (by omega)
      have e2 : decide (k < m) = false := decide_eq_false c
      obtain rfl : k = m := by omega
      have IL := Lib.hid HL.out.is
      have IH := Lib.hid HH.out.is
      clear HL HH HA
      generalize loL (sps L) q k = LL at *
      generalize hiL (sps L) q k = GH at *
      obtain ⟨la, lc, rfl, p1, p2, _⟩ := IL.out
      obtain ⟨ha, hc, rfl, q1, q2, _⟩ := IH.out
      obtain ⟨ln, hln⟩ : ∃ n, LL.length = n := ⟨_, rfl⟩
      obtain ⟨hn', hhn⟩ : ∃ n, GH.length = n := ⟨_, rfl⟩
      rw [hln] at IL p1 l32 LO HI ⊢
      rw [hhn] at IH q1 h32 HI ⊢
      by_cases z : ln = 0
      · have AE : Hid (∀ t, ¬ Enough (sps L) g t) := Lib.hid (LO.out z)
        have dz : ((ln : Int) == 0) = true := by rw [beq_iff_eq]; omega
        have S2 := Lib.hid (blk_set (blk_set HN.out 0 (.int .i64 0)) 1 (.int .i64 0))
        have B3 := Lib.hid (below_set (below_set HB.out (Nat.le_refl w.heap.size) 0 (.int .i64 0)) (Nat.le_refl w.heap.size) 1 (.int .i64 0))
        obtain ⟨z0, z1⟩ := blk2 HN.out (brefl _)
        have f0 := (HN.out.2 0 _ rfl).2
        have f1 := (HN.out.2 1 _ rfl).2
        go_wp2_with fail
        exact bodyPost_ret (v := .tuple #[.agg #[.int .i64 0, .int .i64 0], .bool false]) (RZ.out _ 0 0 false S2.out _ rfl rfl) rfl ⟨.inr ⟨rfl, AE.out⟩, B3.out⟩
      · have dz : ((ln : Int) == 0) = false := by rw [beq_eq_false_iff_ne]; omega
        have MI := Lib.hid (Min_c IL.out (by omega))
        have MA := Lib.hid (Max_c IH.out (by have := HI.out (by omega); omega))
        obtain ⟨z0, z1⟩ := blk2 HN.out (brefl _)
        have f0 := (HN.out.2 0 _ rfl).2
        have f1 := (HN.out.2 1 _ rfl).2
        try rw [hln] at MI
        try rw [hhn] at MA
        clear IL IH hln hhn
        go_wp2_with fail
        refine MI.out.mono ?_
        rintro e w3 ⟨⟨lo, rfl, kl⟩, rfl⟩
        have KL := Lib.hid kl
        clear kl MI
        go_wp2_with fail
        refine MA.out.mono ?_
        rintro e w3 ⟨⟨hi, rfl, kh⟩, rfl⟩
        have AE := Lib.hid (FO.out lo hi KL.out kh)
        clear kh MA KL
        rename World => wq
        have S2 := Lib.hid (blk_set (blk_set HN.out 0 (.int .i64 lo)) 1 (.int .i64 hi))
        have B3 := Lib.hid (below_set (below_set HB.out (Nat.le_refl w.heap.size) 0 (.int .i64 lo)) (Nat.le_refl w.heap.size) 1 (.int .i64 hi))
        go_wp2_with fail
        exact bodyPost_ret (v := .tuple #[.agg #[.int .i64 lo, .int .i64 hi], .bool true]) (RZ.out _ lo hi true S2.out _ rfl rfl) rfl ⟨.inl ⟨lo, hi, rfl, AE.out⟩, B3.out⟩
end Go.Proofs.Ytkmbeogmgehnfaa.Vo
