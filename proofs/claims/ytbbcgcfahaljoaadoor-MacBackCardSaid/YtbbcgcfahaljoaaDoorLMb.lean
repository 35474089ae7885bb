/-
  MacBack: what a key made is taken with that key, and not with a byte turned, a byte less or a byte more. The law returns true for every input, and the input reads as it did.
  Conditions: the tables of package hash that the row lists read as the program's text lays them (the card ties them).
-/
import Derived.Test.YtbbcgcfahaljoaaDoorRows
import Derived.Test.YtbbcgcfahaljoaaDoorCards
import Derived.Test.YtbbcgcfahaljoaaDoorTie
import Derived.Test.YtbbcgcfahaljoaaDoorMcN
import Derived.Test.YtbbcgcfahaljoaaDoorHsY
import Derived.SevenTiedAt
namespace Go.Proofs.YtbbcgcfahaljoaaDoor.macBack
open Go.ChangeShapes Go.WideShapes Go.ChangeAt Go.RowKit Go.Joins Hs Mc
set_option linter.unusedVariables false
set_option linter.unusedSimpArgs false

theorem rem_bound (n : Int) (m : Nat) (h : 0 < m) : 0 ≤ (n.tmod m + m).tmod m ∧ (n.tmod m + m).tmod m < m ∧ 0 ≤ n.tmod m + m ∧ n.tmod m + m < 2 * m ∧ -(m : Int) < n.tmod m ∧ n.tmod m < m := by
  have h1 := Int.tmod_lt_of_pos n (show (0 : Int) < (m : Int) by omega)
  have h2 := Int.lt_tmod_of_pos n (show (0 : Int) < (m : Int) by omega)
  have h3 := Int.tmod_lt_of_pos (n.tmod m + m) (show (0 : Int) < (m : Int) by omega)
  have h4 := Int.tmod_nonneg (m : Int) (show 0 ≤ n.tmod m + m by omega)
  omega
theorem turn_byte (x : Nat) (h : x < 256) : x ^^^ 64 < 256 ∧ x ^^^ 64 ≠ x := by
  refine ⟨Nat.xor_lt_two_pow (n := 8) h (by omega), fun e => ?_⟩
  have : x ^^^ 64 ^^^ x = 0 := by rw [e, Nat.xor_self]
  rw [Nat.xor_comm (x ^^^ 64) x, ← Nat.xor_assoc, Nat.xor_self, Nat.zero_xor] at this
  omega

theorem vE_at {n : Nat} {K : Nat → KD} {i : Nat} (h : chk n K = 0) (hi : i < n) (g : Nat → Nat) (m : Nat) (D : List Nat) : vE n K (K i).id g m D = if mL (K i) g m = D then 0 else 31 := by
  obtain ⟨_, _, h3⟩ := chk_zero h
  have hf : fi K (K i).id n = i := fi_hit (K := K) (k := i) rfl (fun j hj e => h3 i hi (Nat.lt_of_le_of_lt (fi_least e hj) hj)) n hi
  have e0 : fE n K (K i).id = 0 := by rw [fE, if_pos h, hf, if_pos hi]
  rw [vE, if_pos e0, fK, if_pos e0, hf]
theorem vE_none {n : Nat} {K : Nat → KD} (h : chk n K = 0) (g : Nat → Nat) (m : Nat) (D : List Nat) : vE n K 0 g m D = 30 := by
  obtain ⟨_, h2, _⟩ := chk_zero h
  have hf : fi K 0 n = n := fi_miss n (fun j hj e => by have := h2 j hj; simp [isK, e] at this)
  have e0 : fE n K 0 = 30 := by rw [fE, if_pos h, hf, if_neg (Nat.lt_irrefl _)]
  rw [vE, if_neg (by rw [e0]; omega), e0]

set_option maxRecDepth 100000 in
set_option maxHeartbeats 8000000 in
theorem walk (v : Value) (n : Nat) (K : Nat → KD) (x : Int) (vm : Value) (m : Nat) (g : Nat → Nat) (y : Int) (w : World) (G : Gl w) (R : Ring w v n K) (hx : (Lit.int .i64 x).wf = true) (M : By.Arg w vm m g) (hy : (Lit.int .i64 y).wf = true) :
    Calls Tryd.prog 6 #[v, .int .i64 x, vm, .int .i64 y] w fun e w' => e = .returned (.bool true) ∧ Below w.heap.size w w' := by
  have HG := Lib.hid G
  have RG := Lib.hid R
  have SM := Lib.hid (arg_sb M)
  have LE := arg_le M
  obtain ⟨av, cv, ev, h1, h2, h3, h4⟩ := R
  obtain ⟨am, cm, em⟩ := SM.out.form
  have H3 := Lib.hid h3
  have H4 := Lib.hid h4
  have x1 : -9223372036854775808 ≤ x ∧ x ≤ 9223372036854775807 := by simp [Lit.wf, IntKind.min, IntKind.max, IntKind.bits, IntKind.signed] at hx; omega
  have y1 : -9223372036854775808 ≤ y ∧ y ≤ 9223372036854775807 := by simp [Lit.wf, IntKind.min, IntKind.max, IntKind.bits, IntKind.signed] at hy; omega
  clear G M h3 h4 hx hy
  subst ev em
  have q1 : (n : Int) ≤ (cv : Int) := by omega
  have q2 : (cv : Int) ≤ 9223372036854775807 := by omega
  have HV := Lib.hid (fun z (k : Below w.heap.size w z) (x : Int) (vd : Value) (q : Nat) (h : Nat → Nat) (s : Sb z vd q h) => Verify_c (HG.out.below k) (RG.out.below k) x (SM.out.below k) LE s)
  go_enter Tryd.func6, Tryd.ntmps6
  go_wp2_with fail
  refine (awake6_c _ HG.out).mono ?_
  rintro e w1 ⟨rfl, hb⟩
  have B1 := Lib.hid hb
  clear hb
  go_wp2_with fail
  refine (Check_c (RG.out.below B1.out)).mono ?_
  rintro e w2 ⟨rfl, hb⟩
  have B2 := Lib.hid (bstep B1.out hb)
  clear hb
  by_cases c : chk n K = 0
  case neg =>
    rcases (chk_cases n K).resolve_left c with h | h
    · rw [h]
      go_wp2_with fail
      go_ret
      exact ⟨rfl, B2.out⟩
    · rw [h]
      go_wp2_with fail
      go_ret
      exact ⟨rfl, B2.out⟩
  rw [c]
  by_cases c0 : n = 0
  · subst c0
    go_wp2_with fail
    go_ret
    exact ⟨rfl, B2.out⟩
  have e0 : ((n : Int) == 0) = false := by simp; omega
  obtain ⟨h64, hall, _⟩ := chk_zero c
  have RB := rem_bound x n (by omega)
  obtain ⟨i, hi⟩ : ∃ i : Nat, (x.tmod n + n).tmod n = (i : Int) := ⟨((x.tmod n + n).tmod n).toNat, by omega⟩
  have hin : i < n := by omega
  have HVE := Lib.hid (vE_at c hin g m)
  have HV0 := Lib.hid (vE_none c g m)
  have HK := Lib.hid (hall i hin)
  obtain ⟨b, off, rfl, hbl, hK⟩ := H3.out (by omega)
  obtain ⟨g0, g1, g2⟩ := (hK i hin).below hbl B2.out
  have OK := Lib.hid ((H4.out i hin).2.2)
  clear hK hall c
  generalize K i = k at *
  obtain ⟨id, kind, vk, l, f⟩ := k
  obtain ⟨a', c', hv⟩ := OK.out.form
  obtain rfl : vk = .slice a' l c' := hv
  simp only at g0 g1 g2
  obtain ⟨r0, r1, r2, r3, r4, r5⟩ := RB
  rw [hi] at r0 r1
  generalize hr : x.tmod n = r at *
  have k1 : (i : Int) < (n : Int) := by omega
  have k0 : (0 : Int) ≤ (i : Int) := by omega
  have k64 : (n : Int) ≤ 64 := by omega
  have MT : Hid (∀ z, Below w.heap.size w z → Calls Tryd.prog 14 #[.agg #[.int .u32 id, .int .i64 kind, .slice a' l c'], .slice am m cm] z fun e w' => ∃ v', e = .returned (.tuple #[v', .int .i64 0]) ∧ Out w' z.heap.size v' (mL ⟨id, kind, .slice a' l c', l, f⟩ g m) ∧ Below z.heap.size z w') :=
    Lib.hid (fun z hz => by
      have := Make_c (k := ⟨id, kind, .slice a' l c', l, f⟩) (HG.out.below hz) (OK.out.below hz) (SM.out.below hz) LE
      rwa [mE, if_pos HK.out] at this)
  have LN := mL_len HK.out g m
  have D2 := Lib.hid (balloc (brefl w2) (.cells #[.int .u32 id, .int .i64 kind, .slice a' l c'] 28))
  have N2 := Lib.hid (Kc.new w2 id kind (.slice a' l c') 28)
  generalize mL ⟨id, kind, .slice a' l c', l, f⟩ g m = L at *
  simp only at HVE
  go_wp2_with fail
  generalize w2.alloc (.cells #[.int .u32 id, .int .i64 kind, .slice a' l c'] 28) = w3 at *
  have B3 := Lib.hid (bstep B2.out D2.out)
  have hw23 : w2.heap.size < w3.heap.size := N2.out.1
  refine (MT.out _ B3.out).mono ?_
  rintro e w4 ⟨v4, rfl, o4, hb⟩
  have B4 := Lib.hid (bstep B3.out hb)
  have N4 := Lib.hid (N2.out.below hb)
  have OD := Lib.hid o4
  clear hb o4 g0 g1 g2 N2 D2
  obtain ⟨gd, od, cd, ed, d1, d2, d3, d4, d5⟩ : ∃ g o cap, v4 = .slice (some ⟨g, o, none⟩) L.length cap ∧ w3.heap.size ≤ g ∧ L.length ≤ cap ∧ cap ≤ 9223372036854775807 ∧ (∀ x ∈ L, x < 256) ∧ Wr w4 g o L.length (fun i => L.getD i 0) := by
    rcases OD.out with ⟨_, h0⟩ | h
    · rw [h0] at LN; simp at LN
    · exact h
  subst ed
  have LB := Lib.hid d4
  have GL : Hid (∀ i, L.getD i 0 < 256) := Lib.hid (getD_byte d4)
  have BL : Hid (bl (fun i => L.getD i 0) L.length = L) := Lib.hid (bl_getD L)
  have SD := Lib.hid OD.out.sb
  have V1 := Lib.hid (HV.out w4 B4.out id _ _ _ SD.out)
  rw [BL.out, HVE.out L, if_pos rfl] at V1
  clear d4 d5
  generalize hN : L.length = N at *
  obtain ⟨n0, n1, n2, n3, _, _, _⟩ := N4.out
  have z1 : (N : Int) ≤ (cd : Int) := by omega
  have z2 : (cd : Int) ≤ 9223372036854775807 := by omega
  have z3 : 0 < N ∧ N ≤ 20 := by omega
  have z4 : (N : Int) = 16 ∨ (N : Int) = 20 := by omega
  have LN' := Lib.hid LN
  clear LN
  go_wp2_with fail
  refine V1.out.mono ?_
  rintro e w5 ⟨rfl, hb⟩
  have B5 := Lib.hid (bstep B4.out hb)
  have B45 := Lib.hid hb
  have N5 := Lib.hid (N4.out.below hb)
  clear hb V1 n0 n1 n2 n3 N4
  obtain ⟨n0, n1, n2, n3, _, _, _⟩ := N5.out
  rcases z4 with f16 | f16
  all_goals
    go_upto_region 9 with fail
    clear f16
    have SD5 := Lib.hid (SD.out.below B45.out)
    obtain ⟨va, wa, ra, oa, ba, sa, _⟩ := SD5.out.app (balloc (brefl w5) (.cells #[] 5)) (own0 w5 w5.heap.size (Nat.le_refl _)) (by simp) (by simp; omega) 26
    rw [List.nil_append, BL.out] at oa
    obtain ⟨vb, wb, rb, ob, bb, sb⟩ := app1 oa 0 (by have := sa; simp at this; omega) (by omega) 26
    have RA := Lib.hid ra
    have RB := Lib.hid rb
    have B5b := Lib.hid ((balloc (brefl w5) (.cells #[] 5)).trans (ba.trans bb))
    have LM : Hid (∀ x ∈ L ++ [0], x < 256) := Lib.hid (fun x hx => (by rcases List.mem_append.1 hx with h | h; exact LB.out x h; simp at h; omega))
    have MO := Lib.hid (own_out ob LM.out)
    have Bb := Lib.hid (bstep B5.out B5b.out)
    obtain ⟨am', cm', em'⟩ := own_form ob
    have hL1 : (L ++ [0] : List Nat).length = N + 1 := by simp [hN]
    rw [hL1] at em'
    clear hL1
    subst em'
    clear ra rb oa ba bb sa sb ob
    have SDb := Lib.hid (SD5.out.below B5b.out)
    have SL : Hid (Sb wb (.slice (some ⟨gd, od, none⟩) (N - 1) cd) (N - 1) (fun i => L.getD i 0)) := Lib.hid (by
      obtain ⟨_, _, e, u1, u2, u3, u4, u5⟩ := SDb.out
      cases e
      obtain ⟨_, _, e2, u6⟩ := u4 (by omega)
      cases e2
      exact ⟨_, cd, rfl, by omega, u2, u3, fun _ => ⟨gd, od, rfl, u6.1, u6.2.1, fun i hi => u6.2.2 i (by omega)⟩, fun h => by cases h⟩)
    obtain ⟨vl, wl, rl, ol, bl', sl', _⟩ := SL.out.app (balloc (brefl wb) (.cells #[] 5)) (own0 wb wb.heap.size (Nat.le_refl _)) (by simp) (by simp; omega) 26
    rw [List.nil_append] at ol
    have RL := Lib.hid rl
    have Bbl := Lib.hid ((balloc (brefl wb) (.cells #[] 5)).trans bl')
    have LO := Lib.hid (own_out ol (bl_byte fun i _ => GL.out i))
    have Bl := Lib.hid (bstep Bb.out Bbl.out)
    obtain ⟨al', cl', el'⟩ := own_form ol
    rw [bl_len] at el'
    subst el'
    clear rl ol bl' sl'
    have SDl := Lib.hid (SDb.out.below Bbl.out)
    obtain ⟨vt, wt, rt, ot, bt, st, _⟩ := SDl.out.app (balloc (brefl wl) (.cells #[] 5)) (own0 wl wl.heap.size (Nat.le_refl _)) (by simp) (by simp; omega) 26
    rw [List.nil_append, BL.out] at ot
    have RT := Lib.hid rt
    have Blt := Lib.hid ((balloc (brefl wl) (.cells #[] 5)).trans bt)
    obtain ⟨gt, ot', ct, et, t1, t2, t3, t4, t5⟩ : ∃ g o cap, vt = .slice (some ⟨g, o, none⟩) L.length cap ∧ wl.heap.size ≤ g ∧ L.length ≤ cap ∧ cap ≤ 9223372036854775807 ∧ (∀ x ∈ L, x < 256) ∧ Wr wt g o L.length (fun i => L.getD i 0) := by
      rcases own_out ot LB.out with ⟨_, h0⟩ | h
      · rw [h0] at hN; simp at hN; omega
      · exact h
    subst et
    have TW := Lib.hid t5
    rw [hN] at TW t2
    rw [hN] at RT
    have Bt := Lib.hid (bstep Bl.out Blt.out)
    clear rt ot bt st t4 t5
    have RBy := rem_bound y N (by omega)
    obtain ⟨j, hj⟩ : ∃ j : Nat, (y.tmod N + N).tmod N = (j : Int) := ⟨((y.tmod N + N).tmod N).toNat, by omega⟩
    obtain ⟨ry0, ry1, ry2, ry3, ry4, ry5⟩ := RBy
    rw [hj] at ry0 ry1
    have hjN : j < N := by omega
    have tb := turn_byte (L.getD j 0) (GL.out j)
    obtain ⟨tc1', tc2⟩ := TW.out.2.2 j hjN
    have tc1 : wt.cell? ⟨gt, ot' + j, none⟩ = some (.int .u8 ((L.getD j 0 : Nat) : Int)) := tc1'
    clear tc1'
    have X64 : bits BinOp.xor IntKind.u8 ((L.getD j 0 : Nat) : Int) 64 = ((L.getD j 0 ^^^ 64 : Nat) : Int) := xor8 (L.getD j 0) 64 (GL.out j) (by omega)
    generalize hbj : L.getD j 0 = bj at *
    have HBJ := Lib.hid hbj
    clear hbj
    generalize hry : y.tmod N = ry at *
    have zN : (0 : Int) < (N : Int) := by omega
    have jz : (0 : Int) ≤ (j : Int) := by omega
    have t2' : (N : Int) ≤ (ct : Int) := by omega
    have t3' : (ct : Int) ≤ 9223372036854775807 := by omega
    have nN : (0 : Int) ≤ (N : Int) - 1 := by omega
    have nc : ((N - 1 : Nat) : Int) = (N : Int) - 1 := by omega
    have sw : w.heap.size ≤ wl.heap.size := Bl.out.size
    have Bz := Lib.hid (Bt.out.setCell (p := ⟨gt, ot' + j, none⟩) (by show w.heap.size ≤ gt; omega) (.int .u8 ((bj ^^^ 64 : Nat) : Int)))
    have Blz := Lib.hid (Blt.out.setCell (p := ⟨gt, ot' + j, none⟩) t1 (.int .u8 ((bj ^^^ 64 : Nat) : Int)))
    have TZ := Lib.hid (Ae.Ay.set (show Ae.Ay wt gt ot' N (fun i => L.getD i 0) from TW.out) j (bj ^^^ 64) hjN tb.1)
    have UL : ∀ i, Ae.up (fun i => L.getD i 0) j (bj ^^^ 64) i < 256 := fun i => by
      unfold Ae.up
      split
      · exact tb.1
      · exact GL.out i
    have STz : Hid (Sb (wt.setCell ⟨gt, ot' + j, none⟩ (.int .u8 ((bj ^^^ 64 : Nat) : Int))) (.slice (some ⟨gt, ot', none⟩) N ct) N (Ae.up (fun i => L.getD i 0) j (bj ^^^ 64))) := Lib.hid
      ⟨_, ct, rfl, t2, t3, UL, fun _ => ⟨gt, ot', rfl, ay_bs TZ.out UL⟩, fun h => by cases h⟩
    have NT : ¬ bl (Ae.up (fun i => L.getD i 0) j (bj ^^^ 64)) N = L := fun e => by
      have e2 : (bl (Ae.up (fun i => L.getD i 0) j (bj ^^^ 64)) N).getD j 0 = L.getD j 0 := by rw [e]
      rw [List.getD_eq_getElem?_getD, bl, List.getElem?_map, List.getElem?_range hjN] at e2
      simp only [Option.map_some, Option.getD_some, Ae.up, if_true] at e2
      rw [HBJ.out] at e2
      exact tb.2 e2
    have NL : ¬ bl (fun i => L.getD i 0) (N - 1) = L := fun e => by
      have e2 := congrArg List.length e
      rw [bl_len, hN] at e2
      omega
    have NM : ¬ L ++ [0] = L := fun e => by
      have e2 := congrArg List.length e
      simp at e2
    have tn : ((N : Int) - 1).toNat = N - 1 := by omega
    obtain ⟨wz, hwz⟩ : ∃ wz, wz = wt.setCell ⟨gt, ot' + j, none⟩ (.int .u8 ((bj ^^^ 64 : Nat) : Int)) := ⟨_, rfl⟩
    rw [← hwz] at Bz Blz TZ STz
    have Nz := Lib.hid (((N5.out.below B5b.out).below Bbl.out).below Blz.out)
    have SDz := Lib.hid (SDl.out.below Blz.out)
    have MOz := Lib.hid ((MO.out.below Bbl.out).below Blz.out).sb
    have LOz := Lib.hid (LO.out.below Blz.out).sb
    have WZ := Lib.hid hwz
    clear hwz
    have VM : Hid (∀ z, Below wz.heap.size wz z → Calls Tryd.prog 17 #[.slice (some ⟨b, off, none⟩) n cv, .int .u32 id, .slice am m cm, .slice am' (N + 1) cm'] z fun e w' => e = .returned (.int .i64 31) ∧ Below z.heap.size z w') := Lib.hid (fun z k => by
      have h := HV.out z (bstep Bz.out k) id _ _ _ (MOz.out.below k)
      rw [bl_getD, HVE.out, if_neg (fun e => NM e.symm)] at h
      exact h)
    have VL : Hid (∀ z, Below wz.heap.size wz z → Calls Tryd.prog 17 #[.slice (some ⟨b, off, none⟩) n cv, .int .u32 id, .slice am m cm, .slice al' (N - 1) cl'] z fun e w' => e = .returned (.int .i64 31) ∧ Below z.heap.size z w') := Lib.hid (fun z k => by
      have h := HV.out z (bstep Bz.out k) id _ _ _ (LOz.out.below k)
      rw [bl_getD, HVE.out, if_neg (fun e => NL e.symm)] at h
      exact h)
    have VT : Hid (∀ z, Below wz.heap.size wz z → Calls Tryd.prog 17 #[.slice (some ⟨b, off, none⟩) n cv, .int .u32 id, .slice am m cm, .slice (some ⟨gt, ot', none⟩) N ct] z fun e w' => e = .returned (.int .i64 31) ∧ Below z.heap.size z w') := Lib.hid (fun z k => by
      have h := HV.out z (bstep Bz.out k) id _ _ _ (STz.out.below k)
      rw [HVE.out, if_neg (fun e => NT e.symm)] at h
      exact h)
    have VZ : Hid (∀ z, Below wz.heap.size wz z → Calls Tryd.prog 17 #[.slice (some ⟨b, off, none⟩) n cv, .int .u32 0, .slice am m cm, .slice (some ⟨gd, od, none⟩) N cd] z fun e w' => e = .returned (.int .i64 30) ∧ Below z.heap.size z w') := Lib.hid (fun z k => by
      have h := HV.out z (bstep Bz.out k) 0 _ _ _ (SDz.out.below k)
      rw [HV0.out] at h
      exact h)
    have SF : Hid (∀ z, Below wz.heap.size wz z → Calls Tryd.prog 16 #[.slice (some ⟨gd, od, none⟩) N cd, .slice (some ⟨gt, ot', none⟩) N ct] z fun e w' => e = .returned (.bool false) ∧ Below z.heap.size z w') := Lib.hid (fun z k => by
      have h := Same_c (SDz.out.below k) (STz.out.below k)
      rw [BL.out, decide_eq_false (fun e => NT e.symm)] at h
      exact h)
    clear HV HVE HV0 HG RG SM H3 H4 HK OK MT OD LB GL BL SD NT NL NM SD5 SDb SL SDl LM MO LO TW TZ STz SDz MOz LOz hN HBJ UL tb
    go_upto_region 10 with (first | (at_builtin; refine wpList_append_eq2 rfl (.tmp 66) (.tmp 67) 26 26 rfl _ _ _ wa rfl rfl RA.out ?_) | (at_builtin; refine wpList_append_eq2 rfl (.tmp 68) (.tmp 69) 26 26 rfl _ _ _ wb rfl rfl RB.out ?_))
    clear RA RB
    go_upto_region 11 with (at_builtin; refine wpList_append_eq2 rfl (.tmp 71) (.tmp 76) 26 26 rfl _ _ _ wl rfl rfl RL.out ?_)
    clear RL
    go_upto_region 12 with (at_builtin; refine wpList_append_eq2 rfl (.tmp 78) (.tmp 79) 26 26 rfl _ _ _ wt rfl rfl RT.out ?_)
    clear RT
    go_upto_region 14 with fail
    rw [← WZ.out]
    clear WZ tc1 tc2 n0 n1 n2 n3 N5
    obtain ⟨n0, n1, n2, n3, _, _, _⟩ := Nz.out
    go_wp2_with fail
    refine (VM.out _ (brefl _)).mono ?_
    rintro e y1 ⟨rfl, hb1⟩
    have E1 := Lib.hid hb1
    have N1 := Lib.hid (Nz.out.below hb1)
    clear hb1 n0 n1 n2 n3 Nz
    obtain ⟨n0, n1, n2, n3, _, _, _⟩ := N1.out
    go_wp2_with fail
    refine (VL.out _ E1.out).mono ?_
    rintro e y2 ⟨rfl, hb1⟩
    have E2 := Lib.hid (bstep E1.out hb1)
    have N2 := Lib.hid (N1.out.below hb1)
    clear hb1 n0 n1 n2 n3 N1
    obtain ⟨n0, n1, n2, n3, _, _, _⟩ := N2.out
    go_wp2_with fail
    refine (VT.out _ E2.out).mono ?_
    rintro e y3 ⟨rfl, hb1⟩
    have E3 := Lib.hid (bstep E2.out hb1)
    clear hb1 n0 n1 n2 n3 N2
    go_wp2_with fail
    refine (VZ.out _ E3.out).mono ?_
    rintro e y4 ⟨rfl, hb1⟩
    have E4 := Lib.hid (bstep E3.out hb1)
    clear hb1
    go_wp2_with fail
    refine (SF.out _ E4.out).mono ?_
    rintro e y5 ⟨rfl, hb1⟩
    have E5 := Lib.hid (bstep E4.out hb1)
    clear hb1
    go_wp2_with fail
    go_ret
    exact ⟨rfl, bstep Bz.out E5.out⟩
set_option maxRecDepth 100000 in
set_option maxHeartbeats 2000000 in
theorem lifted (os : Os) (started : os.Started) (H : Type) (enc : TypeId × Value → H) :
    ReturnsInHanded {} Tryd.checked os 6 .any (fun w args => (Rows.macBackSpec.pre enc Tryd.prog Tryd.f6 [] false w args ∧ laidMetH Tryd.prog Rows.macMakesRow.laid w) ∧ sizedMet enc Tryd.prog Tryd.f6 (OpenSpec.ofChange Rows.macBackSpec) false w args)
      (Rows.macBackSpec.post enc Tryd.prog Tryd.f6 false true false false) := by
  refine returnsInHanded_of_change_and (C := Tryd.checked) (X := fun w _ => laidMetH Tryd.prog Rows.macMakesRow.laid w) (fun _ _ _ hh h => h.of_heap hh) own started (by kernel_rfl) Tryd.func6
    (ChangeSpec.witness_shaped (enc := enc) (C := Tryd.checked) (os := os) (X := fun w _ => laidMetH Tryd.prog Rows.macMakesRow.laid w) false (World.doorLaid Tryd.prog 28 os) #[.slice none 0 0, .int .i64 0, .slice none 0 0, .int .i64 0] 8 rfl (World.shaped_of_RefB (by kernel_rfl) (by kernel_rfl)) (by kernel_rfl) (by kernel_rfl) (by kernel_rfl) (door_met os _)) ?_
  intro W base args ds gs before hval0 hW _ hsz0 hL _
  have hsz : (DataW.weightsEach Tryd.prog (Tryd.f6.params.toList ++ Rows.macBackSpec.plain.varTypes Tryd.prog) (ds ++ gs)).all (· ≤ reachBytes) = true := hsz0
  have hval : ∀ (j : Nat) t v, Tryd.f6.params[j]? = some t → args[j]? = some v → Value.okWide Tryd.prog W .any base t v := hval0
  have hW' := hW
  obtain ⟨p, q, hA0, hV, rfl, hfz, hnd⟩ := hW
  have hA : DataW.TrodAll enc Tryd.prog W 0 (fun _ => true) true Tryd.f6.params.toList args.toList ds p := hA0
  rw [Tryd.params6] at hA hval hsz
  obtain ⟨v0, vs0, d0, ds0, p0, q0, hargs, rfl, rfl, h0, r0⟩ := trodAll_cons hA
  obtain ⟨v1, vs1, d1, ds1, p1, q1, rfl, rfl, rfl, h1, r1⟩ := trodAll_cons r0
  obtain ⟨v2, vs2, d2, ds2, p2, q2, rfl, rfl, rfl, h2, r2⟩ := trodAll_cons r1
  obtain ⟨v3, vs3, d3, ds3, p3, q3, rfl, rfl, rfl, h3, r3⟩ := trodAll_cons r2
  obtain ⟨rfl, rfl, rfl⟩ := trodAll_nil r3
  obtain rfl : args = #[v0, v1, v2, v3] := by cases args; simp_all
  obtain ⟨rfl, rfl⟩ := trodVars_none hV
  have h0k := h0
  have hlt0 : ∀ x ∈ p0, x.block < W.heap.size := fun x hx => by have := hW'.lt x (by simp [hx]); simpa using this
  have h2k := h2
  have hlt2 : ∀ x ∈ p2, x.block < W.heap.size := fun x hx => by have := hW'.lt x (by simp [hx]); simpa using this
  have hb2 : ∀ es sp, d2 = .slice es sp → (es.length + sp.length) * Tryd.prog.bytesOf 5 ≤ reachBytes := by
    intro es sp he
    exact sized_slice hsz (j := 2) (t := 26) (e := 5) rfl (by rw [he]; rfl) Tryd.underlying26
  obtain ⟨n0, K0, g0⟩ := open_ring (hval 0 22 v0 rfl rfl) h0
  obtain ⟨a1, rfl, rfl, rfl, w1⟩ := open_int Tryd.underlying3 (hval 1 3 v1 rfl rfl) h1
  obtain ⟨n2, f2, g2⟩ := By.open_bytes (hval 2 26 v2 rfl rfl) h2 hb2
  obtain ⟨a3, rfl, rfl, rfl, w3⟩ := open_int Tryd.underlying3 (hval 3 3 v3 rfl rfl) h3
  clear hA0 hval0
  simp only [List.append_nil] at hW'
  refine (walk v0 n0 K0 a1 v2 n2 f2 a3 W (gl_of_laid hL) g0 w1 g2 w3).mono fun e W' ⟨he, hg⟩ => ?_
  subst he
  exact ⟨_, rfl, _, _, _, [], _, [], hW', trodAll_cons_mk (shut_bool Tryd.underlying4 _) trodAll_mk0,
    (trodAll_cons_mk (Below.trod laidOut (by kernel_rfl) (of_decide_eq_true (by kernel_rfl)) h0k hg hlt0) (trodAll_cons_mk (shut_int Tryd.underlying3 w1) (trodAll_cons_mk (Below.trod laidOut (by kernel_rfl) (of_decide_eq_true (by kernel_rfl)) h2k hg hlt2) (trodAll_cons_mk (shut_int Tryd.underlying3 w3) trodAll_mk0)))), rfl, hg.frame _, fun h => nomatch h⟩

theorem over : Rows.MacBackSaid :=
  OpenClaim.holds_of_wide 6 Tryd.f6 rfl rfl rfl rfl rfl rfl rfl ⟨rfl, rfl, rfl, rfl, rfl⟩ rfl rfl rfl rfl rfl (by kernel_rfl) Tryd.func6 (by kernel_rfl)
    (of_decide_eq_true (by kernel_rfl)) (by unfold Func.isWrapper; first | (rw [if_pos (by decide +kernel)]; kernel_rfl) | (rw [if_neg (by decide +kernel)]; exact ⟨rfl, rfl⟩))
    (fun os started H enc _ => lifted os started H enc)

theorem proved : Rows.MacBackCardSaid :=
  Claim7.holds_tied_plain_at .later [] [.data, .data, .data] true Rows.macBackCard.stood.harness false
    over (fun _ h => by cases h) (by kernel_rfl) (fun _ h => by cases h) macBack_row_tie rfl ⟨rfl, rfl⟩ (by kernel_rfl) rfl
    (fun f fn hf hfn => by
      obtain rfl : f = 6 := Option.some.inj ((show Tryd.prog.funcNamed Rows.macBackRow.func = some 6 by kernel_rfl).symm.trans hf) |>.symm
      obtain rfl : fn = Tryd.f6 := (Option.some.inj (Tryd.func6.symm.trans hfn)).symm
      exact ⟨by kernel_rfl, fun j t ht => by
        rw [Tryd.params6] at ht
        have hm : t ∈ [22, 3, 26, 3] := by simpa using Array.mem_of_getElem? ht
        have hall : ([22, 3, 26, 3].all fun u => !Tryd.prog.wantsStandIn u) = true := by kernel_rfl
        exact (show Tryd.prog.wantsStandIn t = false by simpa using List.all_eq_true.1 hall t hm)⟩)
    (by kernel_rfl)
end Go.Proofs.YtbbcgcfahaljoaaDoor.macBack
