/-
  VoteMoves: Votes move with the sources, and do not hang on what is handed in as spare room. The law returns true for every input, and the input reads as it did.
  Conditions: none.
-/
import Derived.Test.YtkmbeogmgehnfaaRows
import Derived.Test.YtkmbeogmgehnfaaVoK
import Derived.Test.YtkmbeogmgehnfaaVoZ
import Derived.SizedLaws
import Derived.Lib.SmallJoins
namespace Go.Proofs.Ytkmbeogmgehnfaa.voteMoves
open Go.ChangeShapes Go.WideShapes Go.ChangeAt Go.RowKit Go.Joins Fl Hu Vo
set_option linter.unusedVariables false
set_option linter.unusedSimpArgs false

theorem own : ownKnob Try.prog.godebug = none := by kernel_rfl
theorem laidOut : laidOutB Try.prog = true := by kernel_rfl

theorem rmap_more {α : Type} {L : List α} {k : Nat} {x : α} (h : L[k]? = some x) {β : Type} (g : α → β) : (L.take (k + 1)).map g = (L.take k).map g ++ [g x] := by rw [take_more h, List.map_append]; rfl
set_option maxRecDepth 100000 in
set_option maxHeartbeats 16000000 in
theorem walk (pc : PC) (v : Value) (L : List Cd) (tt : Int) (w : World) (g0 : Cs w v L ∧ (∀ c ∈ L, i64C c) ∧ L.length * 32 ≤ 140737488351232) (g1 : Lit.wf (.int .i64 tt) = true) :
    Calls Try.prog 6 #[v, .int .i64 tt] w fun e w' => e = .returned (.bool true) ∧ Below w.heap.size w w' := by
  obtain ⟨hC, _, hN⟩ := g0
  have hN' : L.length ≤ 8796093022208 := by omega
  have tb := bounds_i64 g1
  have AW := Lib.hid (awake16_c pc)
  have PI := Lib.hid (fun w' v' M (h : Cs w' v' M) (hl : M.length = L.length) => pc.inter w' v' M h (hl ▸ hN'))
  have PK := Lib.hid (fun w' v' sv M S (h : Cs w' v' M) (hs : Is w' sv S) (hl : M.length = L.length) (hl2 : S.length ≤ 35184372088832) => pc.clus w' v' sv M S h hs (hl ▸ hN') hl2)
  have PB := Lib.hid (fun w' v' sv M S (h : Cs w' v' M) (hs : Is w' sv S) (hl : M.length = L.length) (hl2 : S.length ≤ 35184372088832) => pc.comb w' v' sv M S h hs (hl ▸ hN') hl2)
  have HS := Lib.hid hC
  obtain ⟨va, cap, rfl, c1, c2, _⟩ := hC
  obtain ⟨m, hm⟩ : ∃ m, L.length = m := ⟨_, rfl⟩
  have HM := Lib.hid hm
  rw [hm] at HS c1 hN hN' ⊢
  have m0 : (0 : Int) ≤ (m : Int) := by omega
  have m1 : (m : Int) ≤ 8796093022208 := by omega
  have m2 : (m : Int) ≤ (cap : Int) := by omega
  have m3 : (cap : Int) ≤ 9223372036854775807 := by omega
  obtain ⟨d, hd⟩ : ∃ t, tt.tmod 1000000 = t := ⟨_, rfl⟩
  have t1 : d < 1000000 := by rw [← hd]; exact Int.tmod_lt_of_pos tt (by decide)
  have t2 : -1000000 < d := by
    have := Int.lt_tmod_of_pos tt (show (0 : Int) < 1000000 by decide)
    omega
  have wt' : IntKind.i64.wrap d = d := wrap_in (by omega) (by omega)
  clear pc g1 hm
  go_enter Try.func6, Try.ntmps6
  go_wp2_with fail
  refine (AW.out _).mono ?_
  rintro e w1 ⟨rfl, hb⟩
  have B1 := Lib.hid hb
  clear hb AW
  go_wp2_with fail
  clear hd
  go_loopw [5, 6, 7] (fun ov iv _ wr => ∃ k : Nat, k ≤ m ∧ iv = .int .i64 (k : Nat) ∧ (∀ c ∈ L.take k, -34359738368 ≤ c.off ∧ c.off ≤ 34359738368) ∧ OwnC wr w.heap.size ov ((L.take k).map (mvC d)) ∧ Below w.heap.size w wr) (fun _ iv _ _ => m - (intOf iv).toNat)
  case atStart => exact ⟨0, by omega, rfl, by simp, OwnC.nil _ _, B1.out⟩
  case round =>
    obtain ⟨k, hk, rfl, hin, ho, hb⟩ := hrel
    rename World => wr
    have HO := Lib.hid ho
    have HB := Lib.hid hb
    have IN := Lib.hid hin
    clear ho hb hin B1
    by_cases c : k < m
    · have e1 : decide ((k : Int) < (m : Int)) = true := decide_eq_true (by omega)
      have e2 : decide (k < m) = true := decide_eq_true c
      have k1 : (k : Int) < (m : Int) := by omega
      have k0 : (0 : Int) ≤ (k : Int) := by omega
      have wk : IntKind.i64.wrap ((k : Int) + 1) = (k : Int) + 1 := wrap_in (by omega) (by omega)
      obtain ⟨x, hx⟩ : ∃ x, L[k]? = some x := ⟨_, List.getElem?_eq_getElem (by rw [HM.out]; exact c)⟩
      have RM := Lib.hid (rmap_more hx (mvC d))
      have LEN : Hid (((L.take k).map (mvC d)).length = k) := Lib.hid (by rw [List.length_map, List.length_take, HM.out]; omega)
      have AM := Lib.hid (fun q => all_more (P := fun c : Cd => -34359738368 ≤ c.off ∧ c.off ≤ 34359738368) hx IN.out q)
      obtain ⟨b, off, rfl, y0, y1, y2, y3⟩ := (HS.out.below HB.out).at hx
      clear hx
      obtain ⟨xo, xd, xj, xs⟩ := x
      simp only at y0 y1 y2 y3 AM
      have ME : Hid (mvC d ⟨xo, xd, xj, xs⟩ = ⟨xo + d, xd, xj, xs⟩) := Lib.hid rfl
      rw [ME.out] at RM
      have NX := Lib.hid (new4 wr xo xd xj xs 44)
      have hba := balloc (brefl wr) (.cells #[.int .i64 xo, .int .i64 xd, .int .i64 xj, .int .i64 xs] 44)
      have BA := Lib.hid (bstep HB.out hba)
      have OA := Lib.hid (HO.out.below hba)
      obtain ⟨nb, hnb⟩ : ∃ n, wr.heap.size = n := ⟨_, rfl⟩
      have NB : Hid (w.heap.size ≤ nb) := Lib.hid (by rw [← hnb]; exact HB.out.size)
      have OB : Hid (∀ z, z = nb → ∀ vv l, OwnC wr w.heap.size vv l → vv.ownBlock ≠ some z) := Lib.hid fun z hz vv l hl e => by have := (hl.lt _ e).2; omega
      have OBX := Lib.hid (OB.out nb rfl _ _ HO.out)
      rw [hnb] at NX
      obtain ⟨oa, oc, eov⟩ := HO.out.form
      rw [LEN.out] at eov
      subst eov
      clear hba HO OB
      go_upto_region 9 with fail
      try rw [hnb]
      clear hnb y0 y1 y2 y3
      generalize wr.alloc (.cells #[.int .i64 xo, .int .i64 xd, .int .i64 xj, .int .i64 xs] 44) = wa at *
      obtain ⟨z0, z1, z2, z3⟩ := blk4 NX.out (brefl wa)
      by_cases q1 : 34359738368 < xo
      · have g1 := decide_eq_true q1
        go_wp2_with fail
        go_ret
        exact ⟨rfl, BA.out⟩
      · have g1 := decide_eq_false q1
        by_cases q2 : xo < -34359738368
        · have g2 := decide_eq_true q2
          go_wp2_with fail
          go_ret
          exact ⟨rfl, BA.out⟩
        · have g2 := decide_eq_false q2
          have AZ := Lib.hid (AM.out ⟨by omega, by omega⟩)
          have wx : IntKind.i64.wrap (xo + d) = xo + d := wrap_in (by omega) (by omega)
          have f0 := (NX.out.2 0 _ rfl).2
          have B5 : Hid (Below w.heap.size w (wa.setCell ⟨nb, 0, none⟩ (.int .i64 (xo + d)))) := Lib.hid (below_set BA.out NB.out 0 (.int .i64 (xo + d)))
          have N5 : Hid (Blk (wa.setCell ⟨nb, 0, none⟩ (.int .i64 (xo + d))) nb [.int .i64 (xo + d), .int .i64 xd, .int .i64 xj, .int .i64 xs]) := Lib.hid (blk_set NX.out 0 (.int .i64 (xo + d)))
          have O5 : Hid (OwnC (wa.setCell ⟨nb, 0, none⟩ (.int .i64 (xo + d))) w.heap.size (.slice oa k oc) ((L.take k).map (mvC d))) := Lib.hid (ownsRow_setCell_other OA.out (a := ⟨nb, 0, none⟩) OBX.out (.int .i64 (xo + d)))
          go_upto_region 12 with fail
          generalize wa.setCell ⟨nb, 0, none⟩ (.int .i64 (xo + d)) = w5 at *
          clear z0 z1 z2 z3 f0 BA NX OA
          obtain ⟨z0, z1, z2, z3⟩ := blk4 N5.out (brefl w5)
          obtain ⟨ov', w6, hr6, o6, b6⟩ := appC O5.out ⟨xo + d, xd, xj, xs⟩ B5.out.size (by rw [LEN.out]; omega) 22
          rw [← RM.out] at o6
          replace hr6 : (Builtin.append_ #[22, 22] 22 #[.slice oa k oc, .slice (some ⟨w5.heap.size, 0, none⟩) 1 1]).run Try.prog (w5.alloc (.cells #[.int .i64 (xo + d), .int .i64 xd, .int .i64 xj, .int .i64 xs] 44)) = .ok ov' w6 := hr6
          have R6 := Lib.hid hr6
          have O6 := Lib.hid o6
          have B6 := Lib.hid (B5.out.trans b6)
          clear hr6 o6 b6
          go_wp2_with (first | (at_builtin; refine wpList_append_eqL rfl _ _ 22 rfl _ _ ov' w6 rfl rfl R6.out ?_))
          exact ⟨⟨k + 1, by omega, by go_num, AZ.out, O6.out, B6.out⟩, by simp [intOf]; omega⟩
    · have e1 : decide ((k : Int) < (m : Int)) = false := decide_eq_false (by omega)
      have e2 : decide (k < m) = false := decide_eq_false c
      obtain rfl : k = m := by omega
      have hf : ∀ c ∈ L, -34359738368 ≤ c.off ∧ c.off ≤ 34359738368 := all_done HM.out IN.out
      have hok := (okL_mv t2 t1 hf).1
      obtain ⟨M, hM⟩ : ∃ M, L.map (mvC d) = M := ⟨_, rfl⟩
      have hMt : (L.take k).map (mvC d) = M := by rw [List.take_of_length_le (by rw [HM.out]; exact Nat.le_refl _)]; exact hM
      have ML : M.length = k := by rw [← hM, List.length_map]; exact HM.out
      have MS := HO.out.cs
      rw [hMt] at MS
      have MM := Lib.hid MS
      obtain ⟨oa, oc, eov⟩ := HO.out.form
      rw [hMt, ML] at eov
      subst eov
      have IA := inA_mv hok
      have CZ := Lib.hid (fun S => clE_mv hok S)
      have KM := Lib.hid (fun S T T' h k => KP_mv hok (S := S) (T := T) (T' := T') h k)
      have CP := Lib.hid (fun A h => co_pair hok (A := A) h)
      rw [hM] at IA CZ KM CP
      have P1 := Lib.hid (PI.out wr _ L (HS.out.below HB.out) rfl)
      have P2 := Lib.hid (fun w' (q : Below wr.heap.size wr w') => PI.out w' _ M (MM.out.below q) (by rw [ML]; exact HM.out.symm))
      have K1 := Lib.hid (fun w' sv S (q : Below wr.heap.size wr w') (hs : Is w' sv S) hl2 => PK.out w' _ sv L S (HS.out.below (bstep HB.out q)) hs rfl hl2)
      have K2 := Lib.hid (fun w' sv S (q : Below wr.heap.size wr w') (hs : Is w' sv S) hl2 => PK.out w' _ sv M S (MM.out.below q) hs (by rw [ML]; exact HM.out.symm) hl2)
      have C1 := Lib.hid (fun w' sv S (q : Below wr.heap.size wr w') (hs : Is w' sv S) hl2 => PB.out w' _ sv L S (HS.out.below (bstep HB.out q)) hs rfl hl2)
      have C2 := Lib.hid (fun w' sv S (q : Below wr.heap.size wr w') (hs : Is w' sv S) hl2 => PB.out w' _ sv M S (MM.out.below q) hs (by rw [ML]; exact HM.out.symm) hl2)
      clear hf hok hM hMt ML MS HO PI PK PB IN
      have TL : Hid ((inA L).1.2.length ≤ L.length) := Lib.hid (by
        unfold inA
        split
        · split
          · exact tru_len _ _ _ _
          · simp
        · simp)
      unfold IP at P1 P2
      rcases IA with ⟨ec, ne, hA, hB⟩ | ⟨lo, hi, T, ok, hA, hB, hT, hlo, hhi⟩
      · rw [hA] at P1 TL
        rw [hB] at P2
        have ne2 : (ec == 0) = false := by simpa using ne
        replace P1 : Hid (Calls Try.prog 8 #[.slice va k cap] wr fun e w'' => (∃ v', e = .returned (.tuple #[.agg #[.int .i64 0, .int .i64 0], v', .int .i64 ec]) ∧ OwnI w'' wr.heap.size v' (ints ([] : List Nat))) ∧ Below wr.heap.size wr w'') := P1
        replace P2 : Hid (∀ w', Below wr.heap.size wr w' → Calls Try.prog 8 #[.slice oa k oc] w' fun e w'' => (∃ v', e = .returned (.tuple #[.agg #[.int .i64 (0), .int .i64 (0)], v', .int .i64 ec]) ∧ OwnI w'' w'.heap.size v' (ints ([] : List Nat))) ∧ Below w'.heap.size w' w'') := P2
        have TK : Hid (([] : List Nat).length ≤ k) := Lib.hid (by have := TL.out; rw [HM.out] at this; exact this)
        clear hA hB TL
        go_wp2_with fail
        refine P1.out.mono ?_
        rintro e w2 ⟨⟨tv, rfl, oa2⟩, hb⟩
        have hb2 := balloc hb (.cells #[.int .i64 0, .int .i64 0] 27)
        have B2 := Lib.hid hb2
        have N2 := Lib.hid (new2 w2 0 0 27)
        have I2 := Lib.hid (oa2.is.below (balloc (brefl w2) (.cells #[.int .i64 0, .int .i64 0] 27)))
        clear hb hb2 P1 oa2
        go_wp2_with fail
        refine (P2.out _ B2.out).mono ?_
        rintro e w3 ⟨⟨uv, rfl, ob2⟩, hb⟩
        have hb2 := balloc hb (.cells #[.int .i64 (0), .int .i64 (0)] 27)
        have B3 := Lib.hid (bstep B2.out hb2)
        have N3 := Lib.hid (N2.out.below hb2)
        have I3 := Lib.hid (I2.out.below hb2)
        have M3 := Lib.hid (new2 w3 (0) (0) 27)
        have J3 := Lib.hid (ob2.is.below (balloc (brefl w3) (.cells #[.int .i64 (0), .int .i64 (0)] 27)))
        clear hb hb2 P2 ob2 B2 N2 I2
        have S1 := Lib.hid (fun w' (q : Below (w3.alloc (.cells #[.int .i64 (0), .int .i64 (0)] 27)).heap.size (w3.alloc (.cells #[.int .i64 (0), .int .i64 (0)] 27)) w') => same_c (I3.out.below q) (J3.out.below q) (by rw [ints_len]; have := TK.out; omega) (by rw [ints_len]; have := TK.out; omega))
        rw [decide_eq_true rfl] at S1
        go_upto_region 15 with fail
        generalize w3.alloc (.cells #[.int .i64 (0), .int .i64 (0)] 27) = w4 at *
        have S2 := Lib.hid (S1.out w4 (brefl w4))
        go_wp2_with fail
        refine S2.out.mono ?_
        rintro e w5 ⟨rfl, hb⟩
        obtain ⟨z0, z1⟩ := blk2 N3.out hb
        obtain ⟨y0, y1⟩ := blk2 M3.out hb
        have B5 := Lib.hid (bstep B3.out hb)
        have I5 := Lib.hid (I3.out.below hb)
        have J5 := Lib.hid (J3.out.below hb)
        clear hb S1 S2 B3 N3 M3 I3 J3
        go_upto_region 17 with fail
        clear z0 z1 y0 y1
        have D1 := Lib.hid (K1.out w5 _ _ B5.out I5.out (by rw [ints_len]; have := TK.out; omega))
        unfold KP at D1
        go_wp2_with fail
        refine D1.out.mono ?_
        rintro e w6 ⟨⟨av, A, rfl, oc1, a1, a2⟩, hb⟩
        have B6 := Lib.hid (bstep B5.out hb)
        have J6 := Lib.hid (J5.out.below hb)
        have D2 := Lib.hid (K2.out w6 _ _ B6.out J6.out (by rw [ints_len]; have := TK.out; omega))
        unfold KP at D2
        have O6 := Lib.hid oc1
        clear hb D1 B5 I5 J5 oc1
        go_wp2_with fail
        refine D2.out.mono ?_
        rintro e w7 ⟨⟨bv, A', rfl, oc2, b1, b2⟩, hb⟩
        obtain ⟨eq, al, acase⟩ := KM.out _ A A' ⟨a1, a2⟩ ⟨b1, b2⟩
        subst eq
        rw [CZ.out]
        have B7 := Lib.hid (bstep B6.out hb)
        have O7 := Lib.hid (ownI_below O6.out hb)
        have Q7 := Lib.hid oc2
        have S3 := Lib.hid (same_c O7.out.is oc2.is (by rw [ints_len]; omega) (by rw [ints_len]; omega))
        rw [decide_eq_true rfl] at S3
        generalize clE L (ints ([] : List Nat)) = ce at *
        clear hb D2 B6 J6 O6 a1 a2 b1 b2 oc2 KM CZ
        go_wp2_with fail
        refine S3.out.mono ?_
        rintro e w8 ⟨rfl, hb⟩
        have B8 := Lib.hid (bstep B7.out hb)
        have O8 := Lib.hid (ownI_below O7.out hb)
        have Q8 := Lib.hid (ownI_below Q7.out hb).is
        clear hb S3 B7 O7 Q7
        have OE := Lib.hid (ownI0 w8 w8.heap.size (Nat.le_refl _))
        have BE := Lib.hid (balloc (brefl w8) (.cells #[] 3))
        obtain ⟨xv, w9, r9, o9, b9⟩ := appOwn OE.out (ownI_below O8.out BE.out) BE.out.size (by rw [ints_len]; simp; omega) 23
        rw [List.nil_append] at o9
        have R9 := Lib.hid r9
        have B9 := Lib.hid (BE.out.trans b9)
        obtain ⟨fv, w10, r10, o10, b10, _⟩ := appI o9 77 B9.out.size (by rw [ints_len]; omega) 23
        obtain ⟨na, hna⟩ : ∃ n, A.length = n := ⟨_, rfl⟩
        obtain ⟨pa, pc1, epv⟩ := O8.out.form
        obtain ⟨qa, qc1, eqv⟩ := o9.form
        obtain ⟨fg, fc, efv, g1, g2, g3, g4⟩ := o10.opens (by simp)
        have fl : (ints A ++ [(77 : Int)]).length = na + 1 := by rw [List.length_append, ints_len, hna]; rfl
        rw [ints_len, hna] at epv eqv
        rw [fl] at efv g3
        subst epv
        subst eqv
        subst efv
        have FL := Lib.hid fl
        have NA := Lib.hid hna
        have R10 := Lib.hid r10
        have B10 := Lib.hid (B9.out.trans b10)
        have O10 := Lib.hid o10
        have F10 := Lib.hid (o10.front fl g2 g3 g4 (k := na) (by omega))
        rw [List.take_left' (by rw [ints_len]; exact hna)] at F10
        have K77 := Lib.hid (fun W (q : Below w10.heap.size w10 W) => ((ownI_below O10.out q).cell FL.out (k := na) (x := 77) (by rw [List.getElem?_append_right (by rw [ints_len, NA.out]; exact Nat.le_refl _), ints_len, NA.out, Nat.sub_self]; rfl)).1)
        have n0 : (0 : Int) ≤ (na : Int) := by omega
        have n1 : (na : Int) ≤ 32 := by omega
        have n2 : (na : Int) + 1 ≤ (fc : Int) := by omega
        have n3 : (fc : Int) ≤ 9223372036854775807 := by omega
        have n4 : (na : Int) ≤ (fc : Int) := by omega
        have n5 : na ≤ fc := by omega
        have n6 : (na : Int) < (na : Int) + 1 := by omega
        obtain ⟨x, j, e, cA, cB⟩ := CP.out A acase
        have B11 := Lib.hid (bstep B8.out B10.out)
        have E1 := Lib.hid (C1.out w10 _ _ B11.out F10.out (by rw [ints_len]; omega))
        rw [cA] at E1
        clear r9 o9 b9 r10 o10 b10 g1 g2 g3 g4 fl hna cA C1 CP al acase OE BE B9 O8
        go_upto_region 21 with fail
        go_upto_region 22 with (first | (at_builtin; refine wpList_append_eqL rfl _ _ 23 rfl (.slice (some ⟨w8.heap.size, 0, none⟩) 0 0) (.slice pa na pc1) (.slice qa na qc1) w9 rfl rfl R9.out ?_) | (at_builtin; refine wpList_append_eqL rfl _ _ 23 rfl (.slice qa na qc1) _ (.slice (some ⟨fg, 0, none⟩) (na + 1) fc) w10 rfl rfl R10.out ?_))
        clear R9 R10
        go_wp2_with fail
        refine E1.out.mono ?_
        rintro e' w11 ⟨rfl, hb⟩
        have kz := K77.out _ hb
        have B12 := Lib.hid (bstep B11.out hb)
        have Q12 := Lib.hid ((Q8.out.below B10.out).below hb)
        have E2 := Lib.hid (C2.out w11 _ _ B12.out Q12.out (by rw [ints_len, NA.out]; omega))
        have KK := Lib.hid (fun W (q : Below w11.heap.size w11 W) => K77.out W (bstep hb q))
        clear hb E1 kz K77 B11 B10 Q8 F10 O10 C2
        rcases cB with ⟨ez, y, kq, cM⟩ | ⟨ez, x1, x2, cM⟩
        · rw [cM] at E2
          have ez2 : (e != 0) = true := by simpa using ez
          clear cM
          go_wp2_with fail
          refine E2.out.mono ?_
          rintro e' w12 ⟨rfl, hb⟩
          have kz := KK.out _ hb
          have B13 := Lib.hid (bstep HB.out (bstep B12.out hb))
          clear hb E2 KK
          go_wp2_with fail
          go_ret
          exact ⟨rfl, B13.out⟩
        · subst ez
          rw [cM] at E2
          have wxd : IntKind.i64.wrap (x + d) = x + d := wrap_in (by omega) (by omega)
          clear cM
          go_wp2_with fail
          refine E2.out.mono ?_
          rintro e' w12 ⟨rfl, hb⟩
          have kz := KK.out _ hb
          have B13 := Lib.hid (bstep HB.out (bstep B12.out hb))
          clear hb E2 KK
          go_wp2_with fail
          go_ret
          exact ⟨rfl, B13.out⟩
      · rw [hA] at P1 TL
        rw [hB] at P2
        clear hT
        have wl : IntKind.i64.wrap (lo + d) = lo + d := wrap_in (by omega) (by omega)
        have wh : IntKind.i64.wrap (hi + d) = hi + d := wrap_in (by omega) (by omega)
        replace P1 : Hid (Calls Try.prog 8 #[.slice va k cap] wr fun e w'' => (∃ v', e = .returned (.tuple #[.agg #[.int .i64 lo, .int .i64 hi], v', .int .i64 0]) ∧ OwnI w'' wr.heap.size v' (ints T)) ∧ Below wr.heap.size wr w'') := P1
        replace P2 : Hid (∀ w', Below wr.heap.size wr w' → Calls Try.prog 8 #[.slice oa k oc] w' fun e w'' => (∃ v', e = .returned (.tuple #[.agg #[.int .i64 (lo + d), .int .i64 (hi + d)], v', .int .i64 0]) ∧ OwnI w'' w'.heap.size v' (ints T)) ∧ Below w'.heap.size w' w'') := P2
        have TK : Hid (T.length ≤ k) := Lib.hid (by have := TL.out; rw [HM.out] at this; exact this)
        clear hA hB TL
        go_wp2_with fail
        refine P1.out.mono ?_
        rintro e w2 ⟨⟨tv, rfl, oa2⟩, hb⟩
        have hb2 := balloc hb (.cells #[.int .i64 lo, .int .i64 hi] 27)
        have B2 := Lib.hid hb2
        have N2 := Lib.hid (new2 w2 lo hi 27)
        have I2 := Lib.hid (oa2.is.below (balloc (brefl w2) (.cells #[.int .i64 lo, .int .i64 hi] 27)))
        clear hb hb2 P1 oa2
        go_wp2_with fail
        refine (P2.out _ B2.out).mono ?_
        rintro e w3 ⟨⟨uv, rfl, ob2⟩, hb⟩
        have hb2 := balloc hb (.cells #[.int .i64 (lo + d), .int .i64 (hi + d)] 27)
        have B3 := Lib.hid (bstep B2.out hb2)
        have N3 := Lib.hid (N2.out.below hb2)
        have I3 := Lib.hid (I2.out.below hb2)
        have M3 := Lib.hid (new2 w3 (lo + d) (hi + d) 27)
        have J3 := Lib.hid (ob2.is.below (balloc (brefl w3) (.cells #[.int .i64 (lo + d), .int .i64 (hi + d)] 27)))
        clear hb hb2 P2 ob2 B2 N2 I2
        have S1 := Lib.hid (fun w' (q : Below (w3.alloc (.cells #[.int .i64 (lo + d), .int .i64 (hi + d)] 27)).heap.size (w3.alloc (.cells #[.int .i64 (lo + d), .int .i64 (hi + d)] 27)) w') => same_c (I3.out.below q) (J3.out.below q) (by rw [ints_len]; have := TK.out; omega) (by rw [ints_len]; have := TK.out; omega))
        rw [decide_eq_true rfl] at S1
        go_upto_region 15 with fail
        generalize w3.alloc (.cells #[.int .i64 (lo + d), .int .i64 (hi + d)] 27) = w4 at *
        have S2 := Lib.hid (S1.out w4 (brefl w4))
        go_wp2_with fail
        refine S2.out.mono ?_
        rintro e w5 ⟨rfl, hb⟩
        obtain ⟨z0, z1⟩ := blk2 N3.out hb
        obtain ⟨y0, y1⟩ := blk2 M3.out hb
        have B5 := Lib.hid (bstep B3.out hb)
        have I5 := Lib.hid (I3.out.below hb)
        have J5 := Lib.hid (J3.out.below hb)
        clear hb S1 S2 B3 N3 M3 I3 J3
        go_upto_region 17 with fail
        clear z0 z1 y0 y1
        have D1 := Lib.hid (K1.out w5 _ _ B5.out I5.out (by rw [ints_len]; have := TK.out; omega))
        unfold KP at D1
        go_wp2_with fail
        refine D1.out.mono ?_
        rintro e w6 ⟨⟨av, A, rfl, oc1, a1, a2⟩, hb⟩
        have B6 := Lib.hid (bstep B5.out hb)
        have J6 := Lib.hid (J5.out.below hb)
        have D2 := Lib.hid (K2.out w6 _ _ B6.out J6.out (by rw [ints_len]; have := TK.out; omega))
        unfold KP at D2
        have O6 := Lib.hid oc1
        clear hb D1 B5 I5 J5 oc1
        go_wp2_with fail
        refine D2.out.mono ?_
        rintro e w7 ⟨⟨bv, A', rfl, oc2, b1, b2⟩, hb⟩
        obtain ⟨eq, al, acase⟩ := KM.out _ A A' ⟨a1, a2⟩ ⟨b1, b2⟩
        subst eq
        rw [CZ.out]
        have B7 := Lib.hid (bstep B6.out hb)
        have O7 := Lib.hid (ownI_below O6.out hb)
        have Q7 := Lib.hid oc2
        have S3 := Lib.hid (same_c O7.out.is oc2.is (by rw [ints_len]; omega) (by rw [ints_len]; omega))
        rw [decide_eq_true rfl] at S3
        generalize clE L (ints T) = ce at *
        clear hb D2 B6 J6 O6 a1 a2 b1 b2 oc2 KM CZ
        go_wp2_with fail
        refine S3.out.mono ?_
        rintro e w8 ⟨rfl, hb⟩
        have B8 := Lib.hid (bstep B7.out hb)
        have O8 := Lib.hid (ownI_below O7.out hb)
        have Q8 := Lib.hid (ownI_below Q7.out hb).is
        clear hb S3 B7 O7 Q7
        have OE := Lib.hid (ownI0 w8 w8.heap.size (Nat.le_refl _))
        have BE := Lib.hid (balloc (brefl w8) (.cells #[] 3))
        obtain ⟨xv, w9, r9, o9, b9⟩ := appOwn OE.out (ownI_below O8.out BE.out) BE.out.size (by rw [ints_len]; simp; omega) 23
        rw [List.nil_append] at o9
        have R9 := Lib.hid r9
        have B9 := Lib.hid (BE.out.trans b9)
        obtain ⟨fv, w10, r10, o10, b10, _⟩ := appI o9 77 B9.out.size (by rw [ints_len]; omega) 23
        obtain ⟨na, hna⟩ : ∃ n, A.length = n := ⟨_, rfl⟩
        obtain ⟨pa, pc1, epv⟩ := O8.out.form
        obtain ⟨qa, qc1, eqv⟩ := o9.form
        obtain ⟨fg, fc, efv, g1, g2, g3, g4⟩ := o10.opens (by simp)
        have fl : (ints A ++ [(77 : Int)]).length = na + 1 := by rw [List.length_append, ints_len, hna]; rfl
        rw [ints_len, hna] at epv eqv
        rw [fl] at efv g3
        subst epv
        subst eqv
        subst efv
        have FL := Lib.hid fl
        have NA := Lib.hid hna
        have R10 := Lib.hid r10
        have B10 := Lib.hid (B9.out.trans b10)
        have O10 := Lib.hid o10
        have F10 := Lib.hid (o10.front fl g2 g3 g4 (k := na) (by omega))
        rw [List.take_left' (by rw [ints_len]; exact hna)] at F10
        have K77 := Lib.hid (fun W (q : Below w10.heap.size w10 W) => ((ownI_below O10.out q).cell FL.out (k := na) (x := 77) (by rw [List.getElem?_append_right (by rw [ints_len, NA.out]; exact Nat.le_refl _), ints_len, NA.out, Nat.sub_self]; rfl)).1)
        have n0 : (0 : Int) ≤ (na : Int) := by omega
        have n1 : (na : Int) ≤ 32 := by omega
        have n2 : (na : Int) + 1 ≤ (fc : Int) := by omega
        have n3 : (fc : Int) ≤ 9223372036854775807 := by omega
        have n4 : (na : Int) ≤ (fc : Int) := by omega
        have n5 : na ≤ fc := by omega
        have n6 : (na : Int) < (na : Int) + 1 := by omega
        obtain ⟨x, j, e, cA, cB⟩ := CP.out A acase
        have B11 := Lib.hid (bstep B8.out B10.out)
        have E1 := Lib.hid (C1.out w10 _ _ B11.out F10.out (by rw [ints_len]; omega))
        rw [cA] at E1
        clear r9 o9 b9 r10 o10 b10 g1 g2 g3 g4 fl hna cA C1 CP al acase OE BE B9 O8
        go_upto_region 21 with fail
        go_upto_region 22 with (first | (at_builtin; refine wpList_append_eqL rfl _ _ 23 rfl (.slice (some ⟨w8.heap.size, 0, none⟩) 0 0) (.slice pa na pc1) (.slice qa na qc1) w9 rfl rfl R9.out ?_) | (at_builtin; refine wpList_append_eqL rfl _ _ 23 rfl (.slice qa na qc1) _ (.slice (some ⟨fg, 0, none⟩) (na + 1) fc) w10 rfl rfl R10.out ?_))
        clear R9 R10
        go_wp2_with fail
        refine E1.out.mono ?_
        rintro e' w11 ⟨rfl, hb⟩
        have kz := K77.out _ hb
        have B12 := Lib.hid (bstep B11.out hb)
        have Q12 := Lib.hid ((Q8.out.below B10.out).below hb)
        have E2 := Lib.hid (C2.out w11 _ _ B12.out Q12.out (by rw [ints_len, NA.out]; omega))
        have KK := Lib.hid (fun W (q : Below w11.heap.size w11 W) => K77.out W (bstep hb q))
        clear hb E1 kz K77 B11 B10 Q8 F10 O10 C2
        rcases cB with ⟨ez, y, kq, cM⟩ | ⟨ez, x1, x2, cM⟩
        · rw [cM] at E2
          have ez2 : (e != 0) = true := by simpa using ez
          clear cM
          go_wp2_with fail
          refine E2.out.mono ?_
          rintro e' w12 ⟨rfl, hb⟩
          have kz := KK.out _ hb
          have B13 := Lib.hid (bstep HB.out (bstep B12.out hb))
          clear hb E2 KK
          go_wp2_with fail
          go_ret
          exact ⟨rfl, B13.out⟩
        · subst ez
          rw [cM] at E2
          have wxd : IntKind.i64.wrap (x + d) = x + d := wrap_in (by omega) (by omega)
          clear cM
          go_wp2_with fail
          refine E2.out.mono ?_
          rintro e' w12 ⟨rfl, hb⟩
          have kz := KK.out _ hb
          have B13 := Lib.hid (bstep HB.out (bstep B12.out hb))
          clear hb E2 KK
          go_wp2_with fail
          go_ret
          exact ⟨rfl, B13.out⟩
set_option maxRecDepth 100000 in
theorem lifted (os : Os) (started : os.Started) (H : Type) (enc : TypeId × Value → H) :
    ReturnsInHanded {} Try.checked os 6 .any (Rows.voteMovesSpec.pre6 enc Try.prog Try.f6 Rows.voteMovesRow.domain false) (Rows.voteMovesSpec.post enc Try.prog Try.f6 false true false false) := by
  refine returnsInHanded_of_change_sized (C := Try.checked) own started (by kernel_rfl) Try.func6
    (ChangeSpec.witness6 (enc := enc) (C := Try.checked) false ⟨#[], #[.slice none 0 0, .int .i64 0], []⟩ 8 (by kernel_rfl) (by kernel_rfl) (by kernel_rfl) (by kernel_rfl)) ?_
  intro W base args ds gs before hval0 hW hcnd hsz0 _
  have hsz : (DataW.weightsEach Try.prog (Try.f6.params.toList ++ Rows.voteMovesSpec.plain.varTypes Try.prog) (ds ++ gs)).all (· ≤ reachBytes) = true := hsz0
  have hval : ∀ (j : Nat) t v, Try.f6.params[j]? = some t → args[j]? = some v → Value.okWide Try.prog W .any base t v := hval0
  have hW' := hW
  obtain ⟨p, q, hA0, hV, rfl, hfz, hnd⟩ := hW
  have hA : DataW.TrodAll enc Try.prog W 0 (fun _ => true) true Try.f6.params.toList args.toList ds p := hA0
  rw [Try.params6] at hA hval hsz
  obtain ⟨v0, vs0, d0, ds0, p0, q0, hargs, rfl, rfl, h0, r0⟩ := trodAll_cons hA
  obtain ⟨v1, vs1, d1, ds1, p1, q1, rfl, rfl, rfl, h1, r1⟩ := trodAll_cons r0
  obtain ⟨rfl, rfl, rfl⟩ := trodAll_nil r1
  obtain rfl : args = #[v0, v1] := by cases args; simp_all
  obtain ⟨rfl, rfl⟩ := trodVars_none hV
  have h0k := h0
  have hlt0 : ∀ x ∈ p0, x.block < W.heap.size := fun x hx => by have := hW'.lt x (by simp [hx]); simpa using this
  have hb0 : ∀ es sp, d0 = .slice es sp → (es.length + sp.length) * Try.prog.bytesOf 44 ≤ reachBytes := by
    intro es sp he
    exact sized_slice hsz (j := 0) (t := 22) (e := 44) rfl (by rw [he]; rfl) Try.underlying22
  have h1k := h1
  have hlt1 : ∀ x ∈ p1, x.block < W.heap.size := fun x hx => by have := hW'.lt x (by simp [hx]); simpa using this
  obtain ⟨L0, g0⟩ := open_cds (hval 0 22 v0 rfl rfl) h0 hb0
  obtain ⟨z1, rfl, _, _, g1⟩ := open_int Try.underlying25 (hval 1 25 v1 rfl rfl) h1
  clear hA0 hval0
  simp only [List.append_nil] at hW'
  refine (walk pc v0 L0 z1 W g0 g1).mono fun e W' ⟨he, hg⟩ => ?_
  subst he
  exact ⟨_, rfl, _, _, _, [], _, [], hW', trodAll_cons_mk (shut_bool Try.underlying4 _) trodAll_mk0,
    (trodAll_cons_mk (Below.trod laidOut (by kernel_rfl) (of_decide_eq_true (by kernel_rfl)) h0k hg hlt0) (trodAll_cons_mk (Below.trod laidOut (by kernel_rfl) (of_decide_eq_true (by kernel_rfl)) h1k hg hlt1) trodAll_mk0)), rfl, hg.frame _, fun h => nomatch h⟩

theorem over : Rows.voteMovesRow.holds Try.pinned (OpenSpec.ofChange Rows.voteMovesSpec) :=
  OpenClaim.holds_of_wide 6 Try.f6 rfl rfl rfl rfl rfl rfl rfl ⟨rfl, rfl, rfl, rfl, rfl⟩ rfl rfl rfl rfl rfl (by kernel_rfl) Try.func6 (by kernel_rfl)
    (of_decide_eq_true (by kernel_rfl)) (by unfold Func.isWrapper; first | (rw [if_pos (by decide +kernel)]; kernel_rfl) | (rw [if_neg (by decide +kernel)]; exact ⟨rfl, rfl⟩))
    (fun os started H enc _ => lifted os started H enc)

theorem proved : Rows.VoteMovesSaid :=
  over
end Go.Proofs.Ytkmbeogmgehnfaa.voteMoves
