/-
  The contract of wire.Encode.
  Conditions: none.
-/
import Derived.Test.YtmjbnbjkpimjmaaWiI
import Derived.Test.YtmjbnbjkpimjmaaWiJ
import Derived.Test.YtmjbnbjkpimjmaaWjB
namespace Go.Proofs.Ytmjbnbjkpimjmaa.Wi
open Go.RowKit Go.ChangeShapes Go.WideShapes Go.ChangeAt Go.Joins By
set_option linter.unusedVariables false
set_option linter.unusedSimpArgs false

set_option maxRecDepth 100000 in
set_option maxHeartbeats 8000000 in
theorem Encode_no {w : World} {p : Pk} {fv dv : Value} {V : Nat → Value} (P : Pm w p fv dv V) (h : rt p = false) : Calls Try.prog 9 #[PV p fv dv] w fun e w' => e = .returned (.tuple #[.slice none 0 0, .int .i64 3]) ∧ Below w.heap.size w w' := by
  have HC := Lib.hid (fun z (k : Below w.heap.size w z) => Check_c (P.below k))
  rw [chk_no h] at HC
  obtain ⟨F, D, K⟩ := P
  obtain ⟨fa, fc, rfl⟩ := F.form
  obtain ⟨da, dc, rfl⟩ := D.form
  clear F D K h
  simp only [PV] at HC ⊢
  go_enter Try.func9, Try.ntmps9
  go_wp2_with fail
  refine (HC.out _ (balloc (brefl w) _)).mono ?_
  rintro e w1 ⟨rfl, hb⟩
  have B1 := Lib.hid (bstep (balloc (brefl w) _) hb)
  clear hb
  go_wp2_with fail
  go_ret2
  exact ⟨rfl, B1.out⟩

set_option maxRecDepth 100000 in
set_option maxHeartbeats 8000000 in
theorem Encode_yes {w : World} {p : Pk} {fv dv : Value} {V : Nat → Value} (P : Pm w p fv dv V) (h : rt p = true) : Calls Try.prog 9 #[PV p fv dv] w fun e w' => (∃ v, e = .returned (.tuple #[v, .int .i64 0]) ∧ By.Own w' w.heap.size v (enc p)) ∧ Below w.heap.size w w' := by
  have HC := Lib.hid (fun z (k : Below w.heap.size w z) => Check_c (P.below k))
  rw [chk_yes h] at HC
  obtain ⟨rh, n, rn, r8, rf, rtot⟩ := rt_cut h
  obtain ⟨F, D, K⟩ := P
  have HH := Lib.hid (fun z => appendHeader_c p rh K z)
  have HD := Lib.hid D
  have FX := Lib.hid F
  have XF := Lib.hid (fun k (hk : k < p.fs.length) => okF_at rf hk)
  have LF := Lib.hid (fun k => fes_take_len n p.fs k)
  have TE := Lib.hid (te_eq rn)
  have R := Lib.hid rtot
  have DL := Lib.hid (dig_len rn)
  have kk := K.2.2.2.2.2.2.2.1
  obtain ⟨fa, fc, rfl⟩ := F.form
  obtain ⟨da, dc, rfl⟩ := D.form
  obtain ⟨fa', fc', ef, g1, g2, g3, g4⟩ := F
  obtain ⟨rfl, rfl⟩ : fa = fa' ∧ fc = fc' := by simpa using ef
  have F3 := Lib.hid g3
  have F4 := Lib.hid g4
  have k0 : (0 : Int) ≤ (p.key : Int) := by omega
  have k1 : (p.key : Int) < 4294967296 := by omega
  have l0 : (0 : Int) ≤ (p.fs.length : Int) := by omega
  clear g3 g4 ef D K h rh rn rf rtot kk
  simp only [PV] at HC ⊢
  go_enter Try.func9, Try.ntmps9
  go_upto_region 1 with fail
  have N := Blk.new' w #[.int .i64 p.leap, .int .i64 p.ver, .int .i64 p.mode, .int .i64 p.strat, .int .i64 p.poll, .int .i64 p.prec, .int .u32 (p.rd : Nat), .int .u32 (p.rs : Nat), .int .u32 (p.rid : Nat), .int .u64 (p.tref : Nat), .int .u64 (p.torg : Nat), .int .u64 (p.trec : Nat), .int .u64 (p.txm : Nat), .slice fa p.fs.length fc, .int .i64 p.auth, .int .u32 (p.key : Nat), .slice da p.dig.length dc] 30
  have B0 := Lib.hid (balloc (brefl w) (.cells #[.int .i64 p.leap, .int .i64 p.ver, .int .i64 p.mode, .int .i64 p.strat, .int .i64 p.poll, .int .i64 p.prec, .int .u32 (p.rd : Nat), .int .u32 (p.rs : Nat), .int .u32 (p.rid : Nat), .int .u64 (p.tref : Nat), .int .u64 (p.torg : Nat), .int .u64 (p.trec : Nat), .int .u64 (p.txm : Nat), .slice fa p.fs.length fc, .int .i64 p.auth, .int .u32 (p.key : Nat), .slice da p.dig.length dc] 30))
  generalize w.alloc (.cells #[.int .i64 p.leap, .int .i64 p.ver, .int .i64 p.mode, .int .i64 p.strat, .int .i64 p.poll, .int .i64 p.prec, .int .u32 (p.rd : Nat), .int .u32 (p.rs : Nat), .int .u32 (p.rid : Nat), .int .u64 (p.tref : Nat), .int .u64 (p.torg : Nat), .int .u64 (p.trec : Nat), .int .u64 (p.txm : Nat), .slice fa p.fs.length fc, .int .i64 p.auth, .int .u32 (p.key : Nat), .slice da p.dig.length dc] 30) = w1 at *
  have N1 := Lib.hid N
  clear N
  have c0 := (N1.out.2 0 _ rfl).1
  have c1 := (N1.out.2 1 _ rfl).1
  have c2 := (N1.out.2 2 _ rfl).1
  have c3 := (N1.out.2 3 _ rfl).1
  have c4 := (N1.out.2 4 _ rfl).1
  have c5 := (N1.out.2 5 _ rfl).1
  have c6 := (N1.out.2 6 _ rfl).1
  have c7 := (N1.out.2 7 _ rfl).1
  have c8 := (N1.out.2 8 _ rfl).1
  have c9 := (N1.out.2 9 _ rfl).1
  have c10 := (N1.out.2 10 _ rfl).1
  have c11 := (N1.out.2 11 _ rfl).1
  have c12 := (N1.out.2 12 _ rfl).1
  have c13 := (N1.out.2 13 _ rfl).1
  have c14 := (N1.out.2 14 _ rfl).1
  have c15 := (N1.out.2 15 _ rfl).1
  have c16 := (N1.out.2 16 _ rfl).1
  go_wp2_with fail
  refine (HC.out _ B0.out).mono ?_
  rintro e w2 ⟨rfl, hb⟩
  have B2 := Lib.hid (bstep B0.out hb)
  have N2 := Lib.hid (N1.out.below hb)
  clear hb c0 c1 c2 c3 c4 c5 c6 c7 c8 c9 c10 c11 c12 c13 c14 c15 c16
  have c0 := (N2.out.2 0 _ rfl).1
  have c1 := (N2.out.2 1 _ rfl).1
  have c2 := (N2.out.2 2 _ rfl).1
  have c3 := (N2.out.2 3 _ rfl).1
  have c4 := (N2.out.2 4 _ rfl).1
  have c5 := (N2.out.2 5 _ rfl).1
  have c6 := (N2.out.2 6 _ rfl).1
  have c7 := (N2.out.2 7 _ rfl).1
  have c8 := (N2.out.2 8 _ rfl).1
  have c9 := (N2.out.2 9 _ rfl).1
  have c10 := (N2.out.2 10 _ rfl).1
  have c11 := (N2.out.2 11 _ rfl).1
  have c12 := (N2.out.2 12 _ rfl).1
  have c13 := (N2.out.2 13 _ rfl).1
  have c14 := (N2.out.2 14 _ rfl).1
  have c15 := (N2.out.2 15 _ rfl).1
  have c16 := (N2.out.2 16 _ rfl).1
  go_wp2_with fail
  refine (HH.out _).mono ?_
  rintro e w3 ⟨⟨v3, rfl, o3⟩, hb⟩
  have B3 := Lib.hid (bstep B2.out hb)
  have N3 := Lib.hid (N2.out.below hb)
  have O3 := Lib.hid o3
  have D3 := Lib.hid hb
  clear hb o3 c0 c1 c2 c3 c4 c5 c6 c7 c8 c9 c10 c11 c12 c13 c14 c15 c16
  have S2 : w.heap.size < w2.heap.size := N2.out.1
  have c13 := (N3.out.2 13 _ rfl).1
  go_wp2_with fail
  clear c13
  go_loopw [5, 19] (fun v iv wr => ∃ k : Nat, k ≤ p.fs.length ∧ By.Own wr w2.heap.size v (he p ++ fes (p.fs.take k)) ∧ iv = .int .i64 k ∧ Below w2.heap.size w2 wr) (fun _ iv _ => p.fs.length - (intOf iv).toNat)
  case atStart => exact ⟨0, Nat.zero_le _, by simpa [fes] using O3.out, rfl, D3.out⟩
  case round =>
    obtain ⟨k, hk, ho, rfl, hb⟩ := hrel
    rename World => wr
    have HO := Lib.hid ho
    have BR := Lib.hid (bstep B2.out hb)
    have NR := Lib.hid (N2.out.below hb)
    have SR := Lib.hid hb.size
    have DR := Lib.hid hb
    have HL := Lib.hid (show (he p ++ fes (p.fs.take k)).length ≤ 1024 by have := LF.out k; have := R.out; rw [List.length_append, he_len]; omega)
    clear ho hb
    by_cases c : k < p.fs.length
    · obtain ⟨b, off, rfl, hbl, hat⟩ := F3.out (by omega)
      obtain ⟨q0, q1⟩ := (hat k c).below hbl BR.out
      obtain ⟨va, vc, ev⟩ := (F4.out k c).form
      have HS := Lib.hid (F4.out k c)
      have hm : (p.fs.getD k f0).2.length ≤ 140737488351232 := (F4.out k c).1
      obtain ⟨x0, x1⟩ := XF.out k c
      obtain ⟨X, hX⟩ : ∃ X : Nat, (p.fs.getD k f0).1 = (X : Int) := ⟨(p.fs.getD k f0).1.toNat, by omega⟩
      have FE : Hid (he p ++ fes (p.fs.take (k + 1)) = he p ++ fes (p.fs.take k) ++ pt X 2 ++ pt ((p.fs.getD k f0).2.length + 4) 2 ++ (p.fs.getD k f0).2) := Lib.hid (by rw [fes_take_succ c, fe, hX]; simp)
      rw [hX] at q0 x0 x1
      rw [ev] at q1 HS
      clear hat hX ev
      generalize (p.fs.getD k f0).2 = bd at *
      have hkl : (k : Int) < (p.fs.length : Int) := by omega
      have m1 : (bd.length : Int) ≤ 140737488351232 := by omega
      have CA := Lib.hid (fun z (o : By.Own z w2.heap.size u5 (he p ++ fes (p.fs.take k))) (s : w2.heap.size ≤ z.heap.size) => appendNumber_g o s 2 X (by omega) (by omega) (by have := HL.out; omega))
      have CF := Lib.hid (fun z => fieldLength_c (X : Int) va bd.length vc hm z)
      go_upto_region 8 with fail
      have NB := Lib.hid (Blk.new' wr #[.int .i64 (X : Int), .slice va bd.length vc] 51)
      have O4 := Lib.hid (own_below HO.out (balloc (brefl wr) (.cells #[.int .i64 (X : Int), .slice va bd.length vc] 51)))
      have NO := Lib.hid (fun (e : Value.ownBlock u5 = some wr.heap.size) => (by have := own_lt HO.out e; omega : False))
      have D4 := Lib.hid (bstepB DR.out ((balloc (brefl wr) (.cells #[.int .i64 (X : Int), .slice va bd.length vc] 51)).mono SR.out))
      have Z4 : Hid (w2.heap.size ≤ (wr.alloc (.cells #[.int .i64 (X : Int), .slice va bd.length vc] 51)).heap.size) := Lib.hid (by have := SR.out; simp; omega)
      generalize wr.alloc (.cells #[.int .i64 (X : Int), .slice va bd.length vc] 51) = w4 at *
      have y0 := (NB.out.2 0 _ rfl).1
      go_wp2_with fail
      refine (CA.out _ O4.out Z4.out).mono ?_
      rintro e w5 ⟨v5, rfl, o5, b5, g5⟩
      have O5 := Lib.hid o5
      have D5 := Lib.hid (bstepB D4.out b5)
      have G5 := Lib.hid g5
      have NB5 := Lib.hid (g5.blk NB.out NO.out)
      have NO5 := Lib.hid (g5.not NB.out.1 NO.out)
      clear o5 b5 g5 y0 CA q0 q1 x0 x1 hm
      have y0 := (NB5.out.2 0 _ rfl).1
      have y1 := (NB5.out.2 1 _ rfl).1
      go_wp2_with fail
      refine (CF.out _).mono ?_
      rintro e w6 ⟨rfl, rfl⟩
      have O6 := Lib.hid (own_below O5.out (balloc (brefl w5) (.cells #[.int .i64 (X : Int), .slice va bd.length vc] 51)))
      have NB6 := Lib.hid (NB5.out.below (balloc (brefl w5) (.cells #[.int .i64 (X : Int), .slice va bd.length vc] 51)))
      have D6 := Lib.hid (bstepB D5.out ((balloc (brefl w5) (.cells #[.int .i64 (X : Int), .slice va bd.length vc] 51)).mono D5.out.size))
      generalize w5.alloc (.cells #[.int .i64 (X : Int), .slice va bd.length vc] 51) = w6 at *
      have CA := Lib.hid (appendNumber_g O6.out D6.out.size 2 (bd.length + 4) (by omega) (by omega) (by have := HL.out; rw [List.length_append, pt_len]; omega))
      obtain ⟨M, hM⟩ : ∃ M, M = bd.length + 4 := ⟨_, rfl⟩
      rw [← hM] at CA FE ⊢
      have m2 : (M : Int) ≤ 140737488351236 := by omega
      have m3 : (0 : Int) ≤ (M : Int) := by omega
      clear hM y0 y1 CF
      go_wp2_with fail
      refine CA.out.mono ?_
      rintro e w7 ⟨v7, rfl, o7, b7, g7⟩
      have O7 := Lib.hid o7
      have D7 := Lib.hid (bstepB D6.out b7)
      have NB7 := Lib.hid (g7.blk NB6.out NO5.out)
      clear o7 b7 g7 CA
      have y1 := (NB7.out.2 1 _ rfl).1
      obtain ⟨v8, w8, r8, o8, b8, g8⟩ := HS.out.appg (bstep B2.out D7.out) O7.out D7.out.size (by have := HL.out; rw [List.length_append, List.length_append, pt_len, pt_len]; have := HS.out.1; omega) 28
      have O8 := Lib.hid o8
      have D8 := Lib.hid (bstepB D7.out b8)
      clear o8 b8 g8
      go_wp2_with (first | (at_builtin; refine wpList_append_eq rfl _ _ 28 rfl _ _ v8 w8 rfl rfl r8 ?_))
      exact ⟨⟨k + 1, by omega, by rw [FE.out]; exact O8.out, rfl, D8.out⟩, by simp [intOf]; omega⟩
    · obtain rfl : k = p.fs.length := by omega
      have HT : Hid (p.fs.take p.fs.length = p.fs) := Lib.hid List.take_length
      have c14 := (NR.out.2 14 _ rfl).1
      rw [HT.out] at HO HL
      by_cases ca : p.auth = 0
      · have ea : (p.auth != 0) = false := by simpa using ca
        have EE : Hid (enc p = he p ++ fes p.fs ++ p.dig) := Lib.hid (by rw [enc, TE.out, if_pos ca]; simp)
        clear ca
        obtain ⟨v8, w8, r8, o8, b8, g8⟩ := HD.out.appg BR.out HO.out SR.out (by have := HL.out; have := DL.out; omega) 28
        have O8 := Lib.hid o8
        have D8 := Lib.hid (bstepB DR.out b8)
        clear o8 b8 g8
        have c16 := (NR.out.2 16 _ rfl).1
        go_wp2_with (first | (at_builtin; refine wpList_append_eq rfl _ _ 28 rfl _ _ v8 w8 rfl rfl r8 ?_))
        go_ret2
        exact ⟨⟨_, rfl, by rw [EE.out]; exact O8.out.le (by omega)⟩, bstep B2.out D8.out⟩
      · have ea : (p.auth != 0) = true := by simpa using ca
        have EE : Hid (enc p = he p ++ fes p.fs ++ pt p.key 4 ++ p.dig) := Lib.hid (by rw [enc, TE.out, if_neg ca]; simp)
        clear ca
        have CA := Lib.hid (appendNumber_g HO.out SR.out 4 p.key (by omega) (by omega) (by have := HL.out; omega))
        have c15 := (NR.out.2 15 _ rfl).1
        go_wp2_with fail
        refine CA.out.mono ?_
        rintro e w7 ⟨v7, rfl, o7, b7, g7⟩
        have O7 := Lib.hid o7
        have D7 := Lib.hid (bstepB DR.out b7)
        have NB7 := Lib.hid (N2.out.below (bstepB DR.out b7))
        clear o7 b7 g7 CA c14 c15
        have c16 := (NB7.out.2 16 _ rfl).1
        obtain ⟨v8, w8, r8, o8, b8, g8⟩ := HD.out.appg (bstep B2.out D7.out) O7.out D7.out.size (by have := HL.out; have := DL.out; rw [List.length_append, pt_len]; omega) 28
        have O8 := Lib.hid o8
        have D8 := Lib.hid (bstepB D7.out b8)
        clear o8 b8 g8
        go_wp2_with (first | (at_builtin; refine wpList_append_eq rfl _ _ 28 rfl _ _ v8 w8 rfl rfl r8 ?_))
        go_ret2
        exact ⟨⟨_, rfl, by rw [EE.out]; exact O8.out.le (by omega)⟩, bstep B2.out D8.out⟩
end Go.Proofs.Ytmjbnbjkpimjmaa.Wi
