/-
  The contract of sundialref09.Encode.
  Conditions: none.
-/
import Derived.Test.YtmjbnbjkpimjmaaWiF
import Derived.Test.YtmjbnbjkpimjmaaWiJ
import Derived.Test.YtmjbnbjkpimjmaaWjB
namespace Go.Proofs.Ytmjbnbjkpimjmaa.Wi
open Go.RowKit Go.ChangeShapes Go.WideShapes Go.ChangeAt Go.Joins By
set_option linter.unusedVariables false
set_option linter.unusedSimpArgs false

set_option maxRecDepth 100000 in
set_option maxHeartbeats 8000000 in
theorem rEncode_no {w : World} {p : Pk} {fv dv : Value} {V : Nat → Value} (P : Pm w p fv dv V) (h : rt p = false) : Calls Try.prog 10 #[PV p fv dv] w fun e w' => e = .returned (.tuple #[.slice none 0 0, .int .i64 3]) ∧ Below w.heap.size w w' := by
  have HC := Lib.hid (fun z (k : Below w.heap.size w z) => rCheck_c (P.below k))
  rw [chk_no h] at HC
  obtain ⟨F, D, K⟩ := P
  obtain ⟨fa, fc, rfl⟩ := F.form
  obtain ⟨da, dc, rfl⟩ := D.form
  clear F D K h
  simp only [PV] at HC ⊢
  go_enter Try.func10, Try.ntmps10
  go_wp2_with fail
  refine (HC.out _ (balloc (brefl w) _)).mono ?_
  rintro e w1 ⟨rfl, hb⟩
  have B1 := Lib.hid (bstep (balloc (brefl w) _) hb)
  clear hb
  go_wp2_with fail
  go_ret2
  exact ⟨rfl, B1.out⟩

theorem he_puts (p : Pk) : he p = hb p ++ pt p.rd 4 ++ pt p.rs 4 ++ pt p.rid 4 ++ pt p.tref 8 ++ pt p.torg 8 ++ pt p.trec 8 ++ pt p.txm 8 := by simp [he]

set_option maxRecDepth 100000 in
set_option maxHeartbeats 8000000 in
theorem rEncode_yes {w : World} {p : Pk} {fv dv : Value} {V : Nat → Value} (P : Pm w p fv dv V) (h : rt p = true) : Calls Try.prog 10 #[PV p fv dv] w fun e w' => (∃ v, e = .returned (.tuple #[v, .int .i64 0]) ∧ Own w' w.heap.size v (enc p)) ∧ Below w.heap.size w w' := by
  have HC := Lib.hid (fun z (k : Below w.heap.size w z) => rCheck_c (P.below k))
  rw [chk_yes h] at HC
  obtain ⟨rh, n, rn, r8, rf, rtot⟩ := rt_cut h
  obtain ⟨F, D, K⟩ := P
  have HD := Lib.hid D
  have FX := Lib.hid F
  have XF := Lib.hid (fun k (hk : k < p.fs.length) => okF_at rf hk)
  have LF := Lib.hid (fun k => fes_take_len n p.fs k)
  have TE := Lib.hid (te_eq rn)
  have R := Lib.hid rtot
  have DL := Lib.hid (dig_len rn)
  have kk := K.2.2.2.2.2.2.2.1
  have KK := Lib.hid K
  obtain ⟨a0, a1, a2, a3, a4, a5⟩ := okH_cut rh
  obtain ⟨x0, hx0⟩ : ∃ x : Nat, x = (p.leap * 64 + p.ver * 8 + p.mode).toNat := ⟨_, rfl⟩
  obtain ⟨x1, hx1⟩ : ∃ x : Nat, x = p.strat.toNat := ⟨_, rfl⟩
  obtain ⟨x2, hx2⟩ : ∃ x : Nat, x = (p.poll % 256).toNat := ⟨_, rfl⟩
  obtain ⟨x3, hx3⟩ : ∃ x : Nat, x = (p.prec % 256).toNat := ⟨_, rfl⟩
  have W0 : IntKind.u8.wrap (p.leap * 64 + p.ver * 8 + p.mode) = (x0 : Int) := by rw [u8_wrap]; omega
  have W1 : IntKind.u8.wrap p.strat = (x1 : Int) := by rw [u8_wrap]; omega
  have W2 : IntKind.u8.wrap p.poll = (x2 : Int) := by rw [u8_wrap]; omega
  have W3 : IntKind.u8.wrap p.prec = (x3 : Int) := by rw [u8_wrap]; omega
  have HE : Hid (he p = [x0, x1, x2, x3] ++ pt p.rd 4 ++ pt p.rs 4 ++ pt p.rid 4 ++ pt p.tref 8 ++ pt p.torg 8 ++ pt p.trec 8 ++ pt p.txm 8) := Lib.hid (by rw [he_puts, hb, hx0, hx1, hx2, hx3])
  clear hx0 hx1 hx2 hx3
  obtain ⟨fa, fc, rfl⟩ := F.form
  obtain ⟨da, dc, rfl⟩ := D.form
  obtain ⟨fa', fc', ef, g1, g2, g3, g4⟩ := F
  obtain ⟨rfl, rfl⟩ : fa = fa' ∧ fc = fc' := by simpa using ef
  have F3 := Lib.hid g3
  have F4 := Lib.hid g4
  have k0 : (0 : Int) ≤ (p.key : Int) := by omega
  have k1 : (p.key : Int) < 4294967296 := by omega
  have l0 : (0 : Int) ≤ (p.fs.length : Int) := by omega
  clear g3 g4 ef K h rh rn rf rtot kk D
  simp only [PV] at HC ⊢
  go_enter Try.func10, Try.ntmps10
  go_upto_region 1 with fail
  have N := Blk.new' w #[.int .i64 p.leap, .int .i64 p.ver, .int .i64 p.mode, .int .i64 p.strat, .int .i64 p.poll, .int .i64 p.prec, .int .u32 (p.rd : Nat), .int .u32 (p.rs : Nat), .int .u32 (p.rid : Nat), .int .u64 (p.tref : Nat), .int .u64 (p.torg : Nat), .int .u64 (p.trec : Nat), .int .u64 (p.txm : Nat), .slice fa p.fs.length fc, .int .i64 p.auth, .int .u32 (p.key : Nat), .slice da p.dig.length dc] 30
  have B0 := Lib.hid (balloc (brefl w) (.cells #[.int .i64 p.leap, .int .i64 p.ver, .int .i64 p.mode, .int .i64 p.strat, .int .i64 p.poll, .int .i64 p.prec, .int .u32 (p.rd : Nat), .int .u32 (p.rs : Nat), .int .u32 (p.rid : Nat), .int .u64 (p.tref : Nat), .int .u64 (p.torg : Nat), .int .u64 (p.trec : Nat), .int .u64 (p.txm : Nat), .slice fa p.fs.length fc, .int .i64 p.auth, .int .u32 (p.key : Nat), .slice da p.dig.length dc] 30))
  generalize w.alloc (.cells #[.int .i64 p.leap, .int .i64 p.ver, .int .i64 p.mode, .int .i64 p.strat, .int .i64 p.poll, .int .i64 p.prec, .int .u32 (p.rd : Nat), .int .u32 (p.rs : Nat), .int .u32 (p.rid : Nat), .int .u64 (p.tref : Nat), .int .u64 (p.torg : Nat), .int .u64 (p.trec : Nat), .int .u64 (p.txm : Nat), .slice fa p.fs.length fc, .int .i64 p.auth, .int .u32 (p.key : Nat), .slice da p.dig.length dc] 30) = w1 at *
  have N1 := Lib.hid N
  clear N
  have c0 := (N1.out.2 0 _ rfl).1
  have c1 := (N1.out.2 1 _ rfl).1
  have c2 := (N1.out.2 2 _ rfl).1
  have c3 := (N1.out.2 3 _ rfl).1
  have c4 := (N1.out.2 4 _ rfl).1
  have c5 := (N1.out.2 5 _ rfl).1
  have c6 := (N1.out.2 6 _ rfl).1
  have c7 := (N1.out.2 7 _ rfl).1
  have c8 := (N1.out.2 8 _ rfl).1
  have c9 := (N1.out.2 9 _ rfl).1
  have c10 := (N1.out.2 10 _ rfl).1
  have c11 := (N1.out.2 11 _ rfl).1
  have c12 := (N1.out.2 12 _ rfl).1
  have c13 := (N1.out.2 13 _ rfl).1
  have c14 := (N1.out.2 14 _ rfl).1
  have c15 := (N1.out.2 15 _ rfl).1
  have c16 := (N1.out.2 16 _ rfl).1
  go_wp2_with fail
  refine (HC.out _ B0.out).mono ?_
  rintro e w2 ⟨rfl, hb⟩
  have B2 := Lib.hid (bstep B0.out hb)
  have N2 := Lib.hid (N1.out.below hb)
  clear hb c0 c1 c2 c3 c4 c5 c6 c7 c8 c9 c10 c11 c12 c13 c14 c15 c16
  have c0 := (N2.out.2 0 _ rfl).1
  have c1 := (N2.out.2 1 _ rfl).1
  have c2 := (N2.out.2 2 _ rfl).1
  have c3 := (N2.out.2 3 _ rfl).1
  have c4 := (N2.out.2 4 _ rfl).1
  have c5 := (N2.out.2 5 _ rfl).1
  have c6 := (N2.out.2 6 _ rfl).1
  have c7 := (N2.out.2 7 _ rfl).1
  have c8 := (N2.out.2 8 _ rfl).1
  have c9 := (N2.out.2 9 _ rfl).1
  have c10 := (N2.out.2 10 _ rfl).1
  have c11 := (N2.out.2 11 _ rfl).1
  have c12 := (N2.out.2 12 _ rfl).1
  have c13 := (N2.out.2 13 _ rfl).1
  have c14 := (N2.out.2 14 _ rfl).1
  have c15 := (N2.out.2 15 _ rfl).1
  have c16 := (N2.out.2 16 _ rfl).1
  go_upto_region 4 with fail
  clear c0 c1 c2 c3 c4 c5 c6 c7 c8 c9 c10 c11 c12 c13 c14 c15 c16
  have NH := Blk.new' w2 #[.int .i64 p.leap, .int .i64 p.ver, .int .i64 p.mode, .int .i64 p.strat, .int .i64 p.poll, .int .i64 p.prec, .int .u32 (p.rd : Nat), .int .u32 (p.rs : Nat), .int .u32 (p.rid : Nat), .int .u64 (p.tref : Nat), .int .u64 (p.torg : Nat), .int .u64 (p.trec : Nat), .int .u64 (p.txm : Nat)] 25
  have BH := Lib.hid (balloc (brefl w2) (.cells #[.int .i64 p.leap, .int .i64 p.ver, .int .i64 p.mode, .int .i64 p.strat, .int .i64 p.poll, .int .i64 p.prec, .int .u32 (p.rd : Nat), .int .u32 (p.rs : Nat), .int .u32 (p.rid : Nat), .int .u64 (p.tref : Nat), .int .u64 (p.torg : Nat), .int .u64 (p.trec : Nat), .int .u64 (p.txm : Nat)] 25))
  generalize w2.alloc (.cells #[.int .i64 p.leap, .int .i64 p.ver, .int .i64 p.mode, .int .i64 p.strat, .int .i64 p.poll, .int .i64 p.prec, .int .u32 (p.rd : Nat), .int .u32 (p.rs : Nat), .int .u32 (p.rid : Nat), .int .u64 (p.tref : Nat), .int .u64 (p.torg : Nat), .int .u64 (p.trec : Nat), .int .u64 (p.txm : Nat)] 25) = w3 at *
  have NP := Lib.hid (N2.out.below BH.out)
  have S2 : w.heap.size < w3.heap.size := NP.out.1
  have S3 : w2.heap.size < w3.heap.size := NH.1
  have B3 := Lib.hid (bstep B2.out BH.out)
  obtain ⟨v0, w4, hr, o', b', s'⟩ := appLg (Own.nil w3 w3.heap.size) [x0, x1, x2, x3] (by simp) (Nat.le_refl _) (by simp) 28
  simp only [cl, List.map_cons, List.map_nil, List.length_cons, List.length_nil, Nat.reduceAdd, List.nil_append] at hr o'
  have c0 := (NH.2 0 _ rfl).1
  have c1 := (NH.2 1 _ rfl).1
  have c2 := (NH.2 2 _ rfl).1
  have c3 := (NH.2 3 _ rfl).1
  have c4 := (NH.2 4 _ rfl).1
  have c5 := (NH.2 5 _ rfl).1
  have NH4 := Lib.hid (NH.below b')
  have O4 := Lib.hid o'
  have D4 := Lib.hid b'
  clear b' s' o' NH
  go_upto_region 6 with (first | (at_builtin; refine wpList_append_eq rfl _ _ 28 rfl _ _ v0 w4 rfl rfl hr ?_))
  clear hr c0 c1 c2 c3 c4 c5
  generalize hL0 : [x0, x1, x2, x3] = L0 at *
  have LL : L0.length = 4 := by rw [← hL0]; rfl
  clear hL0
  have z6 : w4.cell? ⟨w2.heap.size, 6, none⟩ = some (.int .u32 (p.rd : Nat)) := (NH4.out.2 6 _ rfl).1
  have u0 : (0 : Int) ≤ (p.rd : Int) := by omega
  have u1 : (p.rd : Int) < 4294967296 := by have := KK.out.1; omega
  have CA := Lib.hid (put_g O4.out D4.out.size 4 p.rd (by omega) (by omega) (by simp only [List.length_append, pt_len, LL]; omega))
  go_wp2_with fail
  refine CA.out.mono ?_
  rintro e w5 ⟨v5, rfl, o', b', g'⟩
  have O5 := Lib.hid o'
  have D5 := Lib.hid (bstepB D4.out b')
  have NH5 := Lib.hid (NH4.out.belowB S3 b')
  clear o' b' g' CA z6 u0 u1
  have z7 : w5.cell? ⟨w2.heap.size, 7, none⟩ = some (.int .u32 (p.rs : Nat)) := (NH5.out.2 7 _ rfl).1
  have u0 : (0 : Int) ≤ (p.rs : Int) := by omega
  have u1 : (p.rs : Int) < 4294967296 := by have := KK.out.2.1; omega
  have CA := Lib.hid (put_g O5.out D5.out.size 4 p.rs (by omega) (by omega) (by simp only [List.length_append, pt_len, LL]; omega))
  go_wp2_with fail
  refine CA.out.mono ?_
  rintro e w6 ⟨v6, rfl, o', b', g'⟩
  have O6 := Lib.hid o'
  have D6 := Lib.hid (bstepB D5.out b')
  have NH6 := Lib.hid (NH5.out.belowB S3 b')
  clear o' b' g' CA z7 u0 u1
  have z8 : w6.cell? ⟨w2.heap.size, 8, none⟩ = some (.int .u32 (p.rid : Nat)) := (NH6.out.2 8 _ rfl).1
  have u0 : (0 : Int) ≤ (p.rid : Int) := by omega
  have u1 : (p.rid : Int) < 4294967296 := by have := KK.out.2.2.1; omega
  have CA := Lib.hid (put_g O6.out D6.out.size 4 p.rid (by omega) (by omega) (by simp only [List.length_append, pt_len, LL]; omega))
  go_wp2_with fail
  refine CA.out.mono ?_
  rintro e w7 ⟨v7, rfl, o', b', g'⟩
  have O7 := Lib.hid o'
  have D7 := Lib.hid (bstepB D6.out b')
  have NH7 := Lib.hid (NH6.out.belowB S3 b')
  clear o' b' g' CA z8 u0 u1
  have z9 : w7.cell? ⟨w2.heap.size, 9, none⟩ = some (.int .u64 (p.tref : Nat)) := (NH7.out.2 9 _ rfl).1
  have u0 : (0 : Int) ≤ (p.tref : Int) := by omega
  have u1 : (p.tref : Int) < 18446744073709551616 := by have := KK.out.2.2.2.1; omega
  have CA := Lib.hid (put_g O7.out D7.out.size 8 p.tref (by omega) (by omega) (by simp only [List.length_append, pt_len, LL]; omega))
  go_wp2_with fail
  refine CA.out.mono ?_
  rintro e w8 ⟨v8, rfl, o', b', g'⟩
  have O8 := Lib.hid o'
  have D8 := Lib.hid (bstepB D7.out b')
  have NH8 := Lib.hid (NH7.out.belowB S3 b')
  clear o' b' g' CA z9 u0 u1
  have z10 : w8.cell? ⟨w2.heap.size, 10, none⟩ = some (.int .u64 (p.torg : Nat)) := (NH8.out.2 10 _ rfl).1
  have u0 : (0 : Int) ≤ (p.torg : Int) := by omega
  have u1 : (p.torg : Int) < 18446744073709551616 := by have := KK.out.2.2.2.2.1; omega
  have CA := Lib.hid (put_g O8.out D8.out.size 8 p.torg (by omega) (by omega) (by simp only [List.length_append, pt_len, LL]; omega))
  go_wp2_with fail
  refine CA.out.mono ?_
  rintro e w9 ⟨v9, rfl, o', b', g'⟩
  have O9 := Lib.hid o'
  have D9 := Lib.hid (bstepB D8.out b')
  have NH9 := Lib.hid (NH8.out.belowB S3 b')
  clear o' b' g' CA z10 u0 u1
  have z11 : w9.cell? ⟨w2.heap.size, 11, none⟩ = some (.int .u64 (p.trec : Nat)) := (NH9.out.2 11 _ rfl).1
  have u0 : (0 : Int) ≤ (p.trec : Int) := by omega
  have u1 : (p.trec : Int) < 18446744073709551616 := by have := KK.out.2.2.2.2.2.1; omega
  have CA := Lib.hid (put_g O9.out D9.out.size 8 p.trec (by omega) (by omega) (by simp only [List.length_append, pt_len, LL]; omega))
  go_wp2_with fail
  refine CA.out.mono ?_
  rintro e w10 ⟨v10, rfl, o', b', g'⟩
  have O10 := Lib.hid o'
  have D10 := Lib.hid (bstepB D9.out b')
  have NH10 := Lib.hid (NH9.out.belowB S3 b')
  clear o' b' g' CA z11 u0 u1
  have z12 : w10.cell? ⟨w2.heap.size, 12, none⟩ = some (.int .u64 (p.txm : Nat)) := (NH10.out.2 12 _ rfl).1
  have u0 : (0 : Int) ≤ (p.txm : Int) := by omega
  have u1 : (p.txm : Int) < 18446744073709551616 := by have := KK.out.2.2.2.2.2.2.1; omega
  have CA := Lib.hid (put_g O10.out D10.out.size 8 p.txm (by omega) (by omega) (by simp only [List.length_append, pt_len, LL]; omega))
  go_wp2_with fail
  refine CA.out.mono ?_
  rintro e w11 ⟨v11, rfl, o', b', g'⟩
  have O11 := Lib.hid o'
  have D11 := Lib.hid (bstepB D10.out b')
  have NH11 := Lib.hid (NH10.out.belowB S3 b')
  clear o' b' g' CA z12 u0 u1
  rw [← HE.out] at O11
  have NP11 := Lib.hid (NP.out.belowB S2 D11.out)
  go_wp2_with fail
  go_loopw [5, 6] (fun v iv wr => ∃ k : Nat, k ≤ p.fs.length ∧ By.Own wr w3.heap.size v (he p ++ fes (p.fs.take k)) ∧ iv = .int .i64 k ∧ Below w3.heap.size w3 wr) (fun _ iv _ => p.fs.length - (intOf iv).toNat)
  case atStart => exact ⟨0, Nat.zero_le _, by simpa [fes] using O11.out, rfl, D11.out⟩
  case round =>
    obtain ⟨k, hk, ho, rfl, hb⟩ := hrel
    rename World => wr
    have HO := Lib.hid ho
    have BR := Lib.hid (bstep B3.out hb)
    have NR := Lib.hid (NP.out.belowB S2 hb)
    have SR := Lib.hid hb.size
    have DR := Lib.hid hb
    have HL := Lib.hid (show (he p ++ fes (p.fs.take k)).length ≤ 1024 by have := LF.out k; have := R.out; rw [List.length_append, he_len]; omega)
    clear ho hb
    have c13 := (NR.out.2 13 _ rfl).1
    by_cases c : k < p.fs.length
    · obtain ⟨b, off, rfl, hbl, hat⟩ := F3.out (by omega)
      obtain ⟨q0, q1⟩ := (hat k c).below hbl BR.out
      obtain ⟨va, vc, ev⟩ := (F4.out k c).form
      have HS := Lib.hid (F4.out k c)
      have hm : (p.fs.getD k f0).2.length ≤ 140737488351232 := (F4.out k c).1
      obtain ⟨x0, x1⟩ := XF.out k c
      obtain ⟨X, hX⟩ : ∃ X : Nat, (p.fs.getD k f0).1 = (X : Int) := ⟨(p.fs.getD k f0).1.toNat, by omega⟩
      have FE : Hid (he p ++ fes (p.fs.take (k + 1)) = he p ++ fes (p.fs.take k) ++ pt X 2 ++ pt ((p.fs.getD k f0).2.length + 4) 2 ++ (p.fs.getD k f0).2) := Lib.hid (by rw [fes_take_succ c, fe, hX]; simp)
      rw [hX] at q0 x0 x1
      rw [ev] at q1 HS
      clear hat hX ev
      generalize (p.fs.getD k f0).2 = bd at *
      have hkl : (k : Int) < (p.fs.length : Int) := by omega
      have m1 : (bd.length : Int) ≤ 140737488351232 := by omega
      have CA := Lib.hid (fun z (o : By.Own z w3.heap.size u5 (he p ++ fes (p.fs.take k))) (s : w3.heap.size ≤ z.heap.size) => put_g o s 2 X (by omega) (by omega) (by have := HL.out; omega))
      go_upto_region 17 with fail
      have NB := Lib.hid (Blk.new' wr #[.int .i64 (X : Int), .slice va bd.length vc] 51)
      have O4 := Lib.hid (own_below HO.out (balloc (brefl wr) (.cells #[.int .i64 (X : Int), .slice va bd.length vc] 51)))
      have NO := Lib.hid (fun (e : Value.ownBlock u5 = some wr.heap.size) => (by have := own_lt HO.out e; omega : False))
      have D4 := Lib.hid (bstepB DR.out ((balloc (brefl wr) (.cells #[.int .i64 (X : Int), .slice va bd.length vc] 51)).mono SR.out))
      have Z4 : Hid (w3.heap.size ≤ (wr.alloc (.cells #[.int .i64 (X : Int), .slice va bd.length vc] 51)).heap.size) := Lib.hid (by have := SR.out; simp; omega)
      generalize wr.alloc (.cells #[.int .i64 (X : Int), .slice va bd.length vc] 51) = w4 at *
      have y0 := (NB.out.2 0 _ rfl).1
      go_wp2_with fail
      refine (CA.out _ O4.out Z4.out).mono ?_
      rintro e w5 ⟨v5, rfl, o5, b5, g5⟩
      have O5 := Lib.hid o5
      have D5 := Lib.hid (bstepB D4.out b5)
      have NB5 := Lib.hid (g5.blk NB.out NO.out)
      have NO5 := Lib.hid (g5.not NB.out.1 NO.out)
      clear o5 b5 g5 y0 CA q0 q1 x0 x1 hm c13
      have y1 := (NB5.out.2 1 _ rfl).1
      have CA := Lib.hid (put_g O5.out D5.out.size 2 (bd.length + 4) (by omega) (by omega) (by have := HL.out; rw [List.length_append, pt_len]; omega))
      obtain ⟨M, hM⟩ : ∃ M, M = bd.length + 4 := ⟨_, rfl⟩
      rw [← hM] at CA FE
      have m4 : (bd.length : Int) + 4 = (M : Int) := by omega
      have m2 : (M : Int) ≤ 140737488351236 := by omega
      have m3 : (0 : Int) ≤ (M : Int) := by omega
      clear hM
      go_wp2_with fail
      refine CA.out.mono ?_
      rintro e w7 ⟨v7, rfl, o7, b7, g7⟩
      have O7 := Lib.hid o7
      have D7 := Lib.hid (bstepB D5.out b7)
      have NB7 := Lib.hid (g7.blk NB5.out NO5.out)
      clear o7 b7 g7 CA y1
      have y1 := (NB7.out.2 1 _ rfl).1
      obtain ⟨v8, w8, r8, o8, b8, g8⟩ := HS.out.appg (bstep B3.out D7.out) O7.out D7.out.size (by have := HL.out; rw [List.length_append, List.length_append, pt_len, pt_len]; have := HS.out.1; omega) 28
      have O8 := Lib.hid o8
      have D8 := Lib.hid (bstepB D7.out b8)
      clear o8 b8 g8
      go_wp2_with (first | (at_builtin; refine wpList_append_eq rfl _ _ 28 rfl _ _ v8 w8 rfl rfl r8 ?_))
      exact ⟨⟨k + 1, by omega, by rw [FE.out]; exact O8.out, rfl, D8.out⟩, by simp [intOf]; omega⟩
    · obtain rfl : k = p.fs.length := by omega
      have HT : Hid (p.fs.take p.fs.length = p.fs) := Lib.hid List.take_length
      have c14 := (NR.out.2 14 _ rfl).1
      rw [HT.out] at HO HL
      by_cases ca : p.auth = 0
      · have ea : (p.auth != 0) = false := by simpa using ca
        have EE : Hid (enc p = he p ++ fes p.fs) := Lib.hid (by rw [enc]; unfold te; rw [if_pos ca]; simp)
        clear ca
        go_wp2_with fail
        go_ret2
        exact ⟨⟨_, rfl, by rw [EE.out]; exact HO.out.le (by omega)⟩, BR.out⟩
      · have ea : (p.auth != 0) = true := by simpa using ca
        have EE : Hid (enc p = he p ++ fes p.fs ++ pt p.key 4 ++ p.dig) := Lib.hid (by rw [enc, TE.out, if_neg ca]; simp)
        clear ca
        have CA := Lib.hid (put_g HO.out SR.out 4 p.key (by omega) (by omega) (by have := HL.out; omega))
        have c15 := (NR.out.2 15 _ rfl).1
        go_wp2_with fail
        refine CA.out.mono ?_
        rintro e w7 ⟨v7, rfl, o7, b7, g7⟩
        have O7 := Lib.hid o7
        have D7 := Lib.hid (bstepB DR.out b7)
        have NB7 := Lib.hid (NP.out.belowB S2 (bstepB DR.out b7))
        clear o7 b7 g7 CA c14 c15 c13
        have c16 := (NB7.out.2 16 _ rfl).1
        obtain ⟨v8, w8, r8, o8, b8, g8⟩ := HD.out.appg (bstep B3.out D7.out) O7.out D7.out.size (by have := HL.out; have := DL.out; rw [List.length_append, pt_len]; omega) 28
        have O8 := Lib.hid o8
        have D8 := Lib.hid (bstepB D7.out b8)
        clear o8 b8 g8
        go_wp2_with (first | (at_builtin; refine wpList_append_eq rfl _ _ 28 rfl _ _ v8 w8 rfl rfl r8 ?_))
        go_ret2
        exact ⟨⟨_, rfl, by rw [EE.out]; exact O8.out.le (by omega)⟩, bstep B3.out D8.out⟩
end Go.Proofs.Ytmjbnbjkpimjmaa.Wi
