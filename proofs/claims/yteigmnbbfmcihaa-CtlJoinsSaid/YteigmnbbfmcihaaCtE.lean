/-
  A frame's bytes: ctl.Encode.
  Conditions: none.
-/
import Derived.Test.YteigmnbbfmcihaaCtD
namespace Go.Proofs.Yteigmnbbfmcihaa.Ct
open Go.RowKit Go.ChangeShapes Go.WideShapes Go.ChangeAt Go.Joins By
set_option linter.unusedVariables false
set_option linter.unusedSimpArgs false

set_option maxRecDepth 100000 in
set_option maxHeartbeats 8000000 in
theorem Encode_no0 {f : Fr} {da : Option Addr} {dc : Nat} {w : World} (P : Sl w (.slice da f.dat.length dc) f.dat) (c : okFr f = false) : Calls Try.prog 9 #[FV f (.slice da f.dat.length dc)] w fun e w' => e = .returned (.tuple #[.slice none 0 0, .int .i64 3]) ∧ Below w.heap.size w w' := by
  have SL := Lib.hid P
  have hn := P.1
  clear P
  have IS := Lib.hid (fun z => isFrame_c f da dc hn z)
  rw [c] at IS
  clear c
  have B0 := Lib.hid (balloc (brefl w) (.cells #[.int .i64 f.ver, .bool f.resp, .bool f.er, .bool f.more, .int .i64 f.op, .int .i64 f.seq, .int .i64 f.st, .int .i64 f.asc, .int .i64 f.off, .slice da f.dat.length dc] 24))
  have N : Hid (Blk (w.alloc (.cells #[.int .i64 f.ver, .bool f.resp, .bool f.er, .bool f.more, .int .i64 f.op, .int .i64 f.seq, .int .i64 f.st, .int .i64 f.asc, .int .i64 f.off, .slice da f.dat.length dc] 24)) w.heap.size (fvs f (.slice da f.dat.length dc))) := Lib.hid (Blk.new' w #[.int .i64 f.ver, .bool f.resp, .bool f.er, .bool f.more, .int .i64 f.op, .int .i64 f.seq, .int .i64 f.st, .int .i64 f.asc, .int .i64 f.off, .slice da f.dat.length dc] 24)
  go_enter Try.func9, Try.ntmps9
  go_upto_region 1 with fail
  generalize w.alloc (.cells #[.int .i64 f.ver, .bool f.resp, .bool f.er, .bool f.more, .int .i64 f.op, .int .i64 f.seq, .int .i64 f.st, .int .i64 f.asc, .int .i64 f.off, .slice da f.dat.length dc] 24) = w1 at *
  have L1 : w.heap.size < w1.heap.size := N.out.1
  generalize hb0 : w.heap.size = b0 at *
  go_wp2_with (refine wpList_load_mid rfl 24 _ rfl _ 0 rfl (fvs f (.slice da f.dat.length dc)) _ N.out.range Try.underlying24 rfl (by rw [fvs_len]; exact info_fr) ?_)
  refine (IS.out _).mono ?_
  rintro e w2 ⟨rfl, hb⟩
  have B2 := Lib.hid (hb.mono (Nat.le_of_lt L1) |> B0.out.trans)
  have N2 := Lib.hid (N.out.below hb)
  have L2 := Nat.lt_of_lt_of_le L1 hb.size
  clear IS hb N B0
  go_wp2_with fail
  go_ret2
  subst hb0
  exact ⟨rfl, B2.out⟩
theorem pad_step {n j : Nat} (h : j ≤ pad n) : (j < pad n ↔ ¬ (12 + n + j) % 4 = 0) := by unfold pad at *; omega
theorem rep_succ (j : Nat) : List.replicate (j + 1) 0 = List.replicate j 0 ++ [0] := List.replicate_succ'
set_option maxRecDepth 100000 in
set_option maxHeartbeats 8000000 in
theorem Encode_yes0 {f : Fr} {da : Option Addr} {dc : Nat} {w : World} (P : Sl w (.slice da f.dat.length dc) f.dat) (c : okFr f = true) : Calls Try.prog 9 #[FV f (.slice da f.dat.length dc)] w fun e w' => (∃ v, e = .returned (.tuple #[v, .int .i64 0]) ∧ Own w' w.heap.size v (enc f)) ∧ Below w.heap.size w w' := by
  have SL := Lib.hid P
  have hn := P.1
  clear P
  have IS := Lib.hid (fun z => isFrame_c f da dc hn z)
  rw [c] at IS
  have AF := Lib.hid (fun z => appendFront_c f c da dc z)
  have hl := (okFr_cut c).2.2.2.2.2.2
  have FL := front_len f
  clear c
  have B0 := Lib.hid (balloc (brefl w) (.cells #[.int .i64 f.ver, .bool f.resp, .bool f.er, .bool f.more, .int .i64 f.op, .int .i64 f.seq, .int .i64 f.st, .int .i64 f.asc, .int .i64 f.off, .slice da f.dat.length dc] 24))
  have N : Hid (Blk (w.alloc (.cells #[.int .i64 f.ver, .bool f.resp, .bool f.er, .bool f.more, .int .i64 f.op, .int .i64 f.seq, .int .i64 f.st, .int .i64 f.asc, .int .i64 f.off, .slice da f.dat.length dc] 24)) w.heap.size (fvs f (.slice da f.dat.length dc))) := Lib.hid (Blk.new' w #[.int .i64 f.ver, .bool f.resp, .bool f.er, .bool f.more, .int .i64 f.op, .int .i64 f.seq, .int .i64 f.st, .int .i64 f.asc, .int .i64 f.off, .slice da f.dat.length dc] 24)
  go_enter Try.func9, Try.ntmps9
  go_upto_region 1 with fail
  generalize w.alloc (.cells #[.int .i64 f.ver, .bool f.resp, .bool f.er, .bool f.more, .int .i64 f.op, .int .i64 f.seq, .int .i64 f.st, .int .i64 f.asc, .int .i64 f.off, .slice da f.dat.length dc] 24) = w1 at *
  have L1 : w.heap.size < w1.heap.size := N.out.1
  generalize hb0 : w.heap.size = b0 at *
  go_wp2_with (refine wpList_load_mid rfl 24 _ rfl _ 0 rfl (fvs f (.slice da f.dat.length dc)) _ N.out.range Try.underlying24 rfl (by rw [fvs_len]; exact info_fr) ?_)
  refine (IS.out _).mono ?_
  rintro e w2 ⟨rfl, hb⟩
  have B2 := Lib.hid (hb.mono (Nat.le_of_lt L1) |> B0.out.trans)
  have N2 := Lib.hid (N.out.below hb)
  have L2 := Nat.lt_of_lt_of_le L1 hb.size
  clear IS hb N B0
  go_upto_region 3 with fail
  go_wp2_with (refine wpList_load_mid rfl 24 _ rfl _ 0 rfl (fvs f (.slice da f.dat.length dc)) _ N2.out.range Try.underlying24 rfl (by rw [fvs_len]; exact info_fr) ?_)
  refine (AF.out _).mono ?_
  rintro e w3 ⟨⟨v3, rfl, o3⟩, hb⟩
  have B3 := Lib.hid (B2.out.trans (hb.mono (Nat.le_of_lt L2)))
  have N3 := N2.out.below hb
  have L3 := Nat.lt_of_lt_of_le L2 hb.size
  have c9 : w3.cell? ⟨b0, 9, none⟩ = some (.slice da f.dat.length dc) := (N3.2 9 _ rfl).1
  have o3 := o3.le (Nat.le_of_lt L2)
  obtain ⟨v4, w4, hr, o4, b4, g4⟩ := SL.out.appg (hb0 ▸ B3.out) o3 (Nat.le_of_lt L3) (by rw [FL]; omega) 22
  have B4 := Lib.hid (B3.out.trans b4)
  have O4 := Lib.hid o4
  have L4 := Nat.lt_of_lt_of_le L3 b4.size
  have HR := Lib.hid hr
  clear AF B2 N2 hb N3 o3 hr o4 b4 g4
  go_upto_region 5 with (first | (at_builtin; refine wpList_append_eq rfl _ _ 22 rfl _ _ v4 w4 rfl rfl HR.out ?_))
  clear HR c9
  go_loopw [4] (fun v wr => ∃ j : Nat, j ≤ pad f.dat.length ∧ Own wr b0 v (front f ++ f.dat ++ List.replicate j 0) ∧ Below b0 w wr ∧ b0 < wr.heap.size) (fun v _ => 16 + pad f.dat.length + f.dat.length - sl v)
  case atStart => exact ⟨0, by omega, by simpa using O4.out, B4.out, L4⟩
  case round =>
    obtain ⟨j, hj, ho, hb, hs⟩ := hrel
    rename World => wr
    have HO := Lib.hid ho
    have HB := Lib.hid hb
    obtain ⟨a, cp, rfl⟩ := own_form ho
    have el : (front f ++ f.dat ++ List.replicate j 0).length = 12 + f.dat.length + j := by simp [FL]; omega
    rw [el] at HO
    simp only [el]
    have hp : pad f.dat.length < 4 := by unfold pad; omega
    have hq := pad_step hj
    obtain ⟨L, hL⟩ : ∃ L, L = 12 + f.dat.length + j := ⟨_, rfl⟩
    rw [← hL] at hq HO
    rw [← hL]
    have q : (L : Int).tmod 4 = (L : Int) % 4 := Int.tmod_eq_emod_of_nonneg (by omega)
    have l0 : (0 : Int) ≤ (L : Int) := by omega
    have l1 : (L : Int) ≤ 1024 := by omega
    clear ho hb el O4 B4
    by_cases cj : j < pad f.dat.length
    · have e1 : ((L : Int) % 4 != 0) = true := by have := hq.1 cj; simp; omega
      obtain ⟨v5, w5, hr, o5, b5, g5⟩ := app1g HO.out 0 (Nat.le_of_lt hs) (by simp [FL]; omega) 22
      have OJ : Hid (Own w5 b0 v5 (front f ++ f.dat ++ List.replicate (j + 1) 0)) := Lib.hid (by rw [rep_succ, ← List.append_assoc]; exact o5)
      have BJ := Lib.hid (HB.out.trans b5)
      have hs5 := Nat.lt_of_lt_of_le hs b5.size
      clear o5 b5 g5
      go_wp2_with (first | (at_builtin; refine wpList_append_eq rfl _ _ 22 rfl _ _ v5 w5 rfl rfl hr ?_))
      refine ⟨⟨j + 1, by omega, OJ.out, BJ.out, hs5⟩, ?_⟩
      obtain ⟨a5, c5, e5⟩ := own_form OJ.out
      rw [e5]
      simp [sl, FL]
      omega
    · have e1 : ((L : Int) % 4 != 0) = false := by
        have : L % 4 = 0 := Decidable.byContradiction fun x => cj (hq.2 x)
        simp; omega
      obtain rfl : j = pad f.dat.length := by omega
      go_wp2_with fail
      go_ret2
      subst hb0 hL
      exact ⟨⟨_, rfl, HO.out⟩, HB.out⟩
theorem Encode_no {f : Fr} {dv : Value} {w : World} (P : Fm w f dv) (c : okFr f = false) : Calls Try.prog 9 #[FV f dv] w fun e w' => e = .returned (.tuple #[.slice none 0 0, .int .i64 3]) ∧ Below w.heap.size w w' := by
  obtain ⟨da, dc, rfl⟩ := P.form
  exact Encode_no0 P c
theorem Encode_yes {f : Fr} {dv : Value} {w : World} (P : Fm w f dv) (c : okFr f = true) : Calls Try.prog 9 #[FV f dv] w fun e w' => (∃ v, e = .returned (.tuple #[v, .int .i64 0]) ∧ Own w' w.heap.size v (enc f)) ∧ Below w.heap.size w w' := by
  obtain ⟨da, dc, rfl⟩ := P.form
  exact Encode_yes0 P c
end Go.Proofs.Yteigmnbbfmcihaa.Ct
