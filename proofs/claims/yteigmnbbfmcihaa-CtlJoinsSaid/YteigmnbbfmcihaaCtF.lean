/-
  A frame's bytes: the document's Encode.
  Conditions: none.
-/
import Derived.Deep.RegionHeld3
import Derived.Test.YteigmnbbfmcihaaCtE
namespace Go.Proofs.Yteigmnbbfmcihaa.Ct
open Go.RowKit Go.ChangeShapes Go.WideShapes Go.ChangeAt Go.Joins By
set_option linter.unusedVariables false
set_option linter.unusedSimpArgs false

set_option maxRecDepth 100000 in
set_option maxHeartbeats 8000000 in
theorem rEncode_no0 {f : Fr} {da : Option Addr} {dc : Nat} {w : World} (P : Sl w (.slice da f.dat.length dc) f.dat) (c : okFr f = false) : Calls Try.prog 10 #[FV f (.slice da f.dat.length dc)] w fun e w' => e = .returned (.tuple #[.slice none 0 0, .int .i64 3]) ∧ Below w.heap.size w w' := by
  have SL := Lib.hid P
  have hn := P.1
  clear P
  have IS := Lib.hid (fun z => Is_c f da dc hn z)
  rw [c] at IS
  clear c
  have B0 := Lib.hid (balloc (brefl w) (.cells #[.int .i64 f.ver, .bool f.resp, .bool f.er, .bool f.more, .int .i64 f.op, .int .i64 f.seq, .int .i64 f.st, .int .i64 f.asc, .int .i64 f.off, .slice da f.dat.length dc] 24))
  have N : Hid (Blk (w.alloc (.cells #[.int .i64 f.ver, .bool f.resp, .bool f.er, .bool f.more, .int .i64 f.op, .int .i64 f.seq, .int .i64 f.st, .int .i64 f.asc, .int .i64 f.off, .slice da f.dat.length dc] 24)) w.heap.size (fvs f (.slice da f.dat.length dc))) := Lib.hid (Blk.new' w #[.int .i64 f.ver, .bool f.resp, .bool f.er, .bool f.more, .int .i64 f.op, .int .i64 f.seq, .int .i64 f.st, .int .i64 f.asc, .int .i64 f.off, .slice da f.dat.length dc] 24)
  go_enter Try.func10, Try.ntmps10
  go_upto_region 1 with fail
  generalize w.alloc (.cells #[.int .i64 f.ver, .bool f.resp, .bool f.er, .bool f.more, .int .i64 f.op, .int .i64 f.seq, .int .i64 f.st, .int .i64 f.asc, .int .i64 f.off, .slice da f.dat.length dc] 24) = w1 at *
  have L1 : w.heap.size < w1.heap.size := N.out.1
  generalize hb0 : w.heap.size = b0 at *
  go_wp2_with (refine wpList_load_mid rfl 24 _ rfl _ 0 rfl (fvs f (.slice da f.dat.length dc)) _ N.out.range Try.underlying24 rfl (by rw [fvs_len]; exact info_fr) ?_)
  refine (IS.out _).mono ?_
  rintro e w2 ⟨rfl, hb⟩
  have B2 := Lib.hid (hb.mono (Nat.le_of_lt L1) |> B0.out.trans)
  have N2 := Lib.hid (N.out.below hb)
  have L2 := Nat.lt_of_lt_of_le L1 hb.size
  clear IS hb N B0
  go_wp2_with fail
  go_ret2
  subst hb0
  exact ⟨rfl, B2.out⟩
set_option maxRecDepth 100000 in
set_option maxHeartbeats 8000000 in
theorem rEncode_yes0 {f : Fr} {da : Option Addr} {dc : Nat} {w : World} (P : Sl w (.slice da f.dat.length dc) f.dat) (c : okFr f = true) : Calls Try.prog 10 #[FV f (.slice da f.dat.length dc)] w fun e w' => (∃ v, e = .returned (.tuple #[v, .int .i64 0]) ∧ Own w' w.heap.size v (enc f)) ∧ Below w.heap.size w w' := by
  obtain ⟨h1, h2, h3, h4, h5, h6, h7⟩ := okFr_cut c
  have SL := Lib.hid P
  have hn := P.1
  clear P
  have IS := Lib.hid (fun z => Is_c f da dc hn z)
  rw [c] at IS
  have HE := Lib.hid (front_twos f)
  have K5 := Lib.hid (n5_le c)
  have FL := front_len f
  clear c
  have B0 := Lib.hid (balloc (brefl w) (.cells #[.int .i64 f.ver, .bool f.resp, .bool f.er, .bool f.more, .int .i64 f.op, .int .i64 f.seq, .int .i64 f.st, .int .i64 f.asc, .int .i64 f.off, .slice da f.dat.length dc] 24))
  have N : Hid (Blk (w.alloc (.cells #[.int .i64 f.ver, .bool f.resp, .bool f.er, .bool f.more, .int .i64 f.op, .int .i64 f.seq, .int .i64 f.st, .int .i64 f.asc, .int .i64 f.off, .slice da f.dat.length dc] 24)) w.heap.size (fvs f (.slice da f.dat.length dc))) := Lib.hid (Blk.new' w #[.int .i64 f.ver, .bool f.resp, .bool f.er, .bool f.more, .int .i64 f.op, .int .i64 f.seq, .int .i64 f.st, .int .i64 f.asc, .int .i64 f.off, .slice da f.dat.length dc] 24)
  go_enter Try.func10, Try.ntmps10
  go_upto_region 1 with fail
  generalize w.alloc (.cells #[.int .i64 f.ver, .bool f.resp, .bool f.er, .bool f.more, .int .i64 f.op, .int .i64 f.seq, .int .i64 f.st, .int .i64 f.asc, .int .i64 f.off, .slice da f.dat.length dc] 24) = w1 at *
  have L1 : w.heap.size < w1.heap.size := N.out.1
  generalize hb0 : w.heap.size = b0 at *
  go_wp2_with (refine wpList_load_mid rfl 24 _ rfl _ 0 rfl (fvs f (.slice da f.dat.length dc)) _ N.out.range Try.underlying24 rfl (by rw [fvs_len]; exact info_fr) ?_)
  refine (IS.out _).mono ?_
  rintro e w2 ⟨rfl, hb⟩
  have B2 := Lib.hid (hb.mono (Nat.le_of_lt L1) |> B0.out.trans)
  have N2 := Lib.hid (N.out.below hb)
  have L2 := Nat.lt_of_lt_of_le L1 hb.size
  clear IS hb N B0
  go_upto_region 4 with fail
  have r1 := bt_le f.resp
  have r2 := bt_le f.er
  have r3 := bt_le f.more
  obtain ⟨x0, hx0⟩ : ∃ x : Nat, x = fst f := ⟨_, rfl⟩
  obtain ⟨x1, hx1⟩ : ∃ x : Nat, x = snd f := ⟨_, rfl⟩
  obtain ⟨d1, hd1⟩ : ∃ x : Nat, x = bt f.resp := ⟨_, rfl⟩
  obtain ⟨d2, hd2⟩ : ∃ x : Nat, x = bt f.er := ⟨_, rfl⟩
  obtain ⟨d3, hd3⟩ : ∃ x : Nat, x = bt f.more := ⟨_, rfl⟩
  obtain ⟨p1, hp1⟩ : ∃ x : Nat, x = d1 * 128 := ⟨_, rfl⟩
  obtain ⟨p2, hp2⟩ : ∃ x : Nat, x = d2 * 64 := ⟨_, rfl⟩
  obtain ⟨p3, hp3⟩ : ∃ x : Nat, x = d3 * 32 := ⟨_, rfl⟩
  obtain ⟨q1, hq1⟩ : ∃ x : Nat, x = p1 + p2 := ⟨_, rfl⟩
  obtain ⟨q2, hq2⟩ : ∃ x : Nat, x = q1 + p3 := ⟨_, rfl⟩
  obtain ⟨x8, hx8⟩ : ∃ x : Int, x = f.ver * 8 := ⟨_, rfl⟩
  have V8 : IntKind.i64.wrap (f.ver * 8) = x8 := by rw [wrap_in (by omega) (by omega)]; exact hx8.symm
  have V6 : IntKind.i64.wrap (x8 + 6) = (x0 : Int) := by rw [wrap_in (by omega) (by omega), hx0]; unfold fst; omega
  have V0 : IntKind.u8.wrap (x0 : Int) = (x0 : Int) := by rw [u8_wrap, hx0]; unfold fst; omega
  have M1 : IntKind.i64.wrap ((d1 : Int) * 128) = (p1 : Int) := by rw [wrap_in (by omega) (by omega)]; omega
  have M2 : IntKind.i64.wrap ((d2 : Int) * 64) = (p2 : Int) := by rw [wrap_in (by omega) (by omega)]; omega
  have M3 : IntKind.i64.wrap ((d3 : Int) * 32) = (p3 : Int) := by rw [wrap_in (by omega) (by omega)]; omega
  have M4 : IntKind.i64.wrap ((p1 : Int) + (p2 : Int)) = (q1 : Int) := by rw [wrap_in (by omega) (by omega)]; omega
  have M5 : IntKind.i64.wrap ((q1 : Int) + (p3 : Int)) = (q2 : Int) := by rw [wrap_in (by omega) (by omega)]; omega
  have M6 : IntKind.i64.wrap ((q2 : Int) + f.op) = (x1 : Int) := by rw [wrap_in (by omega) (by omega), hx1]; unfold snd; omega
  have M7 : IntKind.u8.wrap (x1 : Int) = (x1 : Int) := by rw [u8_wrap, hx1]; unfold snd; omega
  have BC1 : Hid (∀ z, Calls Try.prog 22 #[.bool f.resp] z fun e w' => e = .returned (.int .i64 (d1 : Int)) ∧ w' = z) := Lib.hid fun z => by rw [hd1]; exact rbit_c f.resp z
  have BC2 : Hid (∀ z, Calls Try.prog 22 #[.bool f.er] z fun e w' => e = .returned (.int .i64 (d2 : Int)) ∧ w' = z) := Lib.hid fun z => by rw [hd2]; exact rbit_c f.er z
  have BC3 : Hid (∀ z, Calls Try.prog 22 #[.bool f.more] z fun e w' => e = .returned (.int .i64 (d3 : Int)) ∧ w' = z) := Lib.hid fun z => by rw [hd3]; exact rbit_c f.more z
  rw [← hx0, ← hx1] at HE
  have u0 : f.seq = (n5 f 0 : Int) := by show f.seq = (f.seq.toNat : Int); omega
  have u1 : f.st = (n5 f 1 : Int) := by show f.st = (f.st.toNat : Int); omega
  have u2 : f.asc = (n5 f 2 : Int) := by show f.asc = (f.asc.toNat : Int); omega
  have u3 : f.off = (n5 f 3 : Int) := by show f.off = (f.off.toNat : Int); omega
  have u4 : (f.dat.length : Int) = (n5 f 4 : Int) := rfl
  have y9 : ∀ z, Below w2.heap.size w2 z → z.cell? ⟨b0, 5, none⟩ = some (.int .i64 (n5 f 0 : Int)) ∧ z.cell? ⟨b0, 6, none⟩ = some (.int .i64 (n5 f 1 : Int)) ∧ z.cell? ⟨b0, 7, none⟩ = some (.int .i64 (n5 f 2 : Int)) ∧ z.cell? ⟨b0, 8, none⟩ = some (.int .i64 (n5 f 3 : Int)) ∧ z.cell? ⟨b0, 9, none⟩ = some (.slice da f.dat.length dc) := fun z k => by
    rw [← u0, ← u1, ← u2, ← u3]
    exact ⟨((N2.out.below k).2 5 _ rfl).1, ((N2.out.below k).2 6 _ rfl).1, ((N2.out.below k).2 7 _ rfl).1, ((N2.out.below k).2 8 _ rfl).1, ((N2.out.below k).2 9 _ rfl).1⟩
  have Y9 := Lib.hid y9
  have U4 := Lib.hid u4
  clear hx0 hx1 hd1 hd2 hd3 hp1 hp2 hp3 hq1 hq2 hx8 r1 r2 r3 h1 h2 h3 h4 h5 h6 u0 u1 u2 u3 u4 y9
  generalize n5 f = R at *
  have RL : Hid ((#[.int .i64 (R 0 : Int), .int .i64 (R 1 : Int), .int .i64 (R 2 : Int), .int .i64 (R 3 : Int), .int .i64 (f.dat.length : Int)] : Array Value) = #[.int .i64 (R 0 : Int), .int .i64 (R 1 : Int), .int .i64 (R 2 : Int), .int .i64 (R 3 : Int), .int .i64 (R 4 : Int)]) := Lib.hid (by rw [U4.out])
  have KP : Hid (∀ z, Below w2.heap.size w2 z → z.cell? ⟨b0, 0, none⟩ = some (.int .i64 f.ver) ∧ z.cell? ⟨b0, 1, none⟩ = some (.bool f.resp) ∧ z.cell? ⟨b0, 2, none⟩ = some (.bool f.er) ∧ z.cell? ⟨b0, 3, none⟩ = some (.bool f.more) ∧ z.cell? ⟨b0, 4, none⟩ = some (.int .i64 f.op) ∧ Below w2.heap.size w2 z) := Lib.hid fun z k =>
    ⟨((N2.out.below k).2 0 _ rfl).1, ((N2.out.below k).2 1 _ rfl).1, ((N2.out.below k).2 2 _ rfl).1, ((N2.out.below k).2 3 _ rfl).1, ((N2.out.below k).2 4 _ rfl).1, k⟩
  have KD := Lib.hid (KP.out _ ((brefl w2).drew))
  have KC := Lib.hid (fun wa wb (d : Below w2.heap.size w2 wa) (d2 : Below wa.heap.size wa wb) => KP.out wb (bstep d d2))
  obtain ⟨v2', w2', hr2, o2', b2', g2'⟩ := appLg (Own.nil w2.drew w2.heap.size) [x0, x1] (by simp) (Nat.le_refl _) (by simp) 22
  simp only [cl, List.map_cons, List.map_nil, List.length_cons, List.length_nil, Nat.reduceAdd, List.nil_append] at hr2 o2'
  have E4 := Lib.hid (bstepB (brefl w2).drew b2')
  refine wp_region_noPanic ?_
  refine wp_region_held_drew (S := fun z => z.cell? ⟨b0, 0, none⟩ = some (.int .i64 f.ver) ∧ z.cell? ⟨b0, 1, none⟩ = some (.bool f.resp) ∧ z.cell? ⟨b0, 2, none⟩ = some (.bool f.er) ∧ z.cell? ⟨b0, 3, none⟩ = some (.bool f.more) ∧ z.cell? ⟨b0, 4, none⟩ = some (.int .i64 f.op) ∧ Below w2.heap.size w2 z) (by kernel_rfl) KD.out (fun hHeld => ?_)
  refine wpAnyH_take (i := 0) (v := ?_) rfl (by kernel_rfl) (by kernel_rfl) (by kernel_rfl) (fun _ _ _ h => h) (Or.inl ⟨by rfl, ?_⟩) hHeld ?_
  rotate_left
  · ((intro w hSw; (try dsimp only at hSw); go_simp); try with_reducible rfl)
  (try simp only [List.getElem_toArray, List.getElem_cons_succ, List.getElem_cons_zero, Act.put, List.setIfInBounds_toArray, List.set_cons_zero, List.set_cons_succ])
  refine wpAnyH_take (i := 1) (v := ?_) rfl (by kernel_rfl) (by kernel_rfl) (by kernel_rfl) (fun _ _ _ h => h) (Or.inl ⟨by rfl, ?_⟩) hHeld ?_
  rotate_left
  · ((intro w hSw; (try dsimp only at hSw); go_simp); try with_reducible rfl)
  (try simp only [List.getElem_toArray, List.getElem_cons_succ, List.getElem_cons_zero, Act.put, List.setIfInBounds_toArray, List.set_cons_zero, List.set_cons_succ])
  refine wpAnyH_take (i := 2) (v := ?_) rfl (by kernel_rfl) (by kernel_rfl) (by kernel_rfl) (fun _ _ _ h => h) (Or.inl ⟨by rfl, ?_⟩) hHeld ?_
  rotate_left
  · ((intro w hSw; (try dsimp only at hSw); go_simp); try with_reducible rfl)
  (try simp only [List.getElem_toArray, List.getElem_cons_succ, List.getElem_cons_zero, Act.put, List.setIfInBounds_toArray, List.set_cons_zero, List.set_cons_succ])
  refine wpAnyH_take (i := 3) (v := ?_) rfl (by kernel_rfl) (by kernel_rfl) (by kernel_rfl) (fun _ _ _ h => h) (Or.inl ⟨by rfl, ?_⟩) hHeld ?_
  rotate_left
  · ((intro w hSw; (try dsimp only at hSw); go_simp); try with_reducible rfl)
  (try simp only [List.getElem_toArray, List.getElem_cons_succ, List.getElem_cons_zero, Act.put, List.setIfInBounds_toArray, List.set_cons_zero, List.set_cons_succ])
  refine wpAnyH_take (i := 4) (v := ?_) rfl (by kernel_rfl) (by kernel_rfl) (by kernel_rfl) (fun _ _ _ h => h) (Or.inl ⟨by rfl, ?_⟩) hHeld ?_
  rotate_left
  · ((intro w hSw; (try dsimp only at hSw); go_simp); try with_reducible rfl)
  (try simp only [List.getElem_toArray, List.getElem_cons_succ, List.getElem_cons_zero, Act.put, List.setIfInBounds_toArray, List.set_cons_zero, List.set_cons_succ])
  refine wpAnyH_take (i := 5) (v := ?_) rfl (by kernel_rfl) (by kernel_rfl) (by kernel_rfl) (fun _ _ _ h => h) (Or.inl ⟨by rfl, ?_⟩) hHeld ?_
  rotate_left
  · ((intro w hSw; (try dsimp only at hSw); go_simp); try with_reducible rfl)
  (try simp only [List.getElem_toArray, List.getElem_cons_succ, List.getElem_cons_zero, Act.put, List.setIfInBounds_toArray, List.set_cons_zero, List.set_cons_succ])
  refine wpAnyH_take (i := 6) (v := ?_) rfl (by kernel_rfl) (by kernel_rfl) (by kernel_rfl) (fun _ _ _ h => h) (Or.inl ⟨by rfl, ?_⟩) hHeld ?_
  rotate_left
  · ((intro w hSw; (try dsimp only at hSw); go_simp); try with_reducible rfl)
  (try simp only [List.getElem_toArray, List.getElem_cons_succ, List.getElem_cons_zero, Act.put, List.setIfInBounds_toArray, List.set_cons_zero, List.set_cons_succ])
  refine wpAnyH_take (i := 7) (v := ?_) rfl (by kernel_rfl) (by kernel_rfl) (by kernel_rfl) (fun _ _ _ h => h) (Or.inl ⟨by rfl, ?_⟩) hHeld ?_
  rotate_left
  · ((intro w hSw; (try dsimp only at hSw); go_simp); try with_reducible rfl)
  (try simp only [List.getElem_toArray, List.getElem_cons_succ, List.getElem_cons_zero, Act.put, List.setIfInBounds_toArray, List.set_cons_zero, List.set_cons_succ])
  refine wpAnyH_take (i := 10) (v := ?_) rfl (by kernel_rfl) (by kernel_rfl) (by kernel_rfl) (fun _ _ _ h => h) (Or.inl ⟨by rfl, ?_⟩) hHeld ?_
  rotate_left
  · ((intro w hSw; (try dsimp only at hSw); go_simp); try with_reducible rfl)
  (try simp only [List.getElem_toArray, List.getElem_cons_succ, List.getElem_cons_zero, Act.put, List.setIfInBounds_toArray, List.set_cons_zero, List.set_cons_succ])
  refine wpAnyH_take (i := 11) (v := ?_) rfl (by kernel_rfl) (by kernel_rfl) (by kernel_rfl) (fun _ _ _ h => h) (Or.inl ⟨by rfl, ?_⟩) hHeld ?_
  rotate_left
  · ((intro w hSw; (try dsimp only at hSw); go_simp); try with_reducible rfl)
  (try simp only [List.getElem_toArray, List.getElem_cons_succ, List.getElem_cons_zero, Act.put, List.setIfInBounds_toArray, List.set_cons_zero, List.set_cons_succ])
  refine wpAnyH_take (i := 15) (v := ?_) rfl (by kernel_rfl) (by kernel_rfl) (by kernel_rfl) (fun _ _ _ h => h) (Or.inl ⟨by rfl, ?_⟩) hHeld ?_
  rotate_left
  · ((intro w hSw; (try dsimp only at hSw); go_simp); try with_reducible rfl)
  (try simp only [List.getElem_toArray, List.getElem_cons_succ, List.getElem_cons_zero, Act.put, List.setIfInBounds_toArray, List.set_cons_zero, List.set_cons_succ])
  refine wpAnyH_take (i := 16) (v := ?_) rfl (by kernel_rfl) (by kernel_rfl) (by kernel_rfl) (fun _ _ _ h => h) (Or.inl ⟨by rfl, ?_⟩) hHeld ?_
  rotate_left
  · ((intro w hSw; (try dsimp only at hSw); go_simp); try with_reducible rfl)
  (try simp only [List.getElem_toArray, List.getElem_cons_succ, List.getElem_cons_zero, Act.put, List.setIfInBounds_toArray, List.set_cons_zero, List.set_cons_succ])
  refine wpAnyH_take (i := 20) (v := ?_) rfl (by kernel_rfl) (by kernel_rfl) (by kernel_rfl) (fun _ _ _ h => h) (Or.inl ⟨by rfl, ?_⟩) hHeld ?_
  rotate_left
  · ((intro w hSw; (try dsimp only at hSw); go_simp); try with_reducible rfl)
  (try simp only [List.getElem_toArray, List.getElem_cons_succ, List.getElem_cons_zero, Act.put, List.setIfInBounds_toArray, List.set_cons_zero, List.set_cons_succ])
  refine wpAnyH_take (i := 21) (v := ?_) rfl (by kernel_rfl) (by kernel_rfl) (by kernel_rfl) (fun _ _ _ h => h) (Or.inl ⟨by rfl, ?_⟩) hHeld ?_
  rotate_left
  · ((intro w hSw; (try dsimp only at hSw); go_simp); try with_reducible rfl)
  (try simp only [List.getElem_toArray, List.getElem_cons_succ, List.getElem_cons_zero, Act.put, List.setIfInBounds_toArray, List.set_cons_zero, List.set_cons_succ])
  refine wpAnyH_ready (rs := [8]) (by kernel_rfl) (by simp) (AllReadyH.cons rfl (fun KQ hKQ => ?_) AllReadyH.nil)
  go_simp
  refine (BC1.out _).mono ?_
  rintro e w' ⟨rfl, rfl⟩
  go_wp2_with fail
  refine hKQ.out _ _ hHeld (fun hH2 => ?_)
  clear hKQ KQ hHeld
  have hHeld := hH2
  clear hH2
  (try simp only [List.getElem_toArray, List.getElem_cons_succ, List.getElem_cons_zero, Act.put, List.setIfInBounds_toArray, List.set_cons_zero, List.set_cons_succ])
  refine wpAnyH_take (i := 9) (v := ?_) rfl (by kernel_rfl) (by kernel_rfl) (by kernel_rfl) (fun _ _ _ h => h) (Or.inl ⟨by rfl, ?_⟩) hHeld ?_
  rotate_left
  · ((intro w hSw; (try dsimp only at hSw); go_simp); try with_reducible rfl)
  (try simp only [List.getElem_toArray, List.getElem_cons_succ, List.getElem_cons_zero, Act.put, List.setIfInBounds_toArray, List.set_cons_zero, List.set_cons_succ])
  refine wpAnyH_ready (rs := [12]) (by kernel_rfl) (by simp) (AllReadyH.cons rfl (fun KQ hKQ => ?_) AllReadyH.nil)
  go_simp
  refine (BC2.out _).mono ?_
  rintro e w' ⟨rfl, rfl⟩
  go_wp2_with fail
  refine hKQ.out _ _ hHeld (fun hH2 => ?_)
  clear hKQ KQ hHeld
  have hHeld := hH2
  clear hH2
  (try simp only [List.getElem_toArray, List.getElem_cons_succ, List.getElem_cons_zero, Act.put, List.setIfInBounds_toArray, List.set_cons_zero, List.set_cons_succ])
  refine wpAnyH_take (i := 13) (v := ?_) rfl (by kernel_rfl) (by kernel_rfl) (by kernel_rfl) (fun _ _ _ h => h) (Or.inl ⟨by rfl, ?_⟩) hHeld ?_
  rotate_left
  · ((intro w hSw; (try dsimp only at hSw); go_simp); try with_reducible rfl)
  (try simp only [List.getElem_toArray, List.getElem_cons_succ, List.getElem_cons_zero, Act.put, List.setIfInBounds_toArray, List.set_cons_zero, List.set_cons_succ])
  refine wpAnyH_take (i := 14) (v := ?_) rfl (by kernel_rfl) (by kernel_rfl) (by kernel_rfl) (fun _ _ _ h => h) (Or.inl ⟨by rfl, ?_⟩) hHeld ?_
  rotate_left
  · ((intro w hSw; (try dsimp only at hSw); go_simp); try with_reducible rfl)
  (try simp only [List.getElem_toArray, List.getElem_cons_succ, List.getElem_cons_zero, Act.put, List.setIfInBounds_toArray, List.set_cons_zero, List.set_cons_succ])
  refine wpAnyH_ready (rs := [17]) (by kernel_rfl) (by simp) (AllReadyH.cons rfl (fun KQ hKQ => ?_) AllReadyH.nil)
  go_simp
  refine (BC3.out _).mono ?_
  rintro e w' ⟨rfl, rfl⟩
  go_wp2_with fail
  refine hKQ.out _ _ hHeld (fun hH2 => ?_)
  clear hKQ KQ hHeld
  have hHeld := hH2
  clear hH2
  (try simp only [List.getElem_toArray, List.getElem_cons_succ, List.getElem_cons_zero, Act.put, List.setIfInBounds_toArray, List.set_cons_zero, List.set_cons_succ])
  refine wpAnyH_take (i := 18) (v := ?_) rfl (by kernel_rfl) (by kernel_rfl) (by kernel_rfl) (fun _ _ _ h => h) (Or.inl ⟨by rfl, ?_⟩) hHeld ?_
  rotate_left
  · ((intro w hSw; (try dsimp only at hSw); go_simp); try with_reducible rfl)
  (try simp only [List.getElem_toArray, List.getElem_cons_succ, List.getElem_cons_zero, Act.put, List.setIfInBounds_toArray, List.set_cons_zero, List.set_cons_succ])
  refine wpAnyH_take (i := 19) (v := ?_) rfl (by kernel_rfl) (by kernel_rfl) (by kernel_rfl) (fun _ _ _ h => h) (Or.inl ⟨by rfl, ?_⟩) hHeld ?_
  rotate_left
  · ((intro w hSw; (try dsimp only at hSw); go_simp); try with_reducible rfl)
  (try simp only [List.getElem_toArray, List.getElem_cons_succ, List.getElem_cons_zero, Act.put, List.setIfInBounds_toArray, List.set_cons_zero, List.set_cons_succ])
  refine wpAnyH_take (i := 22) (v := ?_) rfl (by kernel_rfl) (by kernel_rfl) (by kernel_rfl) (fun _ _ _ h => h) (Or.inl ⟨by rfl, ?_⟩) hHeld ?_
  rotate_left
  · ((intro w hSw; (try dsimp only at hSw); go_simp); try with_reducible rfl)
  (try simp only [List.getElem_toArray, List.getElem_cons_succ, List.getElem_cons_zero, Act.put, List.setIfInBounds_toArray, List.set_cons_zero, List.set_cons_succ])
  refine wpAnyH_take (i := 23) (v := ?_) rfl (by kernel_rfl) (by kernel_rfl) (by kernel_rfl) (fun _ _ _ h => h) (Or.inl ⟨by rfl, ?_⟩) hHeld ?_
  rotate_left
  · ((intro w hSw; (try dsimp only at hSw); go_simp); try with_reducible rfl)
  (try simp only [List.getElem_toArray, List.getElem_cons_succ, List.getElem_cons_zero, Act.put, List.setIfInBounds_toArray, List.set_cons_zero, List.set_cons_succ])
  refine wpAnyH_ready (rs := [24]) (by kernel_rfl) (by simp) (AllReadyH.cons rfl (fun KQ hKQ => ?_) AllReadyH.nil)
  go_simp
  refine hKQ.out _ _ (KC.out _ _ hHeld.2.2.2.2.2 (balloc (brefl _) _)) (fun hH2 => ?_)
  clear hKQ KQ hHeld
  have hHeld := hH2
  clear hH2
  (try simp only [List.getElem_toArray, List.getElem_cons_succ, List.getElem_cons_zero, Act.put, List.setIfInBounds_toArray, List.set_cons_zero, List.set_cons_succ])
  refine wpAnyH_ready (rs := [25]) (by kernel_rfl) (by simp) (AllReadyH.cons rfl (fun KQ hKQ => ?_) AllReadyH.nil)
  refine step_append_eq rfl (.tmp 10) (.tmp 34) 22 rfl _ _ v2' w2' rfl rfl hr2 ?_
  refine hKQ.out _ _ (KP.out _ E4.out) (fun hH2 => ?_)
  clear hKQ KQ hHeld
  have hHeld := hH2
  clear hH2
  (try simp only [List.getElem_toArray, List.getElem_cons_succ, List.getElem_cons_zero, Act.put, List.setIfInBounds_toArray, List.set_cons_zero, List.set_cons_succ])
  refine wpAnyH_take (i := 26) (v := ?_) rfl (by kernel_rfl) (by kernel_rfl) (by kernel_rfl) (fun _ _ _ h => h) (Or.inl ⟨by rfl, ?_⟩) hHeld ?_
  rotate_left
  · ((intro w hSw; (try dsimp only at hSw); go_simp); try with_reducible rfl)
  (try simp only [List.getElem_toArray, List.getElem_cons_succ, List.getElem_cons_zero, Act.put, List.setIfInBounds_toArray, List.set_cons_zero, List.set_cons_succ])
  refine wpAnyH_done (by kernel_rfl) ?_ _
  refine NoPanic.normal ?_
  clear hHeld KP KD KC BC1 BC2 BC3 hr2 g2' V8 V6 V0 M1 M2 M3 M4 M5 M6 M7
  have S3 := Lib.hid E4.out.size
  have O2 := Lib.hid o2'
  clear o2' b2'
  obtain ⟨c5, c6, c7, c8, c9⟩ := Y9.out _ E4.out
  go_upto_region 6 with fail
  clear c5 c6 c7 c8 c9
  have M : Hid (Blk (w2'.alloc (.cells #[.int .i64 (R 0 : Int), .int .i64 (R 1 : Int), .int .i64 (R 2 : Int), .int .i64 (R 3 : Int), .int .i64 (f.dat.length : Int)] 3)) w2'.heap.size [.int .i64 (R 0 : Int), .int .i64 (R 1 : Int), .int .i64 (R 2 : Int), .int .i64 (R 3 : Int), .int .i64 (R 4 : Int)]) := Lib.hid (by rw [RL.out]; exact Blk.new' w2' #[.int .i64 (R 0 : Int), .int .i64 (R 1 : Int), .int .i64 (R 2 : Int), .int .i64 (R 3 : Int), .int .i64 (R 4 : Int)] 3)
  have O3 := Lib.hid (own_below O2.out (balloc (brefl w2') (.cells #[.int .i64 (R 0 : Int), .int .i64 (R 1 : Int), .int .i64 (R 2 : Int), .int .i64 (R 3 : Int), .int .i64 (f.dat.length : Int)] 3)))
  have D3 := Lib.hid (bstepB E4.out ((balloc (brefl w2') (.cells #[.int .i64 (R 0 : Int), .int .i64 (R 1 : Int), .int .i64 (R 2 : Int), .int .i64 (R 3 : Int), .int .i64 (f.dat.length : Int)] 3)).mono S3.out))
  have NO : Hid (v2'.ownBlock ≠ some w2'.heap.size) := Lib.hid (fun e => by have := own_lt O2.out e; omega)
  have Z2 : Hid (w2.heap.size ≤ (w2'.alloc (.cells #[.int .i64 (R 0 : Int), .int .i64 (R 1 : Int), .int .i64 (R 2 : Int), .int .i64 (R 3 : Int), .int .i64 (f.dat.length : Int)] 3)).heap.size) := Lib.hid (by have := S3.out; simp; omega)
  generalize w2'.alloc (.cells #[.int .i64 (R 0 : Int), .int .i64 (R 1 : Int), .int .i64 (R 2 : Int), .int .i64 (R 3 : Int), .int .i64 (f.dat.length : Int)] 3) = w3 at *
  generalize w2'.heap.size = b3 at *
  go_loopw [4, 49] (fun v iv wr => ∃ j : Nat, j ≤ 5 ∧ Own wr w2.heap.size v ([x0, x1] ++ twos R j) ∧ iv = .int .i64 j ∧ Below w2.heap.size w2 wr ∧ Gr w3 v2' wr v) (fun _ iv _ => 5 - (intOf iv).toNat)
  case atStart => exact ⟨0, by omega, by simpa [twos] using O3.out, rfl, D3.out, Gr.rf _ _⟩
  case round =>
    obtain ⟨j, hj, ho, rfl, hbw, hg⟩ := hrel
    rename World => wr
    have HO := Lib.hid ho
    have HB := Lib.hid hbw
    have HG := Lib.hid hg
    clear ho hbw hg
    by_cases c : j < 5
    · have MJ := HG.out.blk M.out NO.out
      have cj : wr.cell? ⟨b3, j, none⟩ = some (.int .i64 (R j : Int)) := (MJ.2 j _ (by
        match j with
        | 0 => rfl
        | 1 => rfl
        | 2 => rfl
        | 3 => rfl
        | 4 => rfl
        | j + 5 => omega)).1
      have rj := K5.out j
      have EJ : Hid (twos R (j + 1) = twos R j ++ b2 (R j)) := Lib.hid rfl
      obtain ⟨v', w', hr, o', b', g'⟩ := appLg HO.out (b2 (R j)) (by simp [b2]) (Nat.le_trans Z2.out HG.out.1) (by simp [twos_len, b2]; omega) 22
      have r0 : (0 : Int) ≤ (R j : Int) := by omega
      have r1 : (R j : Int) ≤ 65535 := by omega
      have jl : (j : Int) < 5 := by omega
      have T1 : (R j : Int).tdiv 256 = ((R j / 256 : Nat) : Int) := by rw [Int.tdiv_eq_ediv_of_nonneg (by omega)]; omega
      have T2 : (R j : Int).tmod 256 = ((R j % 256 : Nat) : Int) := by rw [Int.tmod_eq_emod_of_nonneg (by omega)]; omega
      have W1 : IntKind.u8.wrap ((R j / 256 : Nat) : Int) = ((R j / 256 : Nat) : Int) := by rw [u8_wrap]; omega
      have W2 : IntKind.u8.wrap ((R j % 256 : Nat) : Int) = ((R j % 256 : Nat) : Int) := by rw [u8_wrap]; omega
      have z1 : ((R j / 256 : Nat) : Int) ≤ 255 := by omega
      have z2 : (0 : Int) ≤ ((R j / 256 : Nat) : Int) := by omega
      simp only [cl, b2, List.map_cons, List.map_nil, List.length_cons, List.length_nil, Nat.reduceAdd] at hr
      have OJ := Lib.hid o'
      have BJ := Lib.hid (bstepB HB.out b')
      have GJ := Lib.hid (HG.out.tr g')
      generalize R j / 256 = y1 at *
      generalize R j % 256 = y2 at *
      generalize R j = y at *
      clear MJ o' b' g'
      go_wp2_with (first | (at_builtin; refine wpList_append_eq rfl _ _ 22 rfl _ _ v' w' rfl rfl hr ?_))
      exact ⟨⟨j + 1, by omega, by rw [EJ.out, ← List.append_assoc]; exact OJ.out, rfl, BJ.out, GJ.out⟩, by simp [intOf]; omega⟩
    · obtain rfl : j = 5 := by omega
      have HO : Hid (Own wr w2.heap.size _ (front f)) := Lib.hid (by rw [HE.out]; exact HO.out)
      have N3 := N2.out.below HB.out
      have c9 : wr.cell? ⟨b0, 9, none⟩ = some (.slice da f.dat.length dc) := (N3.2 9 _ rfl).1
      have o3 := HO.out.le (Nat.le_of_lt L2)
      have B3 := Lib.hid (B2.out.trans (HB.out.mono (Nat.le_of_lt L2)))
      have L3 := Nat.lt_of_lt_of_le L2 HB.out.size
      obtain ⟨v4, w4, hr, o4, b4, g4⟩ := SL.out.appg (hb0 ▸ B3.out) o3 (Nat.le_of_lt L3) (by rw [FL]; omega) 22
      have B4 := Lib.hid (B3.out.trans b4)
      have O4 := Lib.hid o4
      have L4 := Nat.lt_of_lt_of_le L3 b4.size
      have HR := Lib.hid hr
      clear N3 o3 hr o4 b4 g4 HB HG B3 M NO Z2 O3 D3 O2 S3 E4 Y9
      go_upto_region 11 with (first | (at_builtin; refine wpList_append_eq rfl _ _ 22 rfl _ _ v4 w4 rfl rfl HR.out ?_))
      clear HR c9
      go_loopw [4] (fun v wr => ∃ j : Nat, j ≤ pad f.dat.length ∧ Own wr b0 v (front f ++ f.dat ++ List.replicate j 0) ∧ Below b0 w wr ∧ b0 < wr.heap.size) (fun v _ => 16 + pad f.dat.length + f.dat.length - sl v)
      case atStart => exact ⟨0, by omega, by simpa using O4.out, B4.out, L4⟩
      case round =>
        obtain ⟨j, hj, ho, hb, hs⟩ := hrel
        rename World => wr
        have HO := Lib.hid ho
        have HB := Lib.hid hb
        obtain ⟨a, cp, rfl⟩ := own_form ho
        have el : (front f ++ f.dat ++ List.replicate j 0).length = 12 + f.dat.length + j := by simp [FL]; omega
        rw [el] at HO
        simp only [el]
        have hp : pad f.dat.length < 4 := by unfold pad; omega
        have hq := pad_step hj
        obtain ⟨L, hL⟩ : ∃ L, L = 12 + f.dat.length + j := ⟨_, rfl⟩
        rw [← hL] at hq HO
        rw [← hL]
        have q : (L : Int).tmod 4 = (L : Int) % 4 := Int.tmod_eq_emod_of_nonneg (by omega)
        have l0 : (0 : Int) ≤ (L : Int) := by omega
        have l1 : (L : Int) ≤ 1024 := by omega
        clear ho hb el O4 B4
        by_cases cj : j < pad f.dat.length
        · have e1 : ((L : Int) % 4 != 0) = true := by have := hq.1 cj; simp; omega
          obtain ⟨v5, w5, hr, o5, b5, g5⟩ := app1g HO.out 0 (Nat.le_of_lt hs) (by simp [FL]; omega) 22
          have OJ : Hid (Own w5 b0 v5 (front f ++ f.dat ++ List.replicate (j + 1) 0)) := Lib.hid (by rw [rep_succ, ← List.append_assoc]; exact o5)
          have BJ := Lib.hid (HB.out.trans b5)
          have hs5 := Nat.lt_of_lt_of_le hs b5.size
          clear o5 b5 g5
          go_wp2_with (first | (at_builtin; refine wpList_append_eq rfl _ _ 22 rfl _ _ v5 w5 rfl rfl hr ?_))
          refine ⟨⟨j + 1, by omega, OJ.out, BJ.out, hs5⟩, ?_⟩
          obtain ⟨a5, c5, e5⟩ := own_form OJ.out
          rw [e5]
          simp [sl, FL]
          omega
        · have e1 : ((L : Int) % 4 != 0) = false := by
            have : L % 4 = 0 := Decidable.byContradiction fun x => cj (hq.2 x)
            simp; omega
          obtain rfl : j = pad f.dat.length := by omega
          go_wp2_with fail
          go_ret2
          subst hb0 hL
          exact ⟨⟨_, rfl, HO.out⟩, HB.out⟩
theorem rEncode_no {f : Fr} {dv : Value} {w : World} (P : Fm w f dv) (c : okFr f = false) : Calls Try.prog 10 #[FV f dv] w fun e w' => e = .returned (.tuple #[.slice none 0 0, .int .i64 3]) ∧ Below w.heap.size w w' := by
  obtain ⟨da, dc, rfl⟩ := P.form
  exact rEncode_no0 P c
theorem rEncode_yes {f : Fr} {dv : Value} {w : World} (P : Fm w f dv) (c : okFr f = true) : Calls Try.prog 10 #[FV f dv] w fun e w' => (∃ v, e = .returned (.tuple #[v, .int .i64 0]) ∧ Own w' w.heap.size v (enc f)) ∧ Below w.heap.size w w' := by
  obtain ⟨da, dc, rfl⟩ := P.form
  exact rEncode_yes0 P c
end Go.Proofs.Yteigmnbbfmcihaa.Ct
