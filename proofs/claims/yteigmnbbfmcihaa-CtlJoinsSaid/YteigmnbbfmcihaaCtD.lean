/-
  What stands ahead of a frame's data: ctl.appendFront.
  Conditions: none.
-/
import Derived.Deep.RegionHeld3
import Derived.Test.YteigmnbbfmcihaaCtC
namespace Go.Proofs.Yteigmnbbfmcihaa.Ct
open Go.RowKit Go.ChangeShapes Go.WideShapes Go.ChangeAt Go.Joins By
set_option linter.unusedVariables false
set_option linter.unusedSimpArgs false

theorem u8_wrap (x : Int) : IntKind.u8.wrap x = x % 256 := by
  simp only [IntKind.wrap, IntKind.bits, IntKind.signed]
  simp
theorem or8 (i a b : Nat) (hb : b < 2 ^ i) (h : 2 ^ i * a + b < 256) : bits BinOp.or IntKind.u8 ((2 ^ i * a : Nat) : Int) ((b : Nat) : Int) = ((2 ^ i * a + b : Nat) : Int) := by
  have e : (BitVec.ofInt 8 ((2 ^ i * a : Nat) : Int) ||| BitVec.ofInt 8 (b : Int)).toNat = 2 ^ i * a + b := by
    rw [BitVec.toNat_or, BitVec.toNat_ofInt, BitVec.toNat_ofInt]
    have h1 : (((2 ^ i * a : Nat) : Int) % ((2 ^ 8 : Nat) : Int)).toNat = 2 ^ i * a := by omega
    have h2 : ((b : Int) % ((2 ^ 8 : Nat) : Int)).toNat = b := by omega
    rw [h1, h2, ← Nat.two_pow_add_eq_or_of_lt hb]
  show IntKind.u8.wrap ((BitVec.ofInt 8 ((2 ^ i * a : Nat) : Int) ||| BitVec.ofInt 8 (b : Int)).toNat : Int) = _
  rw [e, u8_wrap]
  omega
theorem or64 (x y : Nat) (hx : x < 256) (hy : y < 256) : bits BinOp.or IntKind.i64 ((x : Int) * 256) (y : Int) = ((x * 256 + y : Nat) : Int) := by
  have e : (BitVec.ofInt 64 ((x : Int) * 256) ||| BitVec.ofInt 64 (y : Int)).toNat = x * 256 + y := by
    rw [BitVec.toNat_or, BitVec.toNat_ofInt, BitVec.toNat_ofInt]
    have h1 : (((x : Int) * 256) % ((2 ^ 64 : Nat) : Int)).toNat = 2 ^ 8 * x := by omega
    have h2 : ((y : Int) % ((2 ^ 64 : Nat) : Int)).toNat = y := by omega
    rw [h1, h2, ← Nat.two_pow_add_eq_or_of_lt (i := 8) hy]
    omega
  show IntKind.i64.wrap ((BitVec.ofInt 64 ((x : Int) * 256) ||| BitVec.ofInt 64 (y : Int)).toNat : Int) = _
  rw [e]
  simp only [IntKind.wrap, IntKind.bits, IntKind.signed]
  simp
  omega
theorem ver6 {v : Int} (h : 1 ≤ v ∧ v ≤ 4) : bits BinOp.or IntKind.i64 (v * 8) 6 = v * 8 + 6 := by
  have h1 : v = 1 ∨ v = 2 ∨ v = 3 ∨ v = 4 := by omega
  rcases h1 with rfl | rfl | rfl | rfl <;> decide
/-- the first j of these numbers, in two bytes each. -/
def twos (R : Nat → Nat) : Nat → List Nat
  | 0 => []
  | j + 1 => twos R j ++ b2 (R j)
theorem twos_len (R : Nat → Nat) : ∀ j, (twos R j).length = 2 * j
  | 0 => rfl
  | j + 1 => by rw [twos, List.length_append, twos_len R j]; simp [b2]; omega
def n5 (f : Fr) (j : Nat) : Nat := (nums f).getD j 0
theorem front_twos (f : Fr) : front f = [fst f] ++ [snd f] ++ twos (n5 f) 5 := by rw [front_eq]; rfl
theorem n5_le {f : Fr} (h : okFr f = true) (j : Nat) : n5 f j ≤ 65535 := by
  obtain ⟨h1, h2, h3, h4, h5, h6, h7⟩ := okFr_cut h
  match j with
  | 0 => show f.seq.toNat ≤ _; omega
  | 1 => show f.st.toNat ≤ _; omega
  | 2 => show f.asc.toNat ≤ _; omega
  | 3 => show f.off.toNat ≤ _; omega
  | 4 => show f.dat.length ≤ _; omega
  | j + 5 => exact Nat.zero_le _
set_option maxRecDepth 100000 in
set_option maxHeartbeats 8000000 in
theorem appendFront_c (f : Fr) (h : okFr f = true) (da : Option Addr) (dc : Nat) (w : World) : Calls Try.prog 20 #[.slice none 0 0, FV f (.slice da f.dat.length dc)] w fun e w' => (∃ v, e = .returned v ∧ Own w' w.heap.size v (front f)) ∧ Below w.heap.size w w' := by
  obtain ⟨h1, h2, h3, h4, h5, h6, h7⟩ := okFr_cut h
  have O6 := ver6 h1
  have r1 := bt_le f.resp
  have r2 := bt_le f.er
  have r3 := bt_le f.more
  have r4 : f.op.toNat ≤ 31 := by omega
  obtain ⟨x0, hx0⟩ : ∃ x : Nat, x = fst f := ⟨_, rfl⟩
  obtain ⟨x1, hx1⟩ : ∃ x : Nat, x = snd f := ⟨_, rfl⟩
  obtain ⟨p1, hp1⟩ : ∃ x : Nat, x = bt f.resp * 128 := ⟨_, rfl⟩
  obtain ⟨p2, hp2⟩ : ∃ x : Nat, x = bt f.er * 64 := ⟨_, rfl⟩
  obtain ⟨p3, hp3⟩ : ∃ x : Nat, x = bt f.more * 32 := ⟨_, rfl⟩
  obtain ⟨p4, hp4⟩ : ∃ x : Nat, x = f.op.toNat := ⟨_, rfl⟩
  obtain ⟨q1, hq1⟩ : ∃ x : Nat, x = p1 + p2 := ⟨_, rfl⟩
  obtain ⟨q2, hq2⟩ : ∃ x : Nat, x = q1 + p3 := ⟨_, rfl⟩
  have W0 : IntKind.u8.wrap (f.ver * 8 + 6) = (x0 : Int) := by rw [u8_wrap, hx0]; unfold fst; omega
  have W4 : IntKind.u8.wrap f.op = (p4 : Int) := by rw [u8_wrap]; omega
  have E1 : bits BinOp.or IntKind.u8 (p1 : Int) (p2 : Int) = (q1 : Int) := by
    have := or8 7 (bt f.resp) p2 (by omega) (by omega)
    rw [show 2 ^ 7 * bt f.resp = p1 by omega, ← hq1] at this
    exact this
  have E2 : bits BinOp.or IntKind.u8 (q1 : Int) (p3 : Int) = (q2 : Int) := by
    have := or8 6 (bt f.resp * 2 + bt f.er) p3 (by omega) (by omega)
    rw [show 2 ^ 6 * (bt f.resp * 2 + bt f.er) = q1 by omega, ← hq2] at this
    exact this
  have E3 : bits BinOp.or IntKind.u8 (q2 : Int) (p4 : Int) = (x1 : Int) := by
    have := or8 5 (bt f.resp * 4 + bt f.er * 2 + bt f.more) p4 (by omega) (by omega)
    rw [show 2 ^ 5 * (bt f.resp * 4 + bt f.er * 2 + bt f.more) = q2 by omega, show q2 + p4 = x1 by rw [hx1]; unfold snd; omega] at this
    exact this
  have BC1 : Hid (∀ z, Calls Try.prog 40 #[.bool f.resp, .int .u8 128] z fun e w' => e = .returned (.int .u8 (p1 : Int)) ∧ w' = z) := Lib.hid fun z => by rw [hp1]; exact bit_c f.resp 128 (by omega) z
  have BC2 : Hid (∀ z, Calls Try.prog 40 #[.bool f.er, .int .u8 64] z fun e w' => e = .returned (.int .u8 (p2 : Int)) ∧ w' = z) := Lib.hid fun z => by rw [hp2]; exact bit_c f.er 64 (by omega) z
  have BC3 : Hid (∀ z, Calls Try.prog 40 #[.bool f.more, .int .u8 32] z fun e w' => e = .returned (.int .u8 (p3 : Int)) ∧ w' = z) := Lib.hid fun z => by rw [hp3]; exact bit_c f.more 32 (by omega) z
  have HE := Lib.hid (front_twos f)
  rw [← hx0, ← hx1] at HE
  have K5 := Lib.hid (n5_le h)
  have u0 : f.seq = (n5 f 0 : Int) := by show f.seq = (f.seq.toNat : Int); omega
  have u1 : f.st = (n5 f 1 : Int) := by show f.st = (f.st.toNat : Int); omega
  have u2 : f.asc = (n5 f 2 : Int) := by show f.asc = (f.asc.toNat : Int); omega
  have u3 : f.off = (n5 f 3 : Int) := by show f.off = (f.off.toNat : Int); omega
  have u4 : f.dat.length = n5 f 4 := rfl
  have v1 := h1.1
  have v2 := h1.2
  have o1 := h2.1
  have o2 := h2.2
  clear hx0 hx1 hp1 hp2 hp3 hp4 hq1 hq2 h r1 r2 r3 r4 h1 h2 h3 h4 h5 h6 h7
  generalize n5 f = R at *
  generalize front f = H at *
  show Calls Try.prog 20 #[.slice none 0 0, .agg #[.int .i64 f.ver, .bool f.resp, .bool f.er, .bool f.more, .int .i64 f.op, .int .i64 f.seq, .int .i64 f.st, .int .i64 f.asc, .int .i64 f.off, .slice da f.dat.length dc]] w _
  rw [u0, u1, u2, u3, u4]
  clear u0 u1 u2 u3 u4
  generalize f.ver = ver at *
  generalize f.resp = resp at *
  generalize f.er = er at *
  generalize f.more = more at *
  generalize f.op = op at *
  go_enter Try.func20, Try.ntmps20
  go_upto_region 1 with fail
  have N := Blk.new' w #[.int .i64 ver, .bool resp, .bool er, .bool more, .int .i64 op, .int .i64 (R 0 : Int), .int .i64 (R 1 : Int), .int .i64 (R 2 : Int), .int .i64 (R 3 : Int), .slice da (R 4) dc] 24
  have B0 := balloc (brefl w) (.cells #[.int .i64 ver, .bool resp, .bool er, .bool more, .int .i64 op, .int .i64 (R 0 : Int), .int .i64 (R 1 : Int), .int .i64 (R 2 : Int), .int .i64 (R 3 : Int), .slice da (R 4) dc] 24)
  generalize w.alloc (.cells #[.int .i64 ver, .bool resp, .bool er, .bool more, .int .i64 op, .int .i64 (R 0 : Int), .int .i64 (R 1 : Int), .int .i64 (R 2 : Int), .int .i64 (R 3 : Int), .slice da (R 4) dc] 24) = w1 at *
  have S1 : w.heap.size < w1.heap.size := N.1
  generalize hb0 : w.heap.size = b0 at *
  obtain ⟨v', w', hr, o', b', g'⟩ := app1g (Own.nil w1 w1.heap.size) x0 (Nat.le_refl _) (by simp) 22
  have c0 : w1.cell? ⟨b0, 0, none⟩ = some (.int .i64 ver) := (N.2 0 _ rfl).1
  have N' := N.below b'
  have O1 := Lib.hid o'
  have D1 := Lib.hid b'
  have S2 := Lib.hid b'.size
  have B0 := Lib.hid B0
  clear b' o'
  go_wp2_with (first | (at_builtin; refine wpList_append_eq rfl _ _ 22 rfl _ _ v' w' rfl rfl hr ?_))
  clear hr c0 g'
  have KP : Hid (∀ z, Below w1.heap.size w1 z → z.cell? ⟨b0, 1, none⟩ = some (.bool resp) ∧ z.cell? ⟨b0, 2, none⟩ = some (.bool er) ∧ z.cell? ⟨b0, 3, none⟩ = some (.bool more) ∧ z.cell? ⟨b0, 4, none⟩ = some (.int .i64 op) ∧ Below w1.heap.size w1 z) := Lib.hid fun z k =>
    ⟨((N.below k).2 1 _ rfl).1, ((N.below k).2 2 _ rfl).1, ((N.below k).2 3 _ rfl).1, ((N.below k).2 4 _ rfl).1, k⟩
  have KD := Lib.hid (KP.out _ D1.out.drew)
  have KC := Lib.hid (fun wa wb (d : Below w1.heap.size w1 wa) (d2 : Below wa.heap.size wa wb) => KP.out wb (bstep d d2))
  have OD := own_below O1.out (show Below w'.heap.size w' w'.drew from (brefl w').drew)
  obtain ⟨v2', w2', hr2, o2', b2', g2'⟩ := app1g OD x1 (by show w1.heap.size ≤ w'.heap.size; exact S2.out) (by simp) 22
  have E4 := Lib.hid (bstepB D1.out.drew b2')
  refine wp_region_noPanic ?_
  refine wp_region_held_drew (S := fun z => z.cell? ⟨b0, 1, none⟩ = some (.bool resp) ∧ z.cell? ⟨b0, 2, none⟩ = some (.bool er) ∧ z.cell? ⟨b0, 3, none⟩ = some (.bool more) ∧ z.cell? ⟨b0, 4, none⟩ = some (.int .i64 op) ∧ Below w1.heap.size w1 z) (by kernel_rfl) KD.out (fun hHeld => ?_)
  refine wpAnyH_take (i := 0) (v := ?_) rfl (by kernel_rfl) (by kernel_rfl) (by kernel_rfl) (fun _ _ _ h => h) (Or.inl ⟨by rfl, ?_⟩) hHeld ?_
  rotate_left
  · ((intro w hSw; (try dsimp only at hSw); go_simp); try with_reducible rfl)
  (try simp only [List.getElem_toArray, List.getElem_cons_succ, List.getElem_cons_zero, Act.put, List.setIfInBounds_toArray, List.set_cons_zero, List.set_cons_succ])
  refine wpAnyH_take (i := 1) (v := ?_) rfl (by kernel_rfl) (by kernel_rfl) (by kernel_rfl) (fun _ _ _ h => h) (Or.inl ⟨by rfl, ?_⟩) hHeld ?_
  rotate_left
  · ((intro w hSw; (try dsimp only at hSw); go_simp); try with_reducible rfl)
  (try simp only [List.getElem_toArray, List.getElem_cons_succ, List.getElem_cons_zero, Act.put, List.setIfInBounds_toArray, List.set_cons_zero, List.set_cons_succ])
  refine wpAnyH_take (i := 2) (v := ?_) rfl (by kernel_rfl) (by kernel_rfl) (by kernel_rfl) (fun _ _ _ h => h) (Or.inl ⟨by rfl, ?_⟩) hHeld ?_
  rotate_left
  · ((intro w hSw; (try dsimp only at hSw); go_simp); try with_reducible rfl)
  (try simp only [List.getElem_toArray, List.getElem_cons_succ, List.getElem_cons_zero, Act.put, List.setIfInBounds_toArray, List.set_cons_zero, List.set_cons_succ])
  refine wpAnyH_take (i := 4) (v := ?_) rfl (by kernel_rfl) (by kernel_rfl) (by kernel_rfl) (fun _ _ _ h => h) (Or.inl ⟨by rfl, ?_⟩) hHeld ?_
  rotate_left
  · ((intro w hSw; (try dsimp only at hSw); go_simp); try with_reducible rfl)
  (try simp only [List.getElem_toArray, List.getElem_cons_succ, List.getElem_cons_zero, Act.put, List.setIfInBounds_toArray, List.set_cons_zero, List.set_cons_succ])
  refine wpAnyH_take (i := 5) (v := ?_) rfl (by kernel_rfl) (by kernel_rfl) (by kernel_rfl) (fun _ _ _ h => h) (Or.inl ⟨by rfl, ?_⟩) hHeld ?_
  rotate_left
  · ((intro w hSw; (try dsimp only at hSw); go_simp); try with_reducible rfl)
  (try simp only [List.getElem_toArray, List.getElem_cons_succ, List.getElem_cons_zero, Act.put, List.setIfInBounds_toArray, List.set_cons_zero, List.set_cons_succ])
  refine wpAnyH_take (i := 8) (v := ?_) rfl (by kernel_rfl) (by kernel_rfl) (by kernel_rfl) (fun _ _ _ h => h) (Or.inl ⟨by rfl, ?_⟩) hHeld ?_
  rotate_left
  · ((intro w hSw; (try dsimp only at hSw); go_simp); try with_reducible rfl)
  (try simp only [List.getElem_toArray, List.getElem_cons_succ, List.getElem_cons_zero, Act.put, List.setIfInBounds_toArray, List.set_cons_zero, List.set_cons_succ])
  refine wpAnyH_take (i := 9) (v := ?_) rfl (by kernel_rfl) (by kernel_rfl) (by kernel_rfl) (fun _ _ _ h => h) (Or.inl ⟨by rfl, ?_⟩) hHeld ?_
  rotate_left
  · ((intro w hSw; (try dsimp only at hSw); go_simp); try with_reducible rfl)
  (try simp only [List.getElem_toArray, List.getElem_cons_succ, List.getElem_cons_zero, Act.put, List.setIfInBounds_toArray, List.set_cons_zero, List.set_cons_succ])
  refine wpAnyH_take (i := 12) (v := ?_) rfl (by kernel_rfl) (by kernel_rfl) (by kernel_rfl) (fun _ _ _ h => h) (Or.inl ⟨by rfl, ?_⟩) hHeld ?_
  rotate_left
  · ((intro w hSw; (try dsimp only at hSw); go_simp); try with_reducible rfl)
  (try simp only [List.getElem_toArray, List.getElem_cons_succ, List.getElem_cons_zero, Act.put, List.setIfInBounds_toArray, List.set_cons_zero, List.set_cons_succ])
  refine wpAnyH_take (i := 13) (v := ?_) rfl (by kernel_rfl) (by kernel_rfl) (by kernel_rfl) (fun _ _ _ h => h) (Or.inl ⟨by rfl, ?_⟩) hHeld ?_
  rotate_left
  · ((intro w hSw; (try dsimp only at hSw); go_simp); try with_reducible rfl)
  (try simp only [List.getElem_toArray, List.getElem_cons_succ, List.getElem_cons_zero, Act.put, List.setIfInBounds_toArray, List.set_cons_zero, List.set_cons_succ])
  refine wpAnyH_take (i := 14) (v := ?_) rfl (by kernel_rfl) (by kernel_rfl) (by kernel_rfl) (fun _ _ _ h => h) (Or.inl ⟨by rfl, ?_⟩) hHeld ?_
  rotate_left
  · ((intro w hSw; (try dsimp only at hSw); go_simp); try with_reducible rfl)
  (try simp only [List.getElem_toArray, List.getElem_cons_succ, List.getElem_cons_zero, Act.put, List.setIfInBounds_toArray, List.set_cons_zero, List.set_cons_succ])
  refine wpAnyH_ready (rs := [3]) (by kernel_rfl) (by simp) (AllReadyH.cons rfl (fun KQ hKQ => ?_) AllReadyH.nil)
  go_simp
  refine (BC1.out _).mono ?_
  rintro e w' ⟨rfl, rfl⟩
  go_wp2_with fail
  refine hKQ.out _ _ hHeld (fun hH2 => ?_)
  clear hKQ KQ hHeld
  have hHeld := hH2
  clear hH2
  (try simp only [List.getElem_toArray, List.getElem_cons_succ, List.getElem_cons_zero, Act.put, List.setIfInBounds_toArray, List.set_cons_zero, List.set_cons_succ])
  refine wpAnyH_ready (rs := [6]) (by kernel_rfl) (by simp) (AllReadyH.cons rfl (fun KQ hKQ => ?_) AllReadyH.nil)
  go_simp
  refine (BC2.out _).mono ?_
  rintro e w' ⟨rfl, rfl⟩
  go_wp2_with fail
  refine hKQ.out _ _ hHeld (fun hH2 => ?_)
  clear hKQ KQ hHeld
  have hHeld := hH2
  clear hH2
  (try simp only [List.getElem_toArray, List.getElem_cons_succ, List.getElem_cons_zero, Act.put, List.setIfInBounds_toArray, List.set_cons_zero, List.set_cons_succ])
  refine wpAnyH_take (i := 7) (v := ?_) rfl (by kernel_rfl) (by kernel_rfl) (by kernel_rfl) (fun _ _ _ h => h) (Or.inl ⟨by rfl, ?_⟩) hHeld ?_
  rotate_left
  · ((intro w hSw; (try dsimp only at hSw); go_simp); try with_reducible rfl)
  (try simp only [List.getElem_toArray, List.getElem_cons_succ, List.getElem_cons_zero, Act.put, List.setIfInBounds_toArray, List.set_cons_zero, List.set_cons_succ])
  refine wpAnyH_ready (rs := [10]) (by kernel_rfl) (by simp) (AllReadyH.cons rfl (fun KQ hKQ => ?_) AllReadyH.nil)
  go_simp
  refine (BC3.out _).mono ?_
  rintro e w' ⟨rfl, rfl⟩
  go_wp2_with fail
  refine hKQ.out _ _ hHeld (fun hH2 => ?_)
  clear hKQ KQ hHeld
  have hHeld := hH2
  clear hH2
  (try simp only [List.getElem_toArray, List.getElem_cons_succ, List.getElem_cons_zero, Act.put, List.setIfInBounds_toArray, List.set_cons_zero, List.set_cons_succ])
  refine wpAnyH_take (i := 11) (v := ?_) rfl (by kernel_rfl) (by kernel_rfl) (by kernel_rfl) (fun _ _ _ h => h) (Or.inl ⟨by rfl, ?_⟩) hHeld ?_
  rotate_left
  · ((intro w hSw; (try dsimp only at hSw); go_simp); try with_reducible rfl)
  (try simp only [List.getElem_toArray, List.getElem_cons_succ, List.getElem_cons_zero, Act.put, List.setIfInBounds_toArray, List.set_cons_zero, List.set_cons_succ])
  refine wpAnyH_take (i := 15) (v := ?_) rfl (by kernel_rfl) (by kernel_rfl) (by kernel_rfl) (fun _ _ _ h => h) (Or.inl ⟨by rfl, ?_⟩) hHeld ?_
  rotate_left
  · ((intro w hSw; (try dsimp only at hSw); go_simp); try with_reducible rfl)
  (try simp only [List.getElem_toArray, List.getElem_cons_succ, List.getElem_cons_zero, Act.put, List.setIfInBounds_toArray, List.set_cons_zero, List.set_cons_succ])
  refine wpAnyH_ready (rs := [16]) (by kernel_rfl) (by simp) (AllReadyH.cons rfl (fun KQ hKQ => ?_) AllReadyH.nil)
  go_simp
  refine hKQ.out _ _ (KC.out _ _ hHeld.2.2.2.2 (balloc (brefl _) _)) (fun hH2 => ?_)
  clear hKQ KQ hHeld
  have hHeld := hH2
  clear hH2
  (try simp only [List.getElem_toArray, List.getElem_cons_succ, List.getElem_cons_zero, Act.put, List.setIfInBounds_toArray, List.set_cons_zero, List.set_cons_succ])
  refine wpAnyH_ready (rs := [17]) (by kernel_rfl) (by simp) (AllReadyH.cons rfl (fun KQ hKQ => ?_) AllReadyH.nil)
  refine step_append_eq rfl (.tmp 15) (.tmp 31) 22 rfl _ _ v2' w2' rfl rfl hr2 ?_
  refine hKQ.out _ _ (KP.out _ E4.out) (fun hH2 => ?_)
  clear hKQ KQ hHeld
  have hHeld := hH2
  clear hH2
  (try simp only [List.getElem_toArray, List.getElem_cons_succ, List.getElem_cons_zero, Act.put, List.setIfInBounds_toArray, List.set_cons_zero, List.set_cons_succ])
  refine wpAnyH_take (i := 18) (v := ?_) rfl (by kernel_rfl) (by kernel_rfl) (by kernel_rfl) (fun _ _ _ h => h) (Or.inl ⟨by rfl, ?_⟩) hHeld ?_
  rotate_left
  · ((intro w hSw; (try dsimp only at hSw); go_simp); try with_reducible rfl)
  (try simp only [List.getElem_toArray, List.getElem_cons_succ, List.getElem_cons_zero, Act.put, List.setIfInBounds_toArray, List.set_cons_zero, List.set_cons_succ])
  refine wpAnyH_done (by kernel_rfl) ?_ _
  refine NoPanic.normal ?_
  clear hHeld KP KD KC BC1 BC2 BC3 hr2 OD g2'
  have NB := N.below E4.out
  have S3 := Lib.hid E4.out.size
  have O2 := Lib.hid o2'
  clear o2' b2' E1 E2 E3 W0 W4 O6 N'
  have c5 : w2'.cell? ⟨b0, 5, none⟩ = some (.int .i64 (R 0 : Int)) := (NB.2 5 _ rfl).1
  have c6 : w2'.cell? ⟨b0, 6, none⟩ = some (.int .i64 (R 1 : Int)) := (NB.2 6 _ rfl).1
  have c7 : w2'.cell? ⟨b0, 7, none⟩ = some (.int .i64 (R 2 : Int)) := (NB.2 7 _ rfl).1
  have c8 : w2'.cell? ⟨b0, 8, none⟩ = some (.int .i64 (R 3 : Int)) := (NB.2 8 _ rfl).1
  have c9 : w2'.cell? ⟨b0, 9, none⟩ = some (.slice da (R 4) dc) := (NB.2 9 _ rfl).1
  clear NB
  go_upto_region 4 with fail
  clear c5 c6 c7 c8 c9
  have M := Lib.hid (Blk.new' w2' #[.int .i64 (R 0 : Int), .int .i64 (R 1 : Int), .int .i64 (R 2 : Int), .int .i64 (R 3 : Int), .int .i64 (R 4 : Int)] 3)
  have O3 := Lib.hid (own_below O2.out (balloc (brefl w2') (.cells #[.int .i64 (R 0 : Int), .int .i64 (R 1 : Int), .int .i64 (R 2 : Int), .int .i64 (R 3 : Int), .int .i64 (R 4 : Int)] 3)))
  have D3 := Lib.hid (bstepB E4.out ((balloc (brefl w2') (.cells #[.int .i64 (R 0 : Int), .int .i64 (R 1 : Int), .int .i64 (R 2 : Int), .int .i64 (R 3 : Int), .int .i64 (R 4 : Int)] 3)).mono S3.out))
  have NO : Hid (v2'.ownBlock ≠ some w2'.heap.size) := Lib.hid (fun e => by have := own_lt O2.out e; omega)
  have Z2 : Hid (w1.heap.size ≤ (w2'.alloc (.cells #[.int .i64 (R 0 : Int), .int .i64 (R 1 : Int), .int .i64 (R 2 : Int), .int .i64 (R 3 : Int), .int .i64 (R 4 : Int)] 3)).heap.size) := Lib.hid (by have := S3.out; simp; omega)
  generalize w2'.alloc (.cells #[.int .i64 (R 0 : Int), .int .i64 (R 1 : Int), .int .i64 (R 2 : Int), .int .i64 (R 3 : Int), .int .i64 (R 4 : Int)] 3) = w3 at *
  generalize w2'.heap.size = b3 at *
  go_loopw [0, 46] (fun v iv wr => ∃ j : Nat, j ≤ 5 ∧ Own wr w1.heap.size v ([x0] ++ [x1] ++ twos R j) ∧ iv = .int .i64 j ∧ Below w1.heap.size w1 wr ∧ Gr w3 v2' wr v) (fun _ iv _ => 5 - (intOf iv).toNat)
  case atStart => exact ⟨0, by omega, by simpa [twos] using O3.out, rfl, D3.out, Gr.rf _ _⟩
  case round =>
    obtain ⟨j, hj, ho, rfl, hbw, hg⟩ := hrel
    rename World => wr
    have HO := Lib.hid ho
    have HB := Lib.hid hbw
    have HG := Lib.hid hg
    clear ho hbw hg
    by_cases c : j < 5
    · have MJ := HG.out.blk M.out NO.out
      have cj : wr.cell? ⟨b3, j, none⟩ = some (.int .i64 (R j : Int)) := (MJ.2 j _ (by
        match j with
        | 0 => rfl
        | 1 => rfl
        | 2 => rfl
        | 3 => rfl
        | 4 => rfl
        | j + 5 => omega)).1
      have rj := K5.out j
      have EJ : Hid (twos R (j + 1) = twos R j ++ b2 (R j)) := Lib.hid rfl
      obtain ⟨v', w', hr, o', b', g'⟩ := appLg HO.out (b2 (R j)) (by simp [b2]) (Nat.le_trans Z2.out HG.out.1) (by simp [twos_len, b2]; omega) 22
      have r0 : (0 : Int) ≤ (R j : Int) := by omega
      have r1 : (R j : Int) ≤ 65535 := by omega
      have jl : (j : Int) < 5 := by omega
      have W1 : IntKind.u8.wrap ((R j : Int) / 256) = ((R j / 256 : Nat) : Int) := by rw [u8_wrap]; omega
      have W2 : IntKind.u8.wrap (R j : Int) = ((R j % 256 : Nat) : Int) := by rw [u8_wrap]; omega
      simp only [cl, b2, List.map_cons, List.map_nil, List.length_cons, List.length_nil, Nat.reduceAdd] at hr
      have OJ := Lib.hid o'
      have BJ := Lib.hid (bstepB HB.out b')
      have GJ := Lib.hid (HG.out.tr g')
      generalize R j / 256 = y1 at *
      generalize R j % 256 = y2 at *
      generalize R j = y at *
      clear MJ o' b' g'
      go_wp2_with (first | (at_builtin; refine wpList_append_eq rfl _ _ 22 rfl _ _ v' w' rfl rfl hr ?_))
      exact ⟨⟨j + 1, by omega, by rw [EJ.out, ← List.append_assoc]; exact OJ.out, rfl, BJ.out, GJ.out⟩, by simp [intOf]; omega⟩
    · obtain rfl : j = 5 := by omega
      go_wp2_with fail
      go_ret
      exact ⟨⟨_, rfl, by rw [HE.out]; exact HO.out.le (by omega)⟩, B0.out.trans (HB.out.mono (Nat.le_of_lt S1))⟩
end Go.Proofs.Yteigmnbbfmcihaa.Ct
