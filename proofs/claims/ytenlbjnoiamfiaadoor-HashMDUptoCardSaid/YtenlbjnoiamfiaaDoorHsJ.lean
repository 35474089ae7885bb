/-
  The contracts of the leaf functions of package hash: bits.RotateLeft32, rotateRight, md5Mix, bitCount, appendLowFirst, appendHighFirst.
  Conditions: the arguments are of their kinds; rotations go from 1 to 31.
-/
import Derived.Test.YtenlbjnoiamfiaaDoorHsF
namespace Go.Proofs.YtenlbjnoiamfiaaDoor.Hs
open Go.RowKit
set_option linter.unusedVariables false
set_option linter.unusedSimpArgs false

theorem and31 (a : Int) : bits BinOp.and IntKind.u64 a 31 = a % 32 := by
  have e : (BitVec.ofInt 64 a &&& BitVec.ofInt 64 31).toNat = (a % 32).toNat := by
    rw [BitVec.toNat_and, BitVec.toNat_ofInt, BitVec.toNat_ofInt]
    have h : ((31 : Int) % ((2 ^ 64 : Nat) : Int)).toNat = 2 ^ 5 - 1 := by decide
    rw [h, Nat.and_two_pow_sub_one_eq_mod]
    omega
  show IntKind.u64.wrap ((BitVec.ofInt 64 a &&& BitVec.ofInt 64 31).toNat : Int) = _
  rw [e]
  simp only [IntKind.wrap, IntKind.bits, IntKind.signed]
  simp
  omega

set_option maxHeartbeats 400000 in
theorem rotl_c (x n : Nat) (w : World) (hx : x < 4294967296) (h1 : 1 ≤ n) (h2 : n ≤ 31) :
    Calls Tryd.prog 38 #[.int .u32 x, .int .i64 n] w fun e w' => e = .returned (.int .u32 (rol x n)) ∧ w' = w := by
  have R := Lib.hid (rol_or x n hx h1 h2)
  have A : bits BinOp.and IntKind.u64 (n : Int) 31 = (n : Int) := by rw [and31]; omega
  have k1 : (0 : Int) ≤ (n : Int) := by omega
  have k2 : (n : Int) ≤ 31 := by omega
  have k3 : (0 : Int) ≤ (x : Int) := by omega
  have k4 : (x : Int) < 4294967296 := by omega
  go_enter Tryd.func38, Tryd.ntmps38
  go_wp2_with fail
  go_ret
  refine ⟨ret_w ?_, rfl⟩
  rw [← R.out.1]
  simp
set_option maxHeartbeats 400000 in
theorem rotn_c (x n : Nat) (w : World) (hx : x < 4294967296) (h1 : 1 ≤ n) (h2 : n ≤ 31) :
    Calls Tryd.prog 38 #[.int .u32 x, .int .i64 (-(n : Int))] w fun e w' => e = .returned (.int .u32 (ror x n)) ∧ w' = w := by
  have R := Lib.hid (rol_or x (32 - n) hx (by omega) (by omega))
  have A : bits BinOp.and IntKind.u64 (IntKind.u64.wrap (-(n : Int))) 31 = ((32 - n : Nat) : Int) := by
    rw [and31]
    simp only [IntKind.wrap, IntKind.bits, IntKind.signed]
    simp
    omega
  have k1 : (1 : Int) ≤ (n : Int) := by omega
  have k2 : (n : Int) ≤ 31 := by omega
  have k3 : (0 : Int) ≤ (x : Int) := by omega
  have k4 : (x : Int) < 4294967296 := by omega
  go_enter Tryd.func38, Tryd.ntmps38
  go_wp2_with fail
  go_ret
  refine ⟨ret_w ?_, rfl⟩
  unfold ror
  rw [← R.out.1]
  simp
set_option maxHeartbeats 400000 in
theorem rotateRight_c (x n : Nat) (w : World) (hx : x < 4294967296) (h1 : 1 ≤ n) (h2 : n ≤ 31) :
    Calls Tryd.prog 39 #[.int .u32 x, .int .i64 n] w fun e w' => e = .returned (.int .u32 (ror x n)) ∧ w' = w := by
  have k1 : (1 : Int) ≤ (n : Int) := by omega
  have k2 : (n : Int) ≤ 31 := by omega
  have H := Lib.hid (rotn_c x n w hx h1 h2)
  go_enter Tryd.func39, Tryd.ntmps39
  go_wp2_with fail
  refine H.out.mono ?_
  rintro e w' ⟨rfl, rfl⟩
  go_wp2_with fail
  go_ret
  exact ⟨rfl, rfl⟩

set_option maxRecDepth 100000 in
set_option maxHeartbeats 1000000 in
theorem md5Mix_c (i b c d : Nat) (w : World) (hi : i ≤ 63) (hb : b < 4294967296) (hc : c < 4294967296) (hd : d < 4294967296) :
    Calls Tryd.prog 37 #[.int .i64 i, .int .u32 b, .int .u32 c, .int .u32 d] w fun e w' => e = .returned (.tuple #[.int .u32 (mF i b c d), .int .i64 (mG i)]) ∧ w' = w := by
  have E := Lib.hid (step_eqs b c d hb hc hd)
  have E2 := Lib.hid (step_eqs d b c hd hb hc)
  have F : Hid (mF i b c d = if i < 16 then (b &&& c) ||| ((4294967295 ^^^ b) &&& d) else if i < 32 then (d &&& b) ||| ((4294967295 ^^^ d) &&& c) else if i < 48 then b ^^^ c ^^^ d else c ^^^ (b ||| (4294967295 ^^^ d))) := rfl
  have G : Hid (mG i = if i < 16 then i else if i < 32 then (5 * i + 1) % 16 else if i < 48 then (3 * i + 5) % 16 else 7 * i % 16) := rfl
  have k1 : (0 : Int) ≤ (i : Int) := by omega
  have k2 : (i : Int) ≤ 63 := by omega
  have s0 : IntKind.u32.signed = false := rfl
  have q1 : (5 * (i : Int) + 1).tmod 16 = (5 * (i : Int) + 1) % 16 := Int.tmod_eq_emod_of_nonneg (by omega)
  have q2 : (3 * (i : Int) + 5).tmod 16 = (3 * (i : Int) + 5) % 16 := Int.tmod_eq_emod_of_nonneg (by omega)
  have q3 : (7 * (i : Int)).tmod 16 = (7 * (i : Int)) % 16 := Int.tmod_eq_emod_of_nonneg (by omega)
  by_cases c0 : i < 16
  · have t0 : decide ((i : Int) < 16) = true := by simp; omega
    go_enter Tryd.func37, Tryd.ntmps37
    go_wp2_with fail
    go_ret2
    exact ⟨ret_wi (by rw [F.out, if_pos c0, E.out.1]) (by rw [G.out, if_pos c0]), rfl⟩
  · have t0 : decide ((i : Int) < 16) = false := by simp; omega
    by_cases c1 : i < 32
    · have t1 : decide ((i : Int) < 32) = true := by simp; omega
      go_enter Tryd.func37, Tryd.ntmps37
      go_wp2_with fail
      go_ret2
      exact ⟨ret_wi (by rw [F.out, if_neg c0, if_pos c1, E2.out.1]) (by rw [G.out, if_neg c0, if_pos c1]; omega), rfl⟩
    · have t1 : decide ((i : Int) < 32) = false := by simp; omega
      by_cases c2 : i < 48
      · have t2 : decide ((i : Int) < 48) = true := by simp; omega
        go_enter Tryd.func37, Tryd.ntmps37
        go_wp2_with fail
        go_ret2
        exact ⟨ret_wi (by rw [F.out, if_neg c0, if_neg c1, if_pos c2, E.out.2.1]) (by rw [G.out, if_neg c0, if_neg c1, if_pos c2]; omega), rfl⟩
      · have t2 : decide ((i : Int) < 48) = false := by simp; omega
        go_enter Tryd.func37, Tryd.ntmps37
        go_wp2_with fail
        go_ret2
        exact ⟨ret_wi (by rw [F.out, if_neg c0, if_neg c1, if_neg c2, E.out.2.2]) (by rw [G.out, if_neg c0, if_neg c1, if_neg c2]; omega), rfl⟩

set_option maxHeartbeats 400000 in
theorem bitCount_c (a : Option Addr) (n cap : Nat) (w : World) (hn : n ≤ 140737488351232) :
    Calls Tryd.prog 18 #[.slice a n cap] w fun e w' => e = .returned (.int .u64 (8 * n : Nat)) ∧ w' = w := by
  have k1 : (0 : Int) ≤ (n : Int) := by omega
  have k2 : (n : Int) ≤ 140737488351232 := by omega
  go_enter Tryd.func18, Tryd.ntmps18
  go_wp2_with fail
  go_ret
  refine ⟨?_, rfl⟩
  congr 1

/-- append of bytes that the statement lays. -/
theorem appL {w : World} {base : Nat} {v : Value} {l : List Nat} (h : Own w base v l) (k : List Nat) (hk : 0 < k.length) (hb : base ≤ w.heap.size) (hn : l.length + k.length ≤ 140737488355328) (ty : TypeId) :
    ∃ v' w', (Builtin.append_ #[22, 22] ty #[v, .slice (some ⟨w.heap.size, 0, none⟩) k.length k.length]).run Tryd.prog (w.alloc (.cells (cl k).toArray 5)) = .ok v' w' ∧ Own w' base v' (l ++ k) ∧ Below base w w' ∧ w.heap.size ≤ w'.heap.size := by
  obtain ⟨i, hi, hz, hs, hby⟩ := info_parts info_u8
  obtain ⟨v', w', hr, ho, hg, _, _⟩ := run_append_own_at (P := Tryd.prog) (w.alloc (.cells (cl k).toArray 5)) base 22 ty 5 i (.int .u8 0) 1 1 Tryd.underlying22 hi hz hs hby rfl (by decide) v l.length (cl l) (World.ownsRow.alloc h _) ⟨w.heap.size, 0, none⟩ k.length k.length (cl k) (by rw [cl_len]; omega)
    (by
      intro j u hj
      have e : (⟨w.heap.size, 0, none⟩ : Addr).add j = ⟨w.heap.size, j, none⟩ := by unfold Addr.add; split <;> simp_all
      rw [e, World.cell?_alloc_mark w _ _ (0, 0) j]
      simpa using hj) (cl_one _) (by unfold maxLen; omega) (by omega) (by simp; omega)
  have hB : Below base w (w.alloc (.cells (cl k).toArray 5)) := (Below.refl base w).alloc hb _
  have hB2 := hB.grown hg (by simp; omega) h.block
  refine ⟨v', w', hr, ?_, hB2, hB2.size⟩
  unfold Own
  rw [cl_app, List.length_append]
  exact ho
theorem wb_low (x : Nat) : wb true x 4 = [x % 256, x / 256 % 256, x / 65536 % 256, x / 16777216 % 256] := by simp [wb, wbAt, List.range_succ]
theorem wb_high (x : Nat) : wb false x 4 = [x / 16777216 % 256, x / 65536 % 256, x / 256 % 256, x % 256] := by simp [wb, wbAt, List.range_succ]
set_option maxRecDepth 100000 in
set_option maxHeartbeats 1000000 in
theorem appLow_c {w : World} {base : Nat} {v : Value} {l : List Nat} (h : Own w base v l) (x : Nat) (hx : x < 4294967296) (hb : base ≤ w.heap.size) (hn : l.length + 4 ≤ 140737488355328) :
    Calls Tryd.prog 19 #[v, .int .u32 x] w fun e w' => (∃ v', e = .returned v' ∧ Own w' base v' (l ++ wb true x 4)) ∧ Below base w w' ∧ w.heap.size ≤ w'.heap.size := by
  obtain ⟨v', w', hr, ho, hB, hs⟩ := appL h (wb true x 4) (by rw [wb_len]; omega) hb (by rw [wb_len]; omega) 22
  rw [wb_low] at hr
  have HO := Lib.hid ho
  have HB := Lib.hid hB
  have HS := Lib.hid hs
  clear ho hB hs h hb
  have r : (Builtin.append_ #[22, 22] 22 #[v, .slice (some ⟨w.heap.size, 0, none⟩) 4 4]).run Tryd.prog (w.alloc (.cells #[.int .u8 ((x : Int) % 256), .int .u8 ((x : Int) / 256 % 256), .int .u8 ((x : Int) / 65536 % 256), .int .u8 ((x : Int) / 16777216)] 5)) = .ok v' w' := by
    rw [← hr, Nat.mod_eq_of_lt (show x / 16777216 < 256 from by omega)]
    simp [cl]
  clear hr
  replace r := Lib.hid r
  have k3 : (0 : Int) ≤ (x : Int) := by omega
  go_enter Tryd.func19, Tryd.ntmps19
  go_wp2_with (at_builtin; refine wpList_append_eq rfl _ _ 22 rfl _ _ v' w' rfl rfl r.out ?_)
  go_ret
  exact ⟨⟨_, rfl, HO.out⟩, HB.out, HS.out⟩
set_option maxRecDepth 100000 in
set_option maxHeartbeats 1000000 in
theorem appHigh_c {w : World} {base : Nat} {v : Value} {l : List Nat} (h : Own w base v l) (x : Nat) (hx : x < 4294967296) (hb : base ≤ w.heap.size) (hn : l.length + 4 ≤ 140737488355328) :
    Calls Tryd.prog 29 #[v, .int .u32 x] w fun e w' => (∃ v', e = .returned v' ∧ Own w' base v' (l ++ wb false x 4)) ∧ Below base w w' ∧ w.heap.size ≤ w'.heap.size := by
  obtain ⟨v', w', hr, ho, hB, hs⟩ := appL h (wb false x 4) (by rw [wb_len]; omega) hb (by rw [wb_len]; omega) 22
  rw [wb_high] at hr
  have HO := Lib.hid ho
  have HB := Lib.hid hB
  have HS := Lib.hid hs
  clear ho hB hs h hb
  have r : (Builtin.append_ #[22, 22] 22 #[v, .slice (some ⟨w.heap.size, 0, none⟩) 4 4]).run Tryd.prog (w.alloc (.cells #[.int .u8 ((x : Int) / 16777216), .int .u8 ((x : Int) / 65536 % 256), .int .u8 ((x : Int) / 256 % 256), .int .u8 ((x : Int) % 256)] 5)) = .ok v' w' := by
    rw [← hr, Nat.mod_eq_of_lt (show x / 16777216 < 256 from by omega)]
    simp [cl]
  clear hr
  replace r := Lib.hid r
  have k3 : (0 : Int) ≤ (x : Int) := by omega
  go_enter Tryd.func29, Tryd.ntmps29
  go_wp2_with (at_builtin; refine wpList_append_eq rfl _ _ 22 rfl _ _ v' w' rfl rfl r.out ?_)
  go_ret
  exact ⟨⟨_, rfl, HO.out⟩, HB.out, HS.out⟩
end Go.Proofs.YtenlbjnoiamfiaaDoor.Hs
