/-
  The contract of wire.header: what 48 bytes say.
  Conditions: none.
-/
import Derived.Test.YtmjbnbjkpimjmaaWiM
namespace Go.Proofs.Ytmjbnbjkpimjmaa.Wi
open Go.RowKit Go.ChangeShapes Go.WideShapes Go.ChangeAt Go.Joins By
set_option linter.unusedVariables false
set_option linter.unusedSimpArgs false

theorem wrap_i64 {x : Int} (h0 : 0 ≤ x) (h1 : x ≤ 9223372036854775807) : IntKind.i64.wrap x = x := wrap_in (by omega) h1
theorem wrap_u32 {x : Int} (h0 : 0 ≤ x) (h1 : x < 4294967296) : IntKind.u32.wrap x = x := by
  simp only [IntKind.wrap, IntKind.bits, IntKind.signed]
  simp
  omega
theorem number_at {w : World} {b o n : Nat} {f : Nat → Nat} (cap : Nat) (h : Bs w b o n f) (a m : Nat) (hm : m ≤ 8) (ha : a + m ≤ n) : Calls Try.prog 29 #[.slice (some ⟨b, o + a, none⟩) m cap] w fun e w' => e = .returned (.int .u64 (gt f a m : Nat)) ∧ w' = w := by
  have := number_c cap (Bs.part h a m ha) hm
  rwa [gt_shift, Nat.add_zero] at this
theorem and7 {x : Nat} (h : x < 256) : bits BinOp.and IntKind.u8 (x : Int) 7 = ((x % 8 : Nat) : Int) := by
  have e : (BitVec.ofInt 8 (x : Int) &&& BitVec.ofInt 8 7).toNat = x % 8 := by
    rw [BitVec.toNat_and, BitVec.toNat_ofInt, BitVec.toNat_ofInt]
    have h1 : ((7 : Int) % ((2 ^ 8 : Nat) : Int)).toNat = 2 ^ 3 - 1 := by decide
    rw [h1, Nat.and_two_pow_sub_one_eq_mod]
    omega
  show IntKind.u8.wrap ((BitVec.ofInt 8 (x : Int) &&& BitVec.ofInt 8 7).toNat : Int) = _
  rw [e]
  simp only [IntKind.wrap, IntKind.bits, IntKind.signed]
  simp
  omega
theorem i8_all : ∀ x : Fin 256, IntKind.i8.wrap (x.val : Int) = sg x.val := by decide +kernel
theorem i8_sg {x : Nat} (h : x < 256) : IntKind.i8.wrap (x : Int) = sg x := i8_all ⟨x, h⟩
set_option maxRecDepth 100000 in
set_option maxHeartbeats 4000000 in
theorem header_c {w : World} {b o cap : Nat} {f : Nat → Nat} (h : Bs w b o 48 f) (hc : 48 ≤ cap) (hc2 : cap ≤ 9223372036854775807) :
    Calls Try.prog 28 #[.slice (some ⟨b, o, none⟩) 48 cap] w fun e w' => e = .returned (.agg #[.int .i64 (hd f).leap, .int .i64 (hd f).ver, .int .i64 (hd f).mode, .int .i64 (hd f).strat, .int .i64 (hd f).poll, .int .i64 (hd f).prec, .int .u32 ((hd f).rd : Nat), .int .u32 ((hd f).rs : Nat), .int .u32 ((hd f).rid : Nat), .int .u64 ((hd f).tref : Nat), .int .u64 ((hd f).torg : Nat), .int .u64 ((hd f).trec : Nat), .int .u64 ((hd f).txm : Nat)]) ∧ Below w.heap.size w w' := by
  have q3 : (48 : Int) ≤ (cap : Int) := by omega
  have q4 : (cap : Int) ≤ 9223372036854775807 := by omega
  go_enter Try.func28, Try.ntmps28
  go_upto_region 1 with fail
  have N := Blk.new' w #[.int .i64 0, .int .i64 0, .int .i64 0, .int .i64 0, .int .i64 0, .int .i64 0, .int .u32 0, .int .u32 0, .int .u32 0, .int .u64 0, .int .u64 0, .int .u64 0, .int .u64 0] 25
  have B0 := balloc (brefl w) (.cells #[.int .i64 0, .int .i64 0, .int .i64 0, .int .i64 0, .int .i64 0, .int .i64 0, .int .u32 0, .int .u32 0, .int .u32 0, .int .u64 0, .int .u64 0, .int .u64 0, .int .u64 0] 25)
  generalize w.alloc (.cells #[.int .i64 0, .int .i64 0, .int .i64 0, .int .i64 0, .int .i64 0, .int .i64 0, .int .u32 0, .int .u32 0, .int .u32 0, .int .u64 0, .int .u64 0, .int .u64 0, .int .u64 0] 25) = w1 at *
  refine wp_region_still_tail 51 (by kernel_rfl) (by kernel_rfl) ?_
  change wpStill _ _ w1.drew (fun a' => wpList _ _ _ _ a' w1.drew) _ _
  have H2 : Bs w1.drew b o 48 f := h.below B0.drew
  have N2 : Blk w1.drew w.heap.size #[.int .i64 0, .int .i64 0, .int .i64 0, .int .i64 0, .int .i64 0, .int .i64 0, .int .u32 0, .int .u32 0, .int .u32 0, .int .u64 0, .int .u64 0, .int .u64 0, .int .u64 0].toList := N
  have B2 : Below w.heap.size w w1.drew := B0.drew
  generalize w1.drew = w2 at *
  have c0 := H2.2.2 0 (by omega)
  have c1 := H2.2.2 1 (by omega)
  have c2 := H2.2.2 2 (by omega)
  have c3 := H2.2.2 3 (by omega)
  have d0 := H2.2.1 0
  have d1 := H2.2.1 1
  have d2 := H2.2.1 2
  have d3 := H2.2.1 3
  rw [Nat.add_zero] at c0
  have HV := Lib.hid (version_c cap H2 (by omega))
  have HN := Lib.hid (fun a m (h1 : m ≤ 8) (h2 : a + m ≤ 48) => (number_at (cap - a) H2 a m h1 h2))
  clear N B0 h
  have k4 : (4 : Int) ≤ (cap : Int) := by omega
  have k8 : (8 : Int) ≤ (cap : Int) := by omega
  have n8 : ¬ cap = 8 := by omega
  have k12 : (12 : Int) ≤ (cap : Int) := by omega
  have n12 : ¬ cap = 12 := by omega
  have k16 : (16 : Int) ≤ (cap : Int) := by omega
  have n16 : ¬ cap = 16 := by omega
  have k24 : (24 : Int) ≤ (cap : Int) := by omega
  have n24 : ¬ cap = 24 := by omega
  have k32 : (32 : Int) ≤ (cap : Int) := by omega
  have n32 : ¬ cap = 32 := by omega
  have k40 : (40 : Int) ≤ (cap : Int) := by omega
  have n40 : ¬ cap = 40 := by omega
  have n4 : ¬ cap = 4 := by omega
  have E0 : IntKind.i64.wrap ((f 0 : Int) / 64) = (f 0 : Int) / 64 := wrap_i64 (by omega) (by omega)
  have E1 : bits BinOp.and IntKind.u8 (f 0 : Int) 7 = (f 0 : Int) % 8 := by rw [and7 d0]; omega
  have E2 : IntKind.i64.wrap ((f 0 : Int) % 8) = (f 0 : Int) % 8 := wrap_i64 (by omega) (by omega)
  have l4 := gt_lt H2.2.1 4 4
  have U4 : IntKind.u32.wrap (gt f 4 4 : Int) = (gt f 4 4 : Int) := wrap_u32 (by omega) (by omega)
  have l8 := gt_lt H2.2.1 8 4
  have U8 : IntKind.u32.wrap (gt f 8 4 : Int) = (gt f 8 4 : Int) := wrap_u32 (by omega) (by omega)
  have l12 := gt_lt H2.2.1 12 4
  have U12 : IntKind.u32.wrap (gt f 12 4 : Int) = (gt f 12 4 : Int) := wrap_u32 (by omega) (by omega)
  have E3 : IntKind.i64.wrap (f 1 : Int) = (f 1 : Int) := wrap_i64 (by omega) (by omega)
  have E4 : IntKind.i8.wrap (f 2 : Int) = sg (f 2) := i8_sg d2
  have E5 : IntKind.i8.wrap (f 3 : Int) = sg (f 3) := i8_sg d3
  have g2 := sg_lt _ d2
  have g3 := sg_lt _ d3
  have E6 : IntKind.i64.wrap (sg (f 2)) = sg (f 2) := wrap_in (by omega) (by omega)
  have E7 : IntKind.i64.wrap (sg (f 3)) = sg (f 3) := wrap_in (by omega) (by omega)
  have M : Hid (hd f = ⟨(f 0 / 64 : Nat), (f 0 / 8 % 8 : Nat), (f 0 % 8 : Nat), (f 1 : Nat), sg (f 2), sg (f 3), gt f 4 4, gt f 8 4, gt f 12 4, gt f 16 8, gt f 24 8, gt f 32 8, gt f 40 8, [], 0, 0, []⟩) := Lib.hid rfl
  clear g2 g3 H2 l4 l8 l12
  simp only [List.take_succ_cons, List.take_zero, List.drop_succ_cons, List.drop_zero]
  repeat still_step
  still_call (HV.out)
  repeat still_step
  still_call (HN.out 4 4 (by omega) (by omega))
  repeat still_step
  still_call (HN.out 8 4 (by omega) (by omega))
  repeat still_step
  still_call (HN.out 12 4 (by omega) (by omega))
  repeat still_step
  still_call (HN.out 16 8 (by omega) (by omega))
  repeat still_step
  still_call (HN.out 24 8 (by omega) (by omega))
  repeat still_step
  still_call (HN.out 32 8 (by omega) (by omega))
  repeat still_step
  still_call (HN.out 40 8 (by omega) (by omega))
  repeat still_step
  try refine wpStill_nil ?_
  have z0 := N2.2 0 _ rfl
  obtain ⟨y0, z0⟩ := z0
  have z1 := N2.2 1 _ rfl
  obtain ⟨y1, z1⟩ := z1
  have z2 := N2.2 2 _ rfl
  obtain ⟨y2, z2⟩ := z2
  have z3 := N2.2 3 _ rfl
  obtain ⟨y3, z3⟩ := z3
  have z4 := N2.2 4 _ rfl
  obtain ⟨y4, z4⟩ := z4
  have z5 := N2.2 5 _ rfl
  obtain ⟨y5, z5⟩ := z5
  have z6 := N2.2 6 _ rfl
  obtain ⟨y6, z6⟩ := z6
  have z7 := N2.2 7 _ rfl
  obtain ⟨y7, z7⟩ := z7
  have z8 := N2.2 8 _ rfl
  obtain ⟨y8, z8⟩ := z8
  have z9 := N2.2 9 _ rfl
  obtain ⟨y9, z9⟩ := z9
  have z10 := N2.2 10 _ rfl
  obtain ⟨y10, z10⟩ := z10
  have z11 := N2.2 11 _ rfl
  obtain ⟨y11, z11⟩ := z11
  have z12 := N2.2 12 _ rfl
  obtain ⟨y12, z12⟩ := z12
  go_wp2_with fail
  have NF := blk_set (blk_set (blk_set (blk_set (blk_set (blk_set (blk_set (blk_set (blk_set (blk_set (blk_set (blk_set (blk_set N2 0 (.int .i64 ((f 0 : Int) / 64))) 1 (.int .i64 ((f 0 : Int) / 8 % 8))) 2 (.int .i64 ((f 0 : Int) % 8))) 3 (.int .i64 (f 1 : Int))) 4 (.int .i64 (sg (f 2)))) 5 (.int .i64 (sg (f 3)))) 6 (.int .u32 (gt f 4 4 : Nat))) 7 (.int .u32 (gt f 8 4 : Nat))) 8 (.int .u32 (gt f 12 4 : Nat))) 9 (.int .u64 (gt f 16 8 : Nat))) 10 (.int .u64 (gt f 24 8 : Nat))) 11 (.int .u64 (gt f 32 8 : Nat))) 12 (.int .u64 (gt f 40 8 : Nat))
  have BF := ((((((((((((B2.setCell (p := ⟨w.heap.size, 0, none⟩) (Nat.le_refl _) (.int .i64 ((f 0 : Int) / 64))).setCell (p := ⟨w.heap.size, 1, none⟩) (Nat.le_refl _) (.int .i64 ((f 0 : Int) / 8 % 8))).setCell (p := ⟨w.heap.size, 2, none⟩) (Nat.le_refl _) (.int .i64 ((f 0 : Int) % 8))).setCell (p := ⟨w.heap.size, 3, none⟩) (Nat.le_refl _) (.int .i64 (f 1 : Int))).setCell (p := ⟨w.heap.size, 4, none⟩) (Nat.le_refl _) (.int .i64 (sg (f 2)))).setCell (p := ⟨w.heap.size, 5, none⟩) (Nat.le_refl _) (.int .i64 (sg (f 3)))).setCell (p := ⟨w.heap.size, 6, none⟩) (Nat.le_refl _) (.int .u32 (gt f 4 4 : Nat))).setCell (p := ⟨w.heap.size, 7, none⟩) (Nat.le_refl _) (.int .u32 (gt f 8 4 : Nat))).setCell (p := ⟨w.heap.size, 8, none⟩) (Nat.le_refl _) (.int .u32 (gt f 12 4 : Nat))).setCell (p := ⟨w.heap.size, 9, none⟩) (Nat.le_refl _) (.int .u64 (gt f 16 8 : Nat))).setCell (p := ⟨w.heap.size, 10, none⟩) (Nat.le_refl _) (.int .u64 (gt f 24 8 : Nat))).setCell (p := ⟨w.heap.size, 11, none⟩) (Nat.le_refl _) (.int .u64 (gt f 32 8 : Nat))).setCell (p := ⟨w.heap.size, 12, none⟩) (Nat.le_refl _) (.int .u64 (gt f 40 8 : Nat))
  have t0 := (NF.2 0 _ rfl).1
  have t1 := (NF.2 1 _ rfl).1
  have t2 := (NF.2 2 _ rfl).1
  have t3 := (NF.2 3 _ rfl).1
  have t4 := (NF.2 4 _ rfl).1
  have t5 := (NF.2 5 _ rfl).1
  have t6 := (NF.2 6 _ rfl).1
  have t7 := (NF.2 7 _ rfl).1
  have t8 := (NF.2 8 _ rfl).1
  have t9 := (NF.2 9 _ rfl).1
  have t10 := (NF.2 10 _ rfl).1
  have t11 := (NF.2 11 _ rfl).1
  have t12 := (NF.2 12 _ rfl).1
  clear N2 B2 HV HN NF z0 y0 z1 y1 z2 y2 z3 y3 z4 y4 z5 y5 z6 y6 z7 y7 z8 y8 z9 y9 z10 y10 z11 y11 z12 y12
  exact bodyPost_ret (v := .agg #[.int .i64 ((f 0 : Int) / 64), .int .i64 ((f 0 : Int) / 8 % 8), .int .i64 ((f 0 : Int) % 8), .int .i64 (f 1 : Int), .int .i64 (sg (f 2)), .int .i64 (sg (f 3)), .int .u32 (gt f 4 4 : Nat), .int .u32 (gt f 8 4 : Nat), .int .u32 (gt f 12 4 : Nat), .int .u64 (gt f 16 8 : Nat), .int .u64 (gt f 24 8 : Nat), .int .u64 (gt f 32 8 : Nat), .int .u64 (gt f 40 8 : Nat)]) (by simp [results, Try.results28, go_sem, t0 ,t1 ,t2 ,t3 ,t4 ,t5 ,t6 ,t7 ,t8 ,t9 ,t10 ,t11 ,t12]) rfl ⟨by rw [M.out]; simp, BF⟩
end Go.Proofs.Ytmjbnbjkpimjmaa.Wi
