/-
  wire.Decode where bytes are no packet; wire.Signed.
  Conditions: none.
-/
import Derived.Test.YtmjbnbjkpimjmaaWiQ
namespace Go.Proofs.Ytmjbnbjkpimjmaa.Wi
open Go.RowKit Go.ChangeShapes Go.WideShapes Go.ChangeAt Go.Joins By
set_option linter.unusedVariables false
set_option linter.unusedSimpArgs false

theorem pv0 : PV pk0 (.slice none 0 0) (.slice none 0 0) = .agg #[.int .i64 0, .int .i64 0, .int .i64 0, .int .i64 0, .int .i64 0, .int .i64 0, .int .u32 0, .int .u32 0, .int .u32 0, .int .u64 0, .int .u64 0, .int .u64 0, .int .u64 0, .slice none 0 0, .int .i64 0, .int .u32 0, .slice none 0 0] := rfl
set_option maxRecDepth 100000 in
set_option maxHeartbeats 4000000 in
theorem Decode_err {w : World} (a : Option Addr) (n cap : Nat) (err : Int) (he : err ≠ 0) (HC : Hid (∀ z, Below w.heap.size w z → Calls Try.prog 27 #[.slice a n cap] z fun e w' => e = .returned (.tuple #[pz, .int .i64 err]) ∧ Below z.heap.size z w')) :
    Calls Try.prog 13 #[.slice a n cap] w fun e w' => e = .returned (.tuple #[PV pk0 (.slice none 0 0) (.slice none 0 0), .int .i64 err]) ∧ Below w.heap.size w w' := by
  have e1 : (err != 0) = true := by simpa using he
  clear he
  unfold pz at HC
  rw [pv0]
  go_enter Try.func13, Try.ntmps13
  go_wp2_with fail
  have N := Blk.new' w #[.int .i64 0, .int .i64 0, .int .i64 0, .int .i64 0, .int .i64 0, .int .i64 0, .int .u32 0, .int .u32 0, .int .u32 0, .int .u64 0, .int .u64 0, .int .u64 0, .int .u64 0, .slice none 0 0, .int .i64 0, .int .u32 0, .slice none 0 0] 30
  have B0 := balloc (brefl w) (.cells #[.int .i64 0, .int .i64 0, .int .i64 0, .int .i64 0, .int .i64 0, .int .i64 0, .int .u32 0, .int .u32 0, .int .u32 0, .int .u64 0, .int .u64 0, .int .u64 0, .int .u64 0, .slice none 0 0, .int .i64 0, .int .u32 0, .slice none 0 0] 30)
  generalize w.alloc (.cells #[.int .i64 0, .int .i64 0, .int .i64 0, .int .i64 0, .int .i64 0, .int .i64 0, .int .u32 0, .int .u32 0, .int .u32 0, .int .u64 0, .int .u64 0, .int .u64 0, .int .u64 0, .slice none 0 0, .int .i64 0, .int .u32 0, .slice none 0 0] 30) = w1 at *
  refine (HC.out _ B0).mono ?_
  rintro e w2 ⟨rfl, hb⟩
  have N2 := N.below hb
  have B2 := bstep B0 hb
  clear N B0 hb HC
  go_upto_region 2 with fail
  have N3 := Lib.hid (N2.below (balloc (brefl w2) (.cells #[.slice none 0 0, .slice none 0 0, .slice none 0 0, .int .i64 0] 63)))
  have B3 := Lib.hid (bstep B2 (balloc (brefl w2) (.cells #[.slice none 0 0, .slice none 0 0, .slice none 0 0, .int .i64 0] 63)))
  generalize w2.alloc (.cells #[.slice none 0 0, .slice none 0 0, .slice none 0 0, .int .i64 0] 63) = w3 at *
  clear N2 B2
  obtain ⟨y0, u0⟩ := N3.out.2 0 _ rfl
  obtain ⟨y1, u1⟩ := N3.out.2 1 _ rfl
  obtain ⟨y2, u2⟩ := N3.out.2 2 _ rfl
  obtain ⟨y3, u3⟩ := N3.out.2 3 _ rfl
  obtain ⟨y4, u4⟩ := N3.out.2 4 _ rfl
  obtain ⟨y5, u5⟩ := N3.out.2 5 _ rfl
  obtain ⟨y6, u6⟩ := N3.out.2 6 _ rfl
  obtain ⟨y7, u7⟩ := N3.out.2 7 _ rfl
  obtain ⟨y8, u8⟩ := N3.out.2 8 _ rfl
  obtain ⟨y9, u9⟩ := N3.out.2 9 _ rfl
  obtain ⟨y10, u10⟩ := N3.out.2 10 _ rfl
  obtain ⟨y11, u11⟩ := N3.out.2 11 _ rfl
  obtain ⟨y12, u12⟩ := N3.out.2 12 _ rfl
  obtain ⟨y13, u13⟩ := N3.out.2 13 _ rfl
  obtain ⟨y14, u14⟩ := N3.out.2 14 _ rfl
  obtain ⟨y15, u15⟩ := N3.out.2 15 _ rfl
  obtain ⟨y16, u16⟩ := N3.out.2 16 _ rfl
  have NF := Lib.hid (blk_set (blk_set (blk_set (blk_set (blk_set (blk_set (blk_set (blk_set (blk_set (blk_set (blk_set (blk_set (blk_set (blk_set (blk_set (blk_set (blk_set N3.out 0 (.int .i64 0)) 1 (.int .i64 0)) 2 (.int .i64 0)) 3 (.int .i64 0)) 4 (.int .i64 0)) 5 (.int .i64 0)) 6 (.int .u32 0)) 7 (.int .u32 0)) 8 (.int .u32 0)) 9 (.int .u64 0)) 10 (.int .u64 0)) 11 (.int .u64 0)) 12 (.int .u64 0)) 13 (.slice none 0 0)) 14 (.int .i64 0)) 15 (.int .u32 0)) 16 (.slice none 0 0))
  have BF := Lib.hid (Below.setCell (p := ⟨w.heap.size, 16, none⟩) (Below.setCell (p := ⟨w.heap.size, 15, none⟩) (Below.setCell (p := ⟨w.heap.size, 14, none⟩) (Below.setCell (p := ⟨w.heap.size, 13, none⟩) (Below.setCell (p := ⟨w.heap.size, 12, none⟩) (Below.setCell (p := ⟨w.heap.size, 11, none⟩) (Below.setCell (p := ⟨w.heap.size, 10, none⟩) (Below.setCell (p := ⟨w.heap.size, 9, none⟩) (Below.setCell (p := ⟨w.heap.size, 8, none⟩) (Below.setCell (p := ⟨w.heap.size, 7, none⟩) (Below.setCell (p := ⟨w.heap.size, 6, none⟩) (Below.setCell (p := ⟨w.heap.size, 5, none⟩) (Below.setCell (p := ⟨w.heap.size, 4, none⟩) (Below.setCell (p := ⟨w.heap.size, 3, none⟩) (Below.setCell (p := ⟨w.heap.size, 2, none⟩) (Below.setCell (p := ⟨w.heap.size, 1, none⟩) (Below.setCell (p := ⟨w.heap.size, 0, none⟩) B3.out (Nat.le_refl _) (.int .i64 0)) (Nat.le_refl _) (.int .i64 0)) (Nat.le_refl _) (.int .i64 0)) (Nat.le_refl _) (.int .i64 0)) (Nat.le_refl _) (.int .i64 0)) (Nat.le_refl _) (.int .i64 0)) (Nat.le_refl _) (.int .u32 0)) (Nat.le_refl _) (.int .u32 0)) (Nat.le_refl _) (.int .u32 0)) (Nat.le_refl _) (.int .u64 0)) (Nat.le_refl _) (.int .u64 0)) (Nat.le_refl _) (.int .u64 0)) (Nat.le_refl _) (.int .u64 0)) (Nat.le_refl _) (.slice none 0 0)) (Nat.le_refl _) (.int .i64 0)) (Nat.le_refl _) (.int .u32 0)) (Nat.le_refl _) (.slice none 0 0))
  go_wp2_with fail
  have t0 := (NF.out.2 0 _ rfl).1
  have t1 := (NF.out.2 1 _ rfl).1
  have t2 := (NF.out.2 2 _ rfl).1
  have t3 := (NF.out.2 3 _ rfl).1
  have t4 := (NF.out.2 4 _ rfl).1
  have t5 := (NF.out.2 5 _ rfl).1
  have t6 := (NF.out.2 6 _ rfl).1
  have t7 := (NF.out.2 7 _ rfl).1
  have t8 := (NF.out.2 8 _ rfl).1
  have t9 := (NF.out.2 9 _ rfl).1
  have t10 := (NF.out.2 10 _ rfl).1
  have t11 := (NF.out.2 11 _ rfl).1
  have t12 := (NF.out.2 12 _ rfl).1
  have t13 := (NF.out.2 13 _ rfl).1
  have t14 := (NF.out.2 14 _ rfl).1
  have t15 := (NF.out.2 15 _ rfl).1
  have t16 := (NF.out.2 16 _ rfl).1
  clear y0 u0 y1 u1 y2 u2 y3 u3 y4 u4 y5 u5 y6 u6 y7 u7 y8 u8 y9 u9 y10 u10 y11 u11 y12 u12 y13 u13 y14 u14 y15 u15 y16 u16
  exact bodyPost_ret (v := .tuple #[.agg #[.int .i64 0, .int .i64 0, .int .i64 0, .int .i64 0, .int .i64 0, .int .i64 0, .int .u32 0, .int .u32 0, .int .u32 0, .int .u64 0, .int .u64 0, .int .u64 0, .int .u64 0, .slice none 0 0, .int .i64 0, .int .u32 0, .slice none 0 0], .int .i64 err]) (by simp [results, Try.results13, go_sem, t0, t1, t2, t3, t4, t5, t6, t7, t8, t9, t10, t11, t12, t13, t14, t15, t16]) rfl ⟨rfl, BF.out⟩
end Go.Proofs.Ytmjbnbjkpimjmaa.Wi
