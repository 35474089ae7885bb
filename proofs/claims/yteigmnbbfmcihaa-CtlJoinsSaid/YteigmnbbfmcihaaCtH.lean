/-
  What a frame's front says: ctl.front.
  Conditions: none.
-/
import Derived.Deep.RegionHeld3
import Derived.Test.YteigmnbbfmcihaaCtG
namespace Go.Proofs.Yteigmnbbfmcihaa.Ct
open Go.RowKit Go.ChangeShapes Go.WideShapes Go.ChangeAt Go.Joins By
set_option linter.unusedVariables false
set_option linter.unusedSimpArgs false

theorem fvs_one (f : Fr) (dv : Value) (h : dv.oneCell' = true) : ∀ v ∈ fvs f dv, v.oneCell' = true := by
  intro v hv
  simp only [fvs, List.mem_cons, List.not_mem_nil, or_false] at hv
  rcases hv with rfl | rfl | rfl | rfl | rfl | rfl | rfl | rfl | rfl | rfl <;> first | rfl | exact h
theorem and128 : ∀ x : Fin 256, (bits BinOp.and IntKind.u8 (x.val : Int) 128 != 0) = decide (128 ≤ x.val) := by decide +kernel
theorem and64 : ∀ x : Fin 256, (bits BinOp.and IntKind.u8 (x.val : Int) 64 != 0) = decide (x.val / 64 % 2 = 1) := by decide +kernel
theorem and32 : ∀ x : Fin 256, (bits BinOp.and IntKind.u8 (x.val : Int) 32 != 0) = decide (x.val / 32 % 2 = 1) := by decide +kernel
theorem and31 : ∀ x : Fin 256, bits BinOp.and IntKind.u8 (x.val : Int) 31 = ((x.val % 32 : Nat) : Int) := by decide +kernel
theorem number_at {w : World} {b o n cap : Nat} {f : Nat → Nat} (h : Bs w b o n f) (a : Nat) (ha : a + 2 ≤ n) : Calls Try.prog 42 #[.slice (some ⟨b, o + a, none⟩) 2 (cap - a)] w fun e w' => e = .returned (.int .i64 (tw f a : Nat)) ∧ Below w.heap.size w w' := by
  have N := number_c (cap - a) (h.part a 2 ha) (Nat.le_refl _)
  rw [tw_shift] at N
  exact N.mono fun e w' ⟨h1, m, h2⟩ => ⟨h1, by rw [h2]; exact bdrew (brefl _) m⟩
set_option maxRecDepth 100000 in
set_option maxHeartbeats 8000000 in
theorem front_c {w : World} {b o n cap : Nat} {f : Nat → Nat} (h : Bs w b o n f) (hn : 12 ≤ n) (hc : n ≤ cap) (hc2 : cap ≤ 9223372036854775807) : Calls Try.prog 28 #[.slice (some ⟨b, o, none⟩) n cap] w fun e w' => e = .returned (.agg (fvs (frAt f) (.slice none 0 0)).toArray) ∧ Below w.heap.size w w' := by
  have H := Lib.hid h
  have x1 := h.2.1 1
  have A1 : (bits BinOp.and IntKind.u8 (f 1 : Int) 128 != 0) = decide (128 ≤ f 1) := and128 ⟨f 1, x1⟩
  have A2 : (bits BinOp.and IntKind.u8 (f 1 : Int) 64 != 0) = decide (f 1 / 64 % 2 = 1) := and64 ⟨f 1, x1⟩
  have A3 : (bits BinOp.and IntKind.u8 (f 1 : Int) 32 != 0) = decide (f 1 / 32 % 2 = 1) := and32 ⟨f 1, x1⟩
  have A4 : bits BinOp.and IntKind.u8 (f 1 : Int) 31 = ((f 1 % 32 : Nat) : Int) := and31 ⟨f 1, x1⟩
  have A5 : IntKind.i64.wrap ((f 1 : Int) % 32) = (f 1 : Int) % 32 := wrap_in (by omega) (by omega)
  have k1 : (1 : Int) < (n : Int) := by omega
  have k2 : (12 : Int) ≤ (n : Int) := by omega
  have k3 : (n : Int) ≤ (cap : Int) := by omega
  have k4 : (cap : Int) ≤ 9223372036854775807 := by omega
  have k5 : (4 : Int) ≤ (cap : Int) := by omega
  have k6 : (6 : Int) ≤ (cap : Int) := by omega
  have k7 : (8 : Int) ≤ (cap : Int) := by omega
  have k8 : (10 : Int) ≤ (cap : Int) := by omega
  have m2 : ¬ cap = 2 := by omega
  have m4 : ¬ cap = 4 := by omega
  have m6 : ¬ cap = 6 := by omega
  have m8 : ¬ cap = 8 := by omega
  clear h
  go_enter Try.func28, Try.ntmps28
  go_upto_region 1 with fail
  have N := Lib.hid (Blk.new' w #[.int .i64 0, .bool false, .bool false, .bool false, .int .i64 0, .int .i64 0, .int .i64 0, .int .i64 0, .int .i64 0, .slice none 0 0] 24)
  have B0 := Lib.hid (balloc (brefl w) (.cells #[.int .i64 0, .bool false, .bool false, .bool false, .int .i64 0, .int .i64 0, .int .i64 0, .int .i64 0, .int .i64 0, .slice none 0 0] 24))
  generalize w.alloc (.cells #[.int .i64 0, .bool false, .bool false, .bool false, .int .i64 0, .int .i64 0, .int .i64 0, .int .i64 0, .int .i64 0, .slice none 0 0] 24) = w1 at *
  have BW : b < w.heap.size := H.out.1
  have KC : Hid (∀ wa wb : World, (wa.cell? ⟨b, o + 1, none⟩ = some (.int .u8 (f 1 : Int)) ∧ Below w.heap.size w wa ∧ w.heap.size < wa.heap.size ∧ wa.there w.heap.size 0 10) → Below wa.heap.size wa wb → (wb.cell? ⟨b, o + 1, none⟩ = some (.int .u8 (f 1 : Int)) ∧ Below w.heap.size w wb ∧ w.heap.size < wb.heap.size ∧ wb.there w.heap.size 0 10)) := Lib.hid fun wa wb d d2 =>
    ⟨(d2.cell (p := ⟨b, o + 1, none⟩) (by have := d.2.2.1; show b < _; omega)).trans d.1, bstep d.2.1 d2, Nat.lt_of_lt_of_le d.2.2.1 d2.size, there_below d.2.2.2 d.2.2.1 d2⟩
  have KD := Lib.hid (KC.out w1 _ ⟨(H.out.below B0.out).2.2 1 (by omega), B0.out, N.out.1, N.out.there⟩ ((brefl w1).drew))
  have HV : Hid (∀ z, Below w.heap.size w z → Calls Try.prog 24 #[.slice (some ⟨b, o, none⟩) n cap] z fun e w' => e = .returned (.int .i64 (f 0 / 8 % 8 : Nat)) ∧ Below z.heap.size z w') := Lib.hid fun z k => (version_c cap (H.out.below k) (by omega)).mono fun e w' ⟨h1, h2⟩ => ⟨h1, by rw [h2]; exact brefl _⟩
  have HN := Lib.hid (fun a (ha : a + 2 ≤ n) z (k : Below w.heap.size w z) => number_at (cap := cap) (H.out.below k) a ha)
  have MF : Hid ((fvs (frAt f) (.slice none 0 0)) = [.int .i64 ((f 0 / 8 % 8 : Nat) : Int), .bool (decide (128 ≤ f 1)), .bool (decide (f 1 / 64 % 2 = 1)), .bool (decide (f 1 / 32 % 2 = 1)), .int .i64 ((f 1 % 32 : Nat) : Int), .int .i64 (tw f 2 : Nat), .int .i64 (tw f 4 : Nat), .int .i64 (tw f 6 : Nat), .int .i64 (tw f 8 : Nat), .slice none 0 0]) := Lib.hid rfl
  refine wp_region_noPanic ?_
  refine wp_region_held_drew (S := fun z => z.cell? ⟨b, o + 1, none⟩ = some (.int .u8 (f 1 : Int)) ∧ Below w.heap.size w z ∧ w.heap.size < z.heap.size ∧ z.there w.heap.size 0 10) (by kernel_rfl) KD.out (fun hHeld => ?_)
  refine wpAnyH_take (i := 0) (v := ?_) rfl (by kernel_rfl) (by kernel_rfl) (by kernel_rfl) (fun _ _ _ h => h) (Or.inl ⟨by rfl, ?_⟩) hHeld ?_
  rotate_left
  · ((intro w hSw; (try dsimp only at hSw); go_simp); try with_reducible rfl)
  (try simp only [List.getElem_toArray, List.getElem_cons_succ, List.getElem_cons_zero, Act.put, List.setIfInBounds_toArray, List.set_cons_zero, List.set_cons_succ])
  refine wpAnyH_take (i := 2) (v := ?_) rfl (by kernel_rfl) (by kernel_rfl) (by kernel_rfl) (fun _ _ _ h => h) (Or.inl ⟨by rfl, ?_⟩) hHeld ?_
  rotate_left
  · ((intro w hSw; (try dsimp only at hSw); go_simp); try with_reducible rfl)
  (try simp only [List.getElem_toArray, List.getElem_cons_succ, List.getElem_cons_zero, Act.put, List.setIfInBounds_toArray, List.set_cons_zero, List.set_cons_succ])
  refine wpAnyH_take (i := 3) (v := ?_) rfl (by kernel_rfl) (by kernel_rfl) (by kernel_rfl) (fun _ _ _ h => h) (Or.inl ⟨by rfl, ?_⟩) hHeld ?_
  rotate_left
  · ((intro w hSw; (try dsimp only at hSw); go_simp); try with_reducible rfl)
  (try simp only [List.getElem_toArray, List.getElem_cons_succ, List.getElem_cons_zero, Act.put, List.setIfInBounds_toArray, List.set_cons_zero, List.set_cons_succ])
  refine wpAnyH_take (i := 4) (v := ?_) rfl (by kernel_rfl) (by kernel_rfl) (by kernel_rfl) (fun _ _ _ h => h) (Or.inl ⟨by rfl, ?_⟩) hHeld ?_
  rotate_left
  · ((intro w hSw; (try dsimp only at hSw); go_simp); try with_reducible rfl)
  (try simp only [List.getElem_toArray, List.getElem_cons_succ, List.getElem_cons_zero, Act.put, List.setIfInBounds_toArray, List.set_cons_zero, List.set_cons_succ])
  refine wpAnyH_take (i := 5) (v := ?_) rfl (by kernel_rfl) (by kernel_rfl) (by kernel_rfl) (fun _ _ _ h => h) (Or.inl ⟨by rfl, ?_⟩) hHeld ?_
  rotate_left
  · ((intro w hSw; (try dsimp only at hSw); go_simp); try with_reducible rfl)
  (try simp only [List.getElem_toArray, List.getElem_cons_succ, List.getElem_cons_zero, Act.put, List.setIfInBounds_toArray, List.set_cons_zero, List.set_cons_succ])
  refine wpAnyH_take (i := 6) (v := ?_) rfl (by kernel_rfl) (by kernel_rfl) (by kernel_rfl) (fun _ _ _ h => h) (Or.inl ⟨by rfl, ?_⟩) hHeld ?_
  rotate_left
  · ((intro w hSw; (try dsimp only at hSw); go_simp); try with_reducible rfl)
  (try simp only [List.getElem_toArray, List.getElem_cons_succ, List.getElem_cons_zero, Act.put, List.setIfInBounds_toArray, List.set_cons_zero, List.set_cons_succ])
  refine wpAnyH_take (i := 7) (v := ?_) rfl (by kernel_rfl) (by kernel_rfl) (by kernel_rfl) (fun _ _ _ h => h) (Or.inl ⟨by rfl, ?_⟩) hHeld ?_
  rotate_left
  · ((intro w hSw; (try dsimp only at hSw); go_simp); try with_reducible rfl)
  (try simp only [List.getElem_toArray, List.getElem_cons_succ, List.getElem_cons_zero, Act.put, List.setIfInBounds_toArray, List.set_cons_zero, List.set_cons_succ])
  refine wpAnyH_take (i := 8) (v := ?_) rfl (by kernel_rfl) (by kernel_rfl) (by kernel_rfl) (fun _ _ _ h => h) (Or.inl ⟨by rfl, ?_⟩) hHeld ?_
  rotate_left
  · ((intro w hSw; (try dsimp only at hSw); go_simp); try with_reducible rfl)
  (try simp only [List.getElem_toArray, List.getElem_cons_succ, List.getElem_cons_zero, Act.put, List.setIfInBounds_toArray, List.set_cons_zero, List.set_cons_succ])
  refine wpAnyH_take (i := 9) (v := ?_) rfl (by kernel_rfl) (by kernel_rfl) (by kernel_rfl) (fun _ _ _ h => h) (Or.inl ⟨by rfl, ?_⟩) hHeld ?_
  rotate_left
  · ((intro w hSw; (try dsimp only at hSw); go_simp); try with_reducible rfl)
  (try simp only [List.getElem_toArray, List.getElem_cons_succ, List.getElem_cons_zero, Act.put, List.setIfInBounds_toArray, List.set_cons_zero, List.set_cons_succ])
  refine wpAnyH_take (i := 10) (v := ?_) rfl (by kernel_rfl) (by kernel_rfl) (by kernel_rfl) (fun _ _ _ h => h) (Or.inl ⟨by rfl, ?_⟩) hHeld ?_
  rotate_left
  · ((intro w hSw; (try dsimp only at hSw); go_simp); try with_reducible rfl)
  (try simp only [List.getElem_toArray, List.getElem_cons_succ, List.getElem_cons_zero, Act.put, List.setIfInBounds_toArray, List.set_cons_zero, List.set_cons_succ])
  refine wpAnyH_take (i := 11) (v := ?_) rfl (by kernel_rfl) (by kernel_rfl) (by kernel_rfl) (fun _ _ _ h => h) (Or.inl ⟨by rfl, ?_⟩) hHeld ?_
  rotate_left
  · ((intro w hSw; (try dsimp only at hSw); go_simp); try with_reducible rfl)
  (try simp only [List.getElem_toArray, List.getElem_cons_succ, List.getElem_cons_zero, Act.put, List.setIfInBounds_toArray, List.set_cons_zero, List.set_cons_succ])
  refine wpAnyH_take (i := 12) (v := ?_) rfl (by kernel_rfl) (by kernel_rfl) (by kernel_rfl) (fun _ _ _ h => h) (Or.inl ⟨by rfl, ?_⟩) hHeld ?_
  rotate_left
  · ((intro w hSw; (try dsimp only at hSw); go_simp); try with_reducible rfl)
  (try simp only [List.getElem_toArray, List.getElem_cons_succ, List.getElem_cons_zero, Act.put, List.setIfInBounds_toArray, List.set_cons_zero, List.set_cons_succ])
  refine wpAnyH_take (i := 13) (v := ?_) rfl (by kernel_rfl) (by kernel_rfl) (by kernel_rfl) (fun _ _ _ h => h) (Or.inl ⟨by rfl, ?_⟩) hHeld ?_
  rotate_left
  · ((intro w hSw; (try dsimp only at hSw); go_simp); try with_reducible rfl)
  (try simp only [List.getElem_toArray, List.getElem_cons_succ, List.getElem_cons_zero, Act.put, List.setIfInBounds_toArray, List.set_cons_zero, List.set_cons_succ])
  refine wpAnyH_take (i := 14) (v := ?_) rfl (by kernel_rfl) (by kernel_rfl) (by kernel_rfl) (fun _ _ _ h => h) (Or.inl ⟨by rfl, ?_⟩) hHeld ?_
  rotate_left
  · ((intro w hSw; (try dsimp only at hSw); go_simp); try with_reducible rfl)
  (try simp only [List.getElem_toArray, List.getElem_cons_succ, List.getElem_cons_zero, Act.put, List.setIfInBounds_toArray, List.set_cons_zero, List.set_cons_succ])
  refine wpAnyH_take (i := 15) (v := ?_) rfl (by kernel_rfl) (by kernel_rfl) (by kernel_rfl) (fun _ _ _ h => h) (Or.inl ⟨by rfl, ?_⟩) hHeld ?_
  rotate_left
  · ((intro w hSw; (try dsimp only at hSw); go_simp); try with_reducible rfl)
  (try simp only [List.getElem_toArray, List.getElem_cons_succ, List.getElem_cons_zero, Act.put, List.setIfInBounds_toArray, List.set_cons_zero, List.set_cons_succ])
  refine wpAnyH_take (i := 16) (v := ?_) rfl (by kernel_rfl) (by kernel_rfl) (by kernel_rfl) (fun _ _ _ h => h) (Or.inl ⟨by rfl, ?_⟩) hHeld ?_
  rotate_left
  · ((intro w hSw; (try dsimp only at hSw); go_simp); try with_reducible rfl)
  (try simp only [List.getElem_toArray, List.getElem_cons_succ, List.getElem_cons_zero, Act.put, List.setIfInBounds_toArray, List.set_cons_zero, List.set_cons_succ])
  refine wpAnyH_take (i := 17) (v := ?_) rfl (by kernel_rfl) (by kernel_rfl) (by kernel_rfl) (fun _ _ _ h => h) (Or.inl ⟨by rfl, ?_⟩) hHeld ?_
  rotate_left
  · ((intro w hSw; (try dsimp only at hSw); go_simp); try with_reducible rfl)
  (try simp only [List.getElem_toArray, List.getElem_cons_succ, List.getElem_cons_zero, Act.put, List.setIfInBounds_toArray, List.set_cons_zero, List.set_cons_succ])
  refine wpAnyH_take (i := 18) (v := ?_) rfl (by kernel_rfl) (by kernel_rfl) (by kernel_rfl) (fun _ _ _ h => h) (Or.inl ⟨by rfl, ?_⟩) hHeld ?_
  rotate_left
  · ((intro w hSw; (try dsimp only at hSw); go_simp); try with_reducible rfl)
  (try simp only [List.getElem_toArray, List.getElem_cons_succ, List.getElem_cons_zero, Act.put, List.setIfInBounds_toArray, List.set_cons_zero, List.set_cons_succ])
  refine wpAnyH_take (i := 19) (v := ?_) rfl (by kernel_rfl) (by kernel_rfl) (by kernel_rfl) (fun _ _ _ h => h) (Or.inl ⟨by rfl, ?_⟩) hHeld ?_
  rotate_left
  · ((intro w hSw; (try dsimp only at hSw); go_simp); try with_reducible rfl)
  (try simp only [List.getElem_toArray, List.getElem_cons_succ, List.getElem_cons_zero, Act.put, List.setIfInBounds_toArray, List.set_cons_zero, List.set_cons_succ])
  refine wpAnyH_take (i := 20) (v := ?_) rfl (by kernel_rfl) (by kernel_rfl) (by kernel_rfl) (fun _ _ _ h => h) (Or.inl ⟨by rfl, ?_⟩) hHeld ?_
  rotate_left
  · ((intro w hSw; (try dsimp only at hSw); go_simp); try with_reducible rfl)
  (try simp only [List.getElem_toArray, List.getElem_cons_succ, List.getElem_cons_zero, Act.put, List.setIfInBounds_toArray, List.set_cons_zero, List.set_cons_succ])
  refine wpAnyH_take (i := 21) (v := ?_) rfl (by kernel_rfl) (by kernel_rfl) (by kernel_rfl) (fun _ _ _ h => h) (Or.inl ⟨by rfl, ?_⟩) hHeld ?_
  rotate_left
  · ((intro w hSw; (try dsimp only at hSw); go_simp); try with_reducible rfl)
  (try simp only [List.getElem_toArray, List.getElem_cons_succ, List.getElem_cons_zero, Act.put, List.setIfInBounds_toArray, List.set_cons_zero, List.set_cons_succ])
  refine wpAnyH_take (i := 22) (v := ?_) rfl (by kernel_rfl) (by kernel_rfl) (by kernel_rfl) (fun _ _ _ h => h) (Or.inl ⟨by rfl, ?_⟩) hHeld ?_
  rotate_left
  · ((intro w hSw; (try dsimp only at hSw); go_simp); try with_reducible rfl)
  (try simp only [List.getElem_toArray, List.getElem_cons_succ, List.getElem_cons_zero, Act.put, List.setIfInBounds_toArray, List.set_cons_zero, List.set_cons_succ])
  refine wpAnyH_take (i := 23) (v := ?_) rfl (by kernel_rfl) (by kernel_rfl) (by kernel_rfl) (fun _ _ _ h => h) (Or.inl ⟨by rfl, ?_⟩) hHeld ?_
  rotate_left
  · ((intro w hSw; (try dsimp only at hSw); go_simp); try with_reducible rfl)
  (try simp only [List.getElem_toArray, List.getElem_cons_succ, List.getElem_cons_zero, Act.put, List.setIfInBounds_toArray, List.set_cons_zero, List.set_cons_succ])
  refine wpAnyH_take (i := 25) (v := ?_) rfl (by kernel_rfl) (by kernel_rfl) (by kernel_rfl) (fun _ _ _ h => h) (Or.inl ⟨by rfl, ?_⟩) hHeld ?_
  rotate_left
  · ((intro w hSw; (try dsimp only at hSw); go_simp); try with_reducible rfl)
  (try simp only [List.getElem_toArray, List.getElem_cons_succ, List.getElem_cons_zero, Act.put, List.setIfInBounds_toArray, List.set_cons_zero, List.set_cons_succ])
  refine wpAnyH_take (i := 26) (v := ?_) rfl (by kernel_rfl) (by kernel_rfl) (by kernel_rfl) (fun _ _ _ h => h) (Or.inl ⟨by rfl, ?_⟩) hHeld ?_
  rotate_left
  · ((intro w hSw; (try dsimp only at hSw); go_simp); try with_reducible rfl)
  (try simp only [List.getElem_toArray, List.getElem_cons_succ, List.getElem_cons_zero, Act.put, List.setIfInBounds_toArray, List.set_cons_zero, List.set_cons_succ])
  refine wpAnyH_take (i := 28) (v := ?_) rfl (by kernel_rfl) (by kernel_rfl) (by kernel_rfl) (fun _ _ _ h => h) (Or.inl ⟨by rfl, ?_⟩) hHeld ?_
  rotate_left
  · ((intro w hSw; (try dsimp only at hSw); go_simp); try with_reducible rfl)
  (try simp only [List.getElem_toArray, List.getElem_cons_succ, List.getElem_cons_zero, Act.put, List.setIfInBounds_toArray, List.set_cons_zero, List.set_cons_succ])
  refine wpAnyH_take (i := 29) (v := ?_) rfl (by kernel_rfl) (by kernel_rfl) (by kernel_rfl) (fun _ _ _ h => h) (Or.inl ⟨by rfl, ?_⟩) hHeld ?_
  rotate_left
  · ((intro w hSw; (try dsimp only at hSw); go_simp); try with_reducible rfl)
  (try simp only [List.getElem_toArray, List.getElem_cons_succ, List.getElem_cons_zero, Act.put, List.setIfInBounds_toArray, List.set_cons_zero, List.set_cons_succ])
  refine wpAnyH_take (i := 31) (v := ?_) rfl (by kernel_rfl) (by kernel_rfl) (by kernel_rfl) (fun _ _ _ h => h) (Or.inl ⟨by rfl, ?_⟩) hHeld ?_
  rotate_left
  · ((intro w hSw; (try dsimp only at hSw); go_simp); try with_reducible rfl)
  (try simp only [List.getElem_toArray, List.getElem_cons_succ, List.getElem_cons_zero, Act.put, List.setIfInBounds_toArray, List.set_cons_zero, List.set_cons_succ])
  refine wpAnyH_take (i := 32) (v := ?_) rfl (by kernel_rfl) (by kernel_rfl) (by kernel_rfl) (fun _ _ _ h => h) (Or.inl ⟨by rfl, ?_⟩) hHeld ?_
  rotate_left
  · ((intro w hSw; (try dsimp only at hSw); go_simp); try with_reducible rfl)
  (try simp only [List.getElem_toArray, List.getElem_cons_succ, List.getElem_cons_zero, Act.put, List.setIfInBounds_toArray, List.set_cons_zero, List.set_cons_succ])
  refine wpAnyH_ready (rs := [1]) (by kernel_rfl) (by simp) (AllReadyH.cons rfl (fun KQ hKQ => ?_) AllReadyH.nil)
  go_simp
  refine (HV.out _ hHeld.2.1).mono ?_
  rintro e w' ⟨rfl, hb⟩
  have hx := KC.out _ _ hHeld hb
  clear hb
  go_wp2_with fail
  refine hKQ.out _ _ hx (fun hH2 => ?_)
  clear hx
  clear hKQ KQ hHeld
  have hHeld := hH2
  clear hH2
  (try simp only [List.getElem_toArray, List.getElem_cons_succ, List.getElem_cons_zero, Act.put, List.setIfInBounds_toArray, List.set_cons_zero, List.set_cons_succ])
  refine wpAnyH_ready (rs := [24]) (by kernel_rfl) (by simp) (AllReadyH.cons rfl (fun KQ hKQ => ?_) AllReadyH.nil)
  go_simp
  refine (HN.out 2 (by omega) _ hHeld.2.1).mono ?_
  rintro e w' ⟨rfl, hb⟩
  have hx := KC.out _ _ hHeld hb
  clear hb
  go_wp2_with fail
  refine hKQ.out _ _ hx (fun hH2 => ?_)
  clear hx
  clear hKQ KQ hHeld
  have hHeld := hH2
  clear hH2
  (try simp only [List.getElem_toArray, List.getElem_cons_succ, List.getElem_cons_zero, Act.put, List.setIfInBounds_toArray, List.set_cons_zero, List.set_cons_succ])
  refine wpAnyH_ready (rs := [27]) (by kernel_rfl) (by simp) (AllReadyH.cons rfl (fun KQ hKQ => ?_) AllReadyH.nil)
  go_simp
  refine (HN.out 4 (by omega) _ hHeld.2.1).mono ?_
  rintro e w' ⟨rfl, hb⟩
  have hx := KC.out _ _ hHeld hb
  clear hb
  go_wp2_with fail
  refine hKQ.out _ _ hx (fun hH2 => ?_)
  clear hx
  clear hKQ KQ hHeld
  have hHeld := hH2
  clear hH2
  (try simp only [List.getElem_toArray, List.getElem_cons_succ, List.getElem_cons_zero, Act.put, List.setIfInBounds_toArray, List.set_cons_zero, List.set_cons_succ])
  refine wpAnyH_ready (rs := [30]) (by kernel_rfl) (by simp) (AllReadyH.cons rfl (fun KQ hKQ => ?_) AllReadyH.nil)
  go_simp
  refine (HN.out 6 (by omega) _ hHeld.2.1).mono ?_
  rintro e w' ⟨rfl, hb⟩
  have hx := KC.out _ _ hHeld hb
  clear hb
  go_wp2_with fail
  refine hKQ.out _ _ hx (fun hH2 => ?_)
  clear hx
  clear hKQ KQ hHeld
  have hHeld := hH2
  clear hH2
  (try simp only [List.getElem_toArray, List.getElem_cons_succ, List.getElem_cons_zero, Act.put, List.setIfInBounds_toArray, List.set_cons_zero, List.set_cons_succ])
  refine wpAnyH_ready (rs := [33]) (by kernel_rfl) (by simp) (AllReadyH.cons rfl (fun KQ hKQ => ?_) AllReadyH.nil)
  go_simp
  refine (HN.out 8 (by omega) _ hHeld.2.1).mono ?_
  rintro e w' ⟨rfl, hb⟩
  have hx := KC.out _ _ hHeld hb
  clear hb
  go_wp2_with fail
  refine hKQ.out _ _ hx (fun hH2 => ?_)
  clear hx
  clear hKQ KQ hHeld
  have hHeld := hH2
  clear hH2
  (try simp only [List.getElem_toArray, List.getElem_cons_succ, List.getElem_cons_zero, Act.put, List.setIfInBounds_toArray, List.set_cons_zero, List.set_cons_succ])
  refine wpAnyH_take (i := 34) (v := ?_) rfl (by kernel_rfl) (by kernel_rfl) (by kernel_rfl) (fun _ _ _ h => h) (Or.inl ⟨by rfl, ?_⟩) hHeld ?_
  rotate_left
  · ((intro w hSw; (try dsimp only at hSw); go_simp); try with_reducible rfl)
  (try simp only [List.getElem_toArray, List.getElem_cons_succ, List.getElem_cons_zero, Act.put, List.setIfInBounds_toArray, List.set_cons_zero, List.set_cons_succ])
  refine wpAnyH_ready (rs := [35]) (by kernel_rfl) (by simp) (AllReadyH.cons rfl (fun KQ hKQ => ?_) AllReadyH.nil)
  rw [if_pos (by rfl)]
  refine wp_store_mid 24 _ _ rfl _ 0 (fvs (frAt f) (.slice none 0 0)).toArray rfl rfl hHeld.2.2.2 info_fr (all_oneCell_toArray (fvs_one _ _ rfl)) ?_
  rw [List.toList_toArray]
  have RG := Lib.hid (World.rangeAt_setCells_same _ w.heap.size 0 (fvs (frAt f) (.slice none 0 0)) hHeld.2.2.2)
  have BF := Lib.hid (below_over (Nat.le_refl _) (fvs (frAt f) (.slice none 0 0)) 0 hHeld.2.1)
  refine hKQ.out _ _ ⟨by rw [World.cell?_setCells_out w.heap.size _ 0 _ ⟨b, o + 1, none⟩ (fun e _ => absurd e (Nat.ne_of_lt BW))]; exact hHeld.1, BF.out, by rw [size_over]; exact hHeld.2.2.1, World.there_setCells hHeld.2.2.2 _ _ _⟩ (fun hH2 => ?_)
  clear hKQ KQ hHeld
  have hHeld := hH2
  clear hH2
  (try simp only [List.getElem_toArray, List.getElem_cons_succ, List.getElem_cons_zero, Act.put, List.setIfInBounds_toArray, List.set_cons_zero, List.set_cons_succ])
  refine wpAnyH_done (by kernel_rfl) ?_ _
  refine NoPanic.normal ?_
  go_wp2_with fail
  exact bodyPost_ret (v := .agg (fvs (frAt f) (.slice none 0 0)).toArray) (results_cell_mid rfl _ _ w.heap.size _ _ rfl RG.out Try.underlying24 rfl (by rw [fvs_len]; exact info_fr)) rfl ⟨rfl, BF.out⟩
end Go.Proofs.Yteigmnbbfmcihaa.Ct
