/-
  The contract of sundialref09.header: what 48 bytes say.
  Conditions: none.
-/
import Derived.Test.YtmjbnbjkpimjmaaWiN
namespace Go.Proofs.Ytmjbnbjkpimjmaa.Wi
open Go.RowKit Go.ChangeShapes Go.WideShapes Go.ChangeAt Go.Joins By
set_option linter.unusedVariables false
set_option linter.unusedSimpArgs false

theorem hd_eq (f : Nat → Nat) : hd f = ⟨(f 0 / 64 : Nat), (f 0 / 8 % 8 : Nat), (f 0 % 8 : Nat), (f 1 : Nat), sg (f 2), sg (f 3), gt f 4 4, gt f 8 4, gt f 12 4, gt f 16 8, gt f 24 8, gt f 32 8, gt f 40 8, [], 0, 0, []⟩ := rfl
set_option maxRecDepth 100000 in
set_option maxHeartbeats 8000000 in
theorem rheader_c {w : World} {b o n cap : Nat} {f : Nat → Nat} (h : Bs w b o n f) (hn : 48 ≤ n) (hn2 : n ≤ 140737488351232) :
    Calls Try.prog 31 #[.slice (some ⟨b, o, none⟩) n cap] w fun e w' => e = .returned (.agg #[.int .i64 (hd f).leap, .int .i64 (hd f).ver, .int .i64 (hd f).mode, .int .i64 (hd f).strat, .int .i64 (hd f).poll, .int .i64 (hd f).prec, .int .u32 ((hd f).rd : Nat), .int .u32 ((hd f).rs : Nat), .int .u32 ((hd f).rid : Nat), .int .u64 ((hd f).tref : Nat), .int .u64 ((hd f).torg : Nat), .int .u64 ((hd f).trec : Nat), .int .u64 ((hd f).txm : Nat)]) ∧ Below w.heap.size w w' := by
  have q1 : (48 : Int) ≤ (n : Int) := by omega
  have q0 : (0 : Int) < (n : Int) := by omega
  have p1 : (1 : Int) < (n : Int) := by omega
  have p2 : (2 : Int) < (n : Int) := by omega
  have p3 : (3 : Int) < (n : Int) := by omega
  have hlt := h.1
  have c0 := h.2.2 0 (by omega)
  have c1 := h.2.2 1 (by omega)
  have c2 := h.2.2 2 (by omega)
  have c3 := h.2.2 3 (by omega)
  have d0 := h.2.1 0
  have d1 := h.2.1 1
  have d2 := h.2.1 2
  have d3 := h.2.1 3
  rw [Nat.add_zero] at c0
  have l4 := gt_lt h.2.1 4 4
  have l8 := gt_lt h.2.1 8 4
  have l12 := gt_lt h.2.1 12 4
  have HG := Lib.hid (fun z (k : Below w.heap.size w z) a m (h1 : m ≤ 8) (h2 : a + m ≤ n) => get_c (w := z) cap (h.below k) a m h1 h2 hn2)
  have HS := Lib.hid (fun z c (hc : c < 256) => signed_c c hc z)
  have g2 := sg_lt _ d2
  have g3 := sg_lt _ d3
  have M := Lib.hid (hd_eq f)
  have BN := Lib.hid (fun o1 o2 => balloc (balloc (brefl w) o1) o2)
  rw [M.out]
  clear M
  simp only
  generalize hf0 : f 0 = x0 at *
  generalize hf1 : f 1 = x1 at *
  generalize hf2 : f 2 = x2 at *
  generalize hf3 : f 3 = x3 at *
  have s2a : -128 ≤ sg x2 := g2.1
  have s2b : sg x2 ≤ 127 := g2.2.1
  have s3a : -128 ≤ sg x3 := g3.1
  have s3b : sg x3 ≤ 127 := g3.2.1
  have v0 : (0 : Int) ≤ (x0 : Int) := by omega
  have v1 : (x0 : Int) < 256 := by omega
  have v2 : (0 : Int) ≤ (x1 : Int) := by omega
  have v3 : (x1 : Int) < 256 := by omega
  have SG2 : Hid (∀ z, Calls Try.prog 41 #[.int .u8 (x2 : Int)] z fun e w' => e = .returned (.int .i64 (sg x2)) ∧ w' = z) := Lib.hid (fun z => HS.out z x2 d2)
  have SG3 : Hid (∀ z, Calls Try.prog 41 #[.int .u8 (x3 : Int)] z fun e w' => e = .returned (.int .i64 (sg x3)) ∧ w' = z) := Lib.hid (fun z => HS.out z x3 d3)
  clear HS g2 g3 h
  generalize sg x2 = y2 at *
  generalize sg x3 = y3 at *
  go_enter Try.func31, Try.ntmps31
  go_wp2_with fail
  refine (SG2.out _).mono ?_
  rintro e w1 ⟨rfl, rfl⟩
  go_wp2_with fail
  refine (SG3.out _).mono ?_
  rintro e w1 ⟨rfl, rfl⟩
  go_wp2_with fail
  refine (HG.out _ (BN.out _ _) 4 4 (by omega) (by omega)).mono ?_
  rintro e w1 ⟨rfl, rfl⟩
  go_wp2_with fail
  refine (HG.out _ (BN.out _ _) 8 4 (by omega) (by omega)).mono ?_
  rintro e w1 ⟨rfl, rfl⟩
  go_wp2_with fail
  refine (HG.out _ (BN.out _ _) 12 4 (by omega) (by omega)).mono ?_
  rintro e w1 ⟨rfl, rfl⟩
  go_wp2_with fail
  refine (HG.out _ (BN.out _ _) 16 8 (by omega) (by omega)).mono ?_
  rintro e w1 ⟨rfl, rfl⟩
  go_wp2_with fail
  refine (HG.out _ (BN.out _ _) 24 8 (by omega) (by omega)).mono ?_
  rintro e w1 ⟨rfl, rfl⟩
  go_wp2_with fail
  refine (HG.out _ (BN.out _ _) 32 8 (by omega) (by omega)).mono ?_
  rintro e w1 ⟨rfl, rfl⟩
  go_wp2_with fail
  refine (HG.out _ (BN.out _ _) 40 8 (by omega) (by omega)).mono ?_
  rintro e w1 ⟨rfl, rfl⟩
  go_wp2_with fail
  exact bodyPost_ret (v := .agg #[.int .i64 ((x0 : Int) / 64), .int .i64 ((x0 : Int) / 8 % 8), .int .i64 ((x0 : Int) % 8), .int .i64 (x1 : Int), .int .i64 y2, .int .i64 y3, .int .u32 (gt f 4 4 : Nat), .int .u32 (gt f 8 4 : Nat), .int .u32 (gt f 12 4 : Nat), .int .u64 (gt f 16 8 : Nat), .int .u64 (gt f 24 8 : Nat), .int .u64 (gt f 32 8 : Nat), .int .u64 (gt f 40 8 : Nat)]) (by simp [results, Try.results31, go_sem]) rfl ⟨by simp, BN.out _ _⟩
end Go.Proofs.Ytmjbnbjkpimjmaa.Wi
