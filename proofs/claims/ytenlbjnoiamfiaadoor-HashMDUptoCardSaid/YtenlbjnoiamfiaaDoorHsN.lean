/-
  The tables of package hash as they lie in memory; the contract of hash.md5Block.
  Conditions: the tables read as the program's text lays them.
-/
import Derived.Test.YtenlbjnoiamfiaaDoorHsL
namespace Go.Proofs.YtenlbjnoiamfiaaDoor.Hs
open Go.RowKit
set_option linter.unusedVariables false
set_option linter.unusedSimpArgs false

/-- the tables of package hash. -/
def Gl (w : World) : Prop :=
  (∀ i, i < 64 → w.cell? ⟨0, i, none⟩ = some (.int .u32 (mdK i))) ∧ (∀ i, i < 16 → w.cell? ⟨1, i, none⟩ = some (.int .i64 ((mdTs.getD i 0 : Nat) : Int))) ∧ (∀ i, i < 64 → w.cell? ⟨2, i, none⟩ = some (.int .u32 (shaK i)))
theorem Gl.below {w w' : World} (h : Gl w) (k : Below w.heap.size w w') : Gl w' :=
  ⟨fun i hi => (k.cell (p := ⟨_, i, none⟩) (World.block_lt_of_cell? w _ (h.1 i hi))).trans (h.1 i hi), fun i hi => (k.cell (p := ⟨_, i, none⟩) (World.block_lt_of_cell? w _ (h.2.1 i hi))).trans (h.2.1 i hi), fun i hi => (k.cell (p := ⟨_, i, none⟩) (World.block_lt_of_cell? w _ (h.2.2 i hi))).trans (h.2.2 i hi)⟩
theorem Gl.belowB {B : Nat} {w w' : World} (h : Gl w) (hB : 3 ≤ B) (k : Below B w w') : Gl w' :=
  ⟨fun i hi => (k.cell (p := ⟨_, i, none⟩) (Nat.lt_of_lt_of_le (show 0 < 3 by decide) hB)).trans (h.1 i hi), fun i hi => (k.cell (p := ⟨_, i, none⟩) (Nat.lt_of_lt_of_le (show 1 < 3 by decide) hB)).trans (h.2.1 i hi), fun i hi => (k.cell (p := ⟨_, i, none⟩) (Nat.lt_of_lt_of_le (show 2 < 3 by decide) hB)).trans (h.2.2 i hi)⟩
theorem Gl.size {w : World} (h : Gl w) : 3 ≤ w.heap.size := by
  have a := World.block_lt_of_cell? w _ (h.1 0 (by omega))
  have b := World.block_lt_of_cell? w _ (h.2.1 0 (by omega))
  have c := World.block_lt_of_cell? w _ (h.2.2 0 (by omega))
  simp at a b c
  omega
theorem As.newC (w : World) (n : Nat) (M : Nat → Nat) (ty : TypeId) (hM : ∀ i, i < n → M i < 4294967296) : As (w.alloc (.cells (wc M n).toArray ty)) w.heap.size n M := by
  refine ⟨by simp, hM, fun i hi => ⟨?_, by simp [go_sem]⟩⟩
  rw [World.cell?_alloc_mark w _ _ (0, 0) i]
  simpa using wc_get hi
/-- a state as a value. -/
def S4.v (s : S4) : Array Value := #[.int .u32 s.a, .int .u32 s.b, .int .u32 s.c, .int .u32 s.d]
theorem Sw.new (w : World) (s : S4) (ty : TypeId) : Sw (w.alloc (.cells #[.int .u32 s.a, .int .u32 s.b, .int .u32 s.c, .int .u32 s.d] ty)) w.heap.size s :=
  ⟨by simp, by simp [go_sem], by simp [go_sem], by simp [go_sem], by simp [go_sem], by simp [go_sem], by simp [go_sem], by simp [go_sem], by simp [go_sem]⟩
theorem Sw.belowB {B : Nat} {w w' : World} {b : Nat} {s : S4} (h : Sw w b s) (hb : b < B) (k : Below B w w') : Sw w' b s := by
  obtain ⟨h0, h1, h2, h3, h4, h5, h6, h7, h8⟩ := h
  exact ⟨Nat.lt_of_lt_of_le h0 k.size, (k.cell (p := ⟨b, 0, none⟩) hb).trans h1, (k.cell (p := ⟨b, 1, none⟩) hb).trans h2, (k.cell (p := ⟨b, 2, none⟩) hb).trans h3, (k.cell (p := ⟨b, 3, none⟩) hb).trans h4, (k.frozen (p := ⟨b, 0, none⟩) hb).trans h5, (k.frozen (p := ⟨b, 1, none⟩) hb).trans h6, (k.frozen (p := ⟨b, 2, none⟩) hb).trans h7, (k.frozen (p := ⟨b, 3, none⟩) hb).trans h8⟩
theorem Sw.range {w : World} {b : Nat} {s : S4} (h : Sw w b s) : w.rangeAt b 0 [.int .u32 s.a, .int .u32 s.b, .int .u32 s.c, .int .u32 s.d] := by
  obtain ⟨h0, h1, h2, h3, h4, _⟩ := h
  intro j v hj
  rw [Nat.zero_add]
  match j with
  | 0 => simpa using h1.trans (by simpa using hj)
  | 1 => simpa using h2.trans (by simpa using hj)
  | 2 => simpa using h3.trans (by simpa using hj)
  | 3 => simpa using h4.trans (by simpa using hj)
  | _ + 4 => simp at hj
theorem info_a4 : (Tryd.prog.info? 30).map (·.size) = some 4 := by kernel_rfl

set_option maxRecDepth 100000 in
set_option maxHeartbeats 4000000 in
theorem md5Block_c (s : S4) (M : Nat → Nat) (w : World) (G : Gl w) (hs : s.ok) (hM : ∀ i, i < 16 → M i < 4294967296) :
    Calls Tryd.prog 33 #[.agg #[.int .u32 s.a, .int .u32 s.b, .int .u32 s.c, .int .u32 s.d], .agg (wc M 16).toArray] w fun e w' => e = .returned (.agg (mdAdd s (mdRun M s 64)).v) ∧ Below w.heap.size w w' := by
  have HM := Lib.hid hM
  have WS := Lib.hid (balloc (balloc (balloc (brefl w) (.cells #[.int .u32 s.a, .int .u32 s.b, .int .u32 s.c, .int .u32 s.d] 30)) (.cells (wc M 16).toArray 51)) (.cells #[.int .u32 0, .int .u32 0, .int .u32 0, .int .u32 0] 30))
  have GL := Lib.hid (G.below WS.out)
  have S0 := Lib.hid (((Sw.new w s 30).below (balloc (brefl _) (.cells (wc M 16).toArray 51))).below (balloc (brefl _) (.cells #[.int .u32 0, .int .u32 0, .int .u32 0, .int .u32 0] 30)))
  have A0 := Lib.hid ((As.newC (w.alloc (.cells #[.int .u32 s.a, .int .u32 s.b, .int .u32 s.c, .int .u32 s.d] 30)) 16 M 51 hM).below (balloc (brefl _) (.cells #[.int .u32 0, .int .u32 0, .int .u32 0, .int .u32 0] 30)))
  have R0 := Lib.hid (Sw.new ((w.alloc (.cells #[.int .u32 s.a, .int .u32 s.b, .int .u32 s.c, .int .u32 s.d] 30)).alloc (.cells (wc M 16).toArray 51)) ⟨0, 0, 0, 0⟩ 30)
  rw [show (w.alloc (.cells #[.int .u32 s.a, .int .u32 s.b, .int .u32 s.c, .int .u32 s.d] 30)).heap.size = w.heap.size + 1 from by simp] at A0
  rw [show ((w.alloc (.cells #[.int .u32 s.a, .int .u32 s.b, .int .u32 s.c, .int .u32 s.d] 30)).alloc (.cells (wc M 16).toArray 51)).heap.size = w.heap.size + 1 + 1 from by simp] at R0
  replace R0 : Hid (Sw (((w.alloc (.cells #[.int .u32 s.a, .int .u32 s.b, .int .u32 s.c, .int .u32 s.d] 30)).alloc (.cells (wc M 16).toArray 51)).alloc (.cells #[.int .u32 0, .int .u32 0, .int .u32 0, .int .u32 0] 30)) (w.heap.size + 1 + 1) ⟨0, 0, 0, 0⟩) := R0
  have RR : Hid (∀ k, mdRun M s (k + 1) = mdOne M k (mdRun M s k)) := fun k => rfl
  have RZ : Hid (mdRun M s 0 = s) := rfl
  have MO := Lib.hid (fun k => mdRun_ok (M := M) hs k)
  clear G hM
  have ADD : Hid (mdAdd s (mdRun M s 64) = ⟨(s.a + (mdRun M s 64).a) % 4294967296, (s.b + (mdRun M s 64).b) % 4294967296, (s.c + (mdRun M s 64).c) % 4294967296, (s.d + (mdRun M s 64).d) % 4294967296⟩) := rfl
  go_enter Tryd.func33, Tryd.ntmps33
  go_wp2_with fail
  generalize ((w.alloc (.cells #[.int .u32 s.a, .int .u32 s.b, .int .u32 s.c, .int .u32 s.d] 30)).alloc (.cells (wc M 16).toArray 51)).alloc (.cells #[.int .u32 0, .int .u32 0, .int .u32 0, .int .u32 0] 30) = W0 at *
  obtain ⟨s1, s2, s3, s4, s5, _⟩ := S0.out
  go_quiet (fail)
  go_wp2_with fail
  clear s1 s2 s3 s4 s5
  go_loopw [5, 6, 7, 8, 20] (fun a b c d i wr => ∃ k : Nat, k ≤ 64 ∧ i = .int .i64 k ∧ a = .int .u32 (mdRun M s k).a ∧ b = .int .u32 (mdRun M s k).b ∧ c = .int .u32 (mdRun M s k).c ∧ d = .int .u32 (mdRun M s k).d ∧ Below W0.heap.size W0 wr) (fun _ _ _ _ i _ => 64 - (intOf i).toNat)
  case atStart => exact ⟨0, by omega, rfl, by rw [RZ.out], by rw [RZ.out], by rw [RZ.out], by rw [RZ.out], bdrew (brefl W0) _⟩
  case round =>
    obtain ⟨k, hk, rfl, rfl, rfl, rfl, rfl, hb⟩ := hrel
    rename World => wr
    have OK := MO.out k
    have GW := Lib.hid (GL.out.below hb)
    have AW := Lib.hid (A0.out.below hb)
    have HB := Lib.hid hb
    clear hb
    by_cases c4 : k < 64
    · have e0 : decide ((k : Int) < 64) = true := by rw [decide_eq_true_iff]; omega
      have RK := Lib.hid (RR.out k)
      have EF : Hid (mdf M k (mdRun M s k) = (mF k (mdRun M s k).b (mdRun M s k).c (mdRun M s k).d + (mdRun M s k).a + mdK k + M (mG k)) % 4294967296) := rfl
      have NX : Hid (mdRun M s (k + 1) = ⟨(mdRun M s k).d, ((mdRun M s k).b + rol (mdf M k (mdRun M s k)) (mdT k)) % 4294967296, (mdRun M s k).b, (mdRun M s k).c⟩) := RK
      clear RK
      have ST := Lib.hid (fun w => md5Mix_c k (mdRun M s k).b (mdRun M s k).c (mdRun M s k).d w (by omega) OK.2.1 OK.2.2.1 OK.2.2.2)
      have GT := mG_lt k
      have FL := mF_lt k OK.2.1 OK.2.2.1 OK.2.2.2
      have WL := HM.out (mG k) GT
      have KL := mdK_lt k c4
      have TL := mdT_bd k c4
      have FF : mdf M k (mdRun M s k) < 4294967296 := by rw [EF.out]; exact Nat.mod_lt _ (by omega)
      have LC := Lib.hid (fun w => rotl_c (mdf M k (mdRun M s k)) (mdT k) w FF TL.1 TL.2)
      have RL := (rol_or (mdf M k (mdRun M s k)) (mdT k) FF TL.1 TL.2).2
      have EI : (mdf M k (mdRun M s k) : Int) = ((mF k (mdRun M s k).b (mdRun M s k).c (mdRun M s k).d : Int) + (mdRun M s k).a + mdK k + M (mG k)) % 4294967296 := by rw [EF.out]; simp
      have KC : wr.cell? ⟨0, k, none⟩ = some (.int .u32 (mdK k)) := GW.out.1 k c4
      have TC : wr.cell? ⟨1, 4 * (k / 16) + k % 4, none⟩ = some (.int .i64 (mdT k)) := GW.out.2.1 (4 * (k / 16) + k % 4) (by omega)
      have WC := (AW.out.2.2 (mG k) GT).1
      generalize rol (mdf M k (mdRun M s k)) (mdT k) = rl at *
      clear EF FF
      generalize mdf M k (mdRun M s k) = fs at *
      replace EI := Lib.hid EI
      generalize M (mG k) = ww at *
      generalize mF k (mdRun M s k).b (mdRun M s k).c (mdRun M s k).d = ff at *
      generalize mG k = gg at *
      generalize mdK k = kk at *
      generalize mdT k = tt at *
      obtain ⟨o1, o2, o3, o4⟩ := OK
      generalize (mdRun M s k).a = ra at *
      generalize (mdRun M s k).b = rb at *
      generalize (mdRun M s k).c = rc at *
      generalize (mdRun M s k).d = rd at *
      have k0 : (0 : Int) ≤ (k : Int) := by omega
      have k1 : (k : Int) < 64 := by omega
      have g0 : (gg : Int) < 16 := by omega
      have d0 : (k : Int).tdiv 16 = ((k / 16 : Nat) : Int) := by rw [Int.tdiv_eq_ediv_of_nonneg k0]; omega
      have d1 : (k : Int).tmod 4 = ((k % 4 : Nat) : Int) := by rw [Int.tmod_eq_emod_of_nonneg k0]; omega
      have d2 : k / 16 ≤ 3 := by omega
      have d3 : k % 4 ≤ 3 := by omega
      go_wp2_with fail
      refine (ST.out _).mono ?_
      rintro e w' ⟨rfl, rfl⟩
      go_wp2_with fail
      go_quiet (fail)
      rw [show ((ff : Int) + ((ra : Int) + (kk : Int) + (ww : Int)) % 4294967296) % 4294967296 = (fs : Int) from by rw [EI.out]; omega]
      generalize hw2 : w'.drewN nq = w2
      have B2 : Below w'.heap.size w' w2 := by rw [← hw2]; exact bdrew (brefl _) _
      replace TC := (B2.cell (p := ⟨_, 4 * (k / 16) + k % 4, none⟩) (World.block_lt_of_cell? _ _ TC)).trans TC
      rw [Nat.mul_comm 4 (k / 16)] at TC
      have HB2 := Lib.hid (bstep HB.out B2)
      clear hw2 B2 KC WC
      go_wp2_with fail
      refine (LC.out _).mono ?_
      rintro e w3 ⟨rfl, rfl⟩
      go_wp2_with fail
      go_roundw
      case rel => exact ⟨k + 1, by omega, by go_num, by rw [NX.out], by rw [NX.out]; simp, by rw [NX.out], by rw [NX.out], HB2.out⟩
      case measure => simp [intOf]; omega
    · have e0 : decide ((k : Int) < 64) = false := by rw [decide_eq_false_iff_not]; omega
      obtain rfl : k = 64 := by omega
      have SW := Lib.hid (S0.out.below HB.out)
      have RW := Lib.hid (R0.out.below HB.out)
      obtain ⟨o1, o2, o3, o4⟩ := OK
      obtain ⟨p1, p2, p3, p4⟩ := hs
      have FI := Lib.hid (RW.out.set4 ⟨(s.a + (mdRun M s 64).a) % 4294967296, (s.b + (mdRun M s 64).b) % 4294967296, (s.c + (mdRun M s 64).c) % 4294967296, (s.d + (mdRun M s 64).d) % 4294967296⟩)
      have FB := Lib.hid (((((WS.out.trans (HB.out.mono WS.out.size)).setCell (p := ⟨w.heap.size + 1 + 1, 0, none⟩) (show w.heap.size ≤ w.heap.size + 1 + 1 by omega) (.int .u32 (((s.a + (mdRun M s 64).a) % 4294967296 : Nat) : Int))).setCell (p := ⟨w.heap.size + 1 + 1, 1, none⟩) (show w.heap.size ≤ w.heap.size + 1 + 1 by omega) (.int .u32 (((s.b + (mdRun M s 64).b) % 4294967296 : Nat) : Int))).setCell (p := ⟨w.heap.size + 1 + 1, 2, none⟩) (show w.heap.size ≤ w.heap.size + 1 + 1 by omega) (.int .u32 (((s.c + (mdRun M s 64).c) % 4294967296 : Nat) : Int))).setCell (p := ⟨w.heap.size + 1 + 1, 3, none⟩) (show w.heap.size ≤ w.heap.size + 1 + 1 by omega) (.int .u32 (((s.d + (mdRun M s 64).d) % 4294967296 : Nat) : Int)))
      obtain ⟨s1, s2, s3, s4, s5, _⟩ := SW.out
      obtain ⟨q1, q2, q3, q4, q5, q6, q7, q8, q9⟩ := RW.out
      go_wp2_with fail
      rw [show ((s.a : Int) + ((mdRun M s 64).a : Int)) % 4294967296 = (((s.a + (mdRun M s 64).a) % 4294967296 : Nat) : Int) from by omega, show ((s.b : Int) + ((mdRun M s 64).b : Int)) % 4294967296 = (((s.b + (mdRun M s 64).b) % 4294967296 : Nat) : Int) from by omega, show ((s.c : Int) + ((mdRun M s 64).c : Int)) % 4294967296 = (((s.c + (mdRun M s 64).c) % 4294967296 : Nat) : Int) from by omega, show ((s.d : Int) + ((mdRun M s 64).d : Int)) % 4294967296 = (((s.d + (mdRun M s 64).d) % 4294967296 : Nat) : Int) from by omega]
      refine bodyPost_ret (v := .agg (mdAdd s (mdRun M s 64)).v) (results_cell_mid rfl _ _ (w.heap.size + 1 + 1) _ _ rfl FI.out.range Tryd.underlying30 rfl (by exact info_a4)) rfl ⟨rfl, FB.out⟩
end Go.Proofs.YtenlbjnoiamfiaaDoor.Hs
