/-
  The tables of package hash as they lie in memory; the contract of hash.md5Block.
  Conditions: the tables read as the program's text lays them.
  MD5 block by block, from whatever state on; the contract of hash.md5Blocks.
  Conditions: the tables read as the program's text lays them.
  SHA-256 in numbers; the contract of hash.sha256Block.
  Conditions: the tables read as the program's text lays them.
  The contract of hash.sha256Blocks.
  Conditions: the tables read as the program's text lays them.
-/
import Derived.Test.YtkjolaoajbdomaaGreatDoorHc
import Derived.Deep.RegionHeld3
import Derived.Deep.RegionLaw
namespace Go.Proofs.YtkjolaoajbdomaaGreatDoor.Hs
open Go.RowKit
set_option linter.unusedVariables false
set_option linter.unusedSimpArgs false

/-- the tables of package hash that MD5 reads. -/
def Gl (w : World) : Prop :=
  (∀ i, i < 64 → w.cell? ⟨1, i, none⟩ = some (.int .u32 (mdK i))) ∧ (∀ i, i < 16 → w.cell? ⟨2, i, none⟩ = some (.int .i64 ((mdTs.getD i 0 : Nat) : Int))) ∧ True
theorem Gl.below {w w' : World} (h : Gl w) (k : Below w.heap.size w w') : Gl w' :=
  ⟨fun i hi => (k.cell (p := ⟨_, i, none⟩) (World.block_lt_of_cell? w _ (h.1 i hi))).trans (h.1 i hi), fun i hi => (k.cell (p := ⟨_, i, none⟩) (World.block_lt_of_cell? w _ (h.2.1 i hi))).trans (h.2.1 i hi), trivial⟩
theorem Gl.belowB {B : Nat} {w w' : World} (h : Gl w) (hB : 1 < B ∧ 2 < B) (k : Below B w w') : Gl w' :=
  ⟨fun i hi => (k.cell (p := ⟨_, i, none⟩) hB.1).trans (h.1 i hi), fun i hi => (k.cell (p := ⟨_, i, none⟩) hB.2).trans (h.2.1 i hi), trivial⟩
theorem Gl.size {w : World} (h : Gl w) : 1 < w.heap.size ∧ 2 < w.heap.size := by
  have a := World.block_lt_of_cell? w _ (h.1 0 (by omega))
  have b := World.block_lt_of_cell? w _ (h.2.1 0 (by omega))
  simp at a b
  omega
theorem As.newC (w : World) (n : Nat) (M : Nat → Nat) (ty : TypeId) (hM : ∀ i, i < n → M i < 4294967296) : As (w.alloc (.cells (wc M n).toArray ty)) w.heap.size n M := by
  refine ⟨by simp, hM, fun i hi => ⟨?_, by simp [go_sem]⟩⟩
  rw [World.cell?_alloc_mark w _ _ (0, 0) i]
  simpa using wc_get hi
/-- a state as a value. -/
def S4.v (s : S4) : Array Value := #[.int .u32 s.a, .int .u32 s.b, .int .u32 s.c, .int .u32 s.d]
theorem Sw.new (w : World) (s : S4) (ty : TypeId) : Sw (w.alloc (.cells #[.int .u32 s.a, .int .u32 s.b, .int .u32 s.c, .int .u32 s.d] ty)) w.heap.size s :=
  ⟨by simp, by simp [go_sem], by simp [go_sem], by simp [go_sem], by simp [go_sem], by simp [go_sem], by simp [go_sem], by simp [go_sem], by simp [go_sem]⟩
theorem Sw.belowB {B : Nat} {w w' : World} {b : Nat} {s : S4} (h : Sw w b s) (hb : b < B) (k : Below B w w') : Sw w' b s := by
  obtain ⟨h0, h1, h2, h3, h4, h5, h6, h7, h8⟩ := h
  exact ⟨Nat.lt_of_lt_of_le h0 k.size, (k.cell (p := ⟨b, 0, none⟩) hb).trans h1, (k.cell (p := ⟨b, 1, none⟩) hb).trans h2, (k.cell (p := ⟨b, 2, none⟩) hb).trans h3, (k.cell (p := ⟨b, 3, none⟩) hb).trans h4, (k.frozen (p := ⟨b, 0, none⟩) hb).trans h5, (k.frozen (p := ⟨b, 1, none⟩) hb).trans h6, (k.frozen (p := ⟨b, 2, none⟩) hb).trans h7, (k.frozen (p := ⟨b, 3, none⟩) hb).trans h8⟩
theorem Sw.range {w : World} {b : Nat} {s : S4} (h : Sw w b s) : w.rangeAt b 0 [.int .u32 s.a, .int .u32 s.b, .int .u32 s.c, .int .u32 s.d] := by
  obtain ⟨h0, h1, h2, h3, h4, _⟩ := h
  intro j v hj
  rw [Nat.zero_add]
  match j with
  | 0 => simpa using h1.trans (by simpa using hj)
  | 1 => simpa using h2.trans (by simpa using hj)
  | 2 => simpa using h3.trans (by simpa using hj)
  | 3 => simpa using h4.trans (by simpa using hj)
  | _ + 4 => simp at hj
theorem info_a4 : (Tryz.prog.info? 113).map (·.size) = some 4 := by kernel_rfl

set_option maxRecDepth 100000 in
set_option maxHeartbeats 4000000 in
theorem md5Block_c (s : S4) (M : Nat → Nat) (w : World) (G : Gl w) (hs : s.ok) (hM : ∀ i, i < 16 → M i < 4294967296) :
    Calls Tryz.prog 94 #[.agg #[.int .u32 s.a, .int .u32 s.b, .int .u32 s.c, .int .u32 s.d], .agg (wc M 16).toArray] w fun e w' => e = .returned (.agg (mdAdd s (mdRun M s 64)).v) ∧ Below w.heap.size w w' := by
  have HM := Lib.hid hM
  have WS := Lib.hid (balloc (balloc (balloc (brefl w) (.cells #[.int .u32 s.a, .int .u32 s.b, .int .u32 s.c, .int .u32 s.d] 113)) (.cells (wc M 16).toArray 136)) (.cells #[.int .u32 0, .int .u32 0, .int .u32 0, .int .u32 0] 113))
  have GL := Lib.hid (G.below WS.out)
  have S0 := Lib.hid (((Sw.new w s 113).below (balloc (brefl _) (.cells (wc M 16).toArray 136))).below (balloc (brefl _) (.cells #[.int .u32 0, .int .u32 0, .int .u32 0, .int .u32 0] 113)))
  have A0 := Lib.hid ((As.newC (w.alloc (.cells #[.int .u32 s.a, .int .u32 s.b, .int .u32 s.c, .int .u32 s.d] 113)) 16 M 136 hM).below (balloc (brefl _) (.cells #[.int .u32 0, .int .u32 0, .int .u32 0, .int .u32 0] 113)))
  have R0 := Lib.hid (Sw.new ((w.alloc (.cells #[.int .u32 s.a, .int .u32 s.b, .int .u32 s.c, .int .u32 s.d] 113)).alloc (.cells (wc M 16).toArray 136)) ⟨0, 0, 0, 0⟩ 113)
  rw [show (w.alloc (.cells #[.int .u32 s.a, .int .u32 s.b, .int .u32 s.c, .int .u32 s.d] 113)).heap.size = w.heap.size + 1 from by simp] at A0
  rw [show ((w.alloc (.cells #[.int .u32 s.a, .int .u32 s.b, .int .u32 s.c, .int .u32 s.d] 113)).alloc (.cells (wc M 16).toArray 136)).heap.size = w.heap.size + 1 + 1 from by simp] at R0
  replace R0 : Hid (Sw (((w.alloc (.cells #[.int .u32 s.a, .int .u32 s.b, .int .u32 s.c, .int .u32 s.d] 113)).alloc (.cells (wc M 16).toArray 136)).alloc (.cells #[.int .u32 0, .int .u32 0, .int .u32 0, .int .u32 0] 113)) (w.heap.size + 1 + 1) ⟨0, 0, 0, 0⟩) := R0
  have RR : Hid (∀ k, mdRun M s (k + 1) = mdOne M k (mdRun M s k)) := fun k => rfl
  have RZ : Hid (mdRun M s 0 = s) := rfl
  have MO := Lib.hid (fun k => mdRun_ok (M := M) hs k)
  clear G hM
  have ADD : Hid (mdAdd s (mdRun M s 64) = ⟨(s.a + (mdRun M s 64).a) % 4294967296, (s.b + (mdRun M s 64).b) % 4294967296, (s.c + (mdRun M s 64).c) % 4294967296, (s.d + (mdRun M s 64).d) % 4294967296⟩) := rfl
  go_enter Tryz.func94, Tryz.ntmps94
  go_wp2_with fail
  generalize ((w.alloc (.cells #[.int .u32 s.a, .int .u32 s.b, .int .u32 s.c, .int .u32 s.d] 113)).alloc (.cells (wc M 16).toArray 136)).alloc (.cells #[.int .u32 0, .int .u32 0, .int .u32 0, .int .u32 0] 113) = W0 at *
  obtain ⟨s1, s2, s3, s4, s5, _⟩ := S0.out
  go_quiet (fail)
  go_wp2_with fail
  clear s1 s2 s3 s4 s5
  go_loopw [5, 6, 7, 8, 20] (fun a b c d i wr => ∃ k : Nat, k ≤ 64 ∧ i = .int .i64 k ∧ a = .int .u32 (mdRun M s k).a ∧ b = .int .u32 (mdRun M s k).b ∧ c = .int .u32 (mdRun M s k).c ∧ d = .int .u32 (mdRun M s k).d ∧ Below W0.heap.size W0 wr) (fun _ _ _ _ i _ => 64 - (intOf i).toNat)
  case atStart => exact ⟨0, by omega, rfl, by rw [RZ.out], by rw [RZ.out], by rw [RZ.out], by rw [RZ.out], bdrew (brefl W0) _⟩
  case round =>
    obtain ⟨k, hk, rfl, rfl, rfl, rfl, rfl, hb⟩ := hrel
    rename World => wr
    have OK := MO.out k
    have GW := Lib.hid (GL.out.below hb)
    have AW := Lib.hid (A0.out.below hb)
    have HB := Lib.hid hb
    clear hb
    by_cases c4 : k < 64
    · have e0 : decide ((k : Int) < 64) = true := by rw [decide_eq_true_iff]; omega
      have RK := Lib.hid (RR.out k)
      have EF : Hid (mdf M k (mdRun M s k) = (mF k (mdRun M s k).b (mdRun M s k).c (mdRun M s k).d + (mdRun M s k).a + mdK k + M (mG k)) % 4294967296) := rfl
      have NX : Hid (mdRun M s (k + 1) = ⟨(mdRun M s k).d, ((mdRun M s k).b + rol (mdf M k (mdRun M s k)) (mdT k)) % 4294967296, (mdRun M s k).b, (mdRun M s k).c⟩) := RK
      clear RK
      have ST := Lib.hid (fun w => md5Mix_c k (mdRun M s k).b (mdRun M s k).c (mdRun M s k).d w (by omega) OK.2.1 OK.2.2.1 OK.2.2.2)
      have GT := mG_lt k
      have FL := mF_lt k OK.2.1 OK.2.2.1 OK.2.2.2
      have WL := HM.out (mG k) GT
      have KL := mdK_lt k c4
      have TL := mdT_bd k c4
      have FF : mdf M k (mdRun M s k) < 4294967296 := by rw [EF.out]; exact Nat.mod_lt _ (by omega)
      have LC := Lib.hid (fun w => rotl_c (mdf M k (mdRun M s k)) (mdT k) w FF TL.1 TL.2)
      have RL := (rol_or (mdf M k (mdRun M s k)) (mdT k) FF TL.1 TL.2).2
      have EI : (mdf M k (mdRun M s k) : Int) = ((mF k (mdRun M s k).b (mdRun M s k).c (mdRun M s k).d : Int) + (mdRun M s k).a + mdK k + M (mG k)) % 4294967296 := by rw [EF.out]; simp
      have KC : wr.cell? ⟨1, k, none⟩ = some (.int .u32 (mdK k)) := GW.out.1 k c4
      have TC : wr.cell? ⟨2, 4 * (k / 16) + k % 4, none⟩ = some (.int .i64 (mdT k)) := GW.out.2.1 (4 * (k / 16) + k % 4) (by omega)
      have WC := (AW.out.2.2 (mG k) GT).1
      generalize rol (mdf M k (mdRun M s k)) (mdT k) = rl at *
      clear EF FF
      generalize mdf M k (mdRun M s k) = fs at *
      replace EI := Lib.hid EI
      generalize M (mG k) = ww at *
      generalize mF k (mdRun M s k).b (mdRun M s k).c (mdRun M s k).d = ff at *
      generalize mG k = gg at *
      generalize mdK k = kk at *
      generalize mdT k = tt at *
      obtain ⟨o1, o2, o3, o4⟩ := OK
      generalize (mdRun M s k).a = ra at *
      generalize (mdRun M s k).b = rb at *
      generalize (mdRun M s k).c = rc at *
      generalize (mdRun M s k).d = rd at *
      have k0 : (0 : Int) ≤ (k : Int) := by omega
      have k1 : (k : Int) < 64 := by omega
      have g0 : (gg : Int) < 16 := by omega
      have d0 : (k : Int).tdiv 16 = ((k / 16 : Nat) : Int) := by rw [Int.tdiv_eq_ediv_of_nonneg k0]; omega
      have d1 : (k : Int).tmod 4 = ((k % 4 : Nat) : Int) := by rw [Int.tmod_eq_emod_of_nonneg k0]; omega
      have d2 : k / 16 ≤ 3 := by omega
      have d3 : k % 4 ≤ 3 := by omega
      go_wp2_with fail
      refine (ST.out _).mono ?_
      rintro e w' ⟨rfl, rfl⟩
      go_wp2_with fail
      go_quiet (fail)
      rw [show ((ff : Int) + ((ra : Int) + (kk : Int) + (ww : Int)) % 4294967296) % 4294967296 = (fs : Int) from by rw [EI.out]; omega]
      generalize hw2 : w'.drewN nq = w2
      have B2 : Below w'.heap.size w' w2 := by rw [← hw2]; exact bdrew (brefl _) _
      replace TC := (B2.cell (p := ⟨_, 4 * (k / 16) + k % 4, none⟩) (World.block_lt_of_cell? _ _ TC)).trans TC
      rw [Nat.mul_comm 4 (k / 16)] at TC
      have HB2 := Lib.hid (bstep HB.out B2)
      clear hw2 B2 KC WC
      go_wp2_with fail
      refine (LC.out _).mono ?_
      rintro e w3 ⟨rfl, rfl⟩
      go_wp2_with fail
      go_roundw
      case rel => exact ⟨k + 1, by omega, by go_num, by rw [NX.out], by rw [NX.out]; simp, by rw [NX.out], by rw [NX.out], HB2.out⟩
      case measure => simp [intOf]; omega
    · have e0 : decide ((k : Int) < 64) = false := by rw [decide_eq_false_iff_not]; omega
      obtain rfl : k = 64 := by omega
      have SW := Lib.hid (S0.out.below HB.out)
      have RW := Lib.hid (R0.out.below HB.out)
      obtain ⟨o1, o2, o3, o4⟩ := OK
      obtain ⟨p1, p2, p3, p4⟩ := hs
      have FI := Lib.hid (RW.out.set4 ⟨(s.a + (mdRun M s 64).a) % 4294967296, (s.b + (mdRun M s 64).b) % 4294967296, (s.c + (mdRun M s 64).c) % 4294967296, (s.d + (mdRun M s 64).d) % 4294967296⟩)
      have FB := Lib.hid (((((WS.out.trans (HB.out.mono WS.out.size)).setCell (p := ⟨w.heap.size + 1 + 1, 0, none⟩) (show w.heap.size ≤ w.heap.size + 1 + 1 by omega) (.int .u32 (((s.a + (mdRun M s 64).a) % 4294967296 : Nat) : Int))).setCell (p := ⟨w.heap.size + 1 + 1, 1, none⟩) (show w.heap.size ≤ w.heap.size + 1 + 1 by omega) (.int .u32 (((s.b + (mdRun M s 64).b) % 4294967296 : Nat) : Int))).setCell (p := ⟨w.heap.size + 1 + 1, 2, none⟩) (show w.heap.size ≤ w.heap.size + 1 + 1 by omega) (.int .u32 (((s.c + (mdRun M s 64).c) % 4294967296 : Nat) : Int))).setCell (p := ⟨w.heap.size + 1 + 1, 3, none⟩) (show w.heap.size ≤ w.heap.size + 1 + 1 by omega) (.int .u32 (((s.d + (mdRun M s 64).d) % 4294967296 : Nat) : Int)))
      obtain ⟨s1, s2, s3, s4, s5, _⟩ := SW.out
      obtain ⟨q1, q2, q3, q4, q5, q6, q7, q8, q9⟩ := RW.out
      go_wp2_with fail
      rw [show ((s.a : Int) + ((mdRun M s 64).a : Int)) % 4294967296 = (((s.a + (mdRun M s 64).a) % 4294967296 : Nat) : Int) from by omega, show ((s.b : Int) + ((mdRun M s 64).b : Int)) % 4294967296 = (((s.b + (mdRun M s 64).b) % 4294967296 : Nat) : Int) from by omega, show ((s.c : Int) + ((mdRun M s 64).c : Int)) % 4294967296 = (((s.c + (mdRun M s 64).c) % 4294967296 : Nat) : Int) from by omega, show ((s.d : Int) + ((mdRun M s 64).d : Int)) % 4294967296 = (((s.d + (mdRun M s 64).d) % 4294967296 : Nat) : Int) from by omega]
      refine bodyPost_ret (v := .agg (mdAdd s (mdRun M s 64)).v) (results_cell_mid rfl _ _ (w.heap.size + 1 + 1) _ _ rfl FI.out.range Tryz.underlying113 rfl (by exact info_a4)) rfl ⟨rfl, FB.out⟩
end Go.Proofs.YtkjolaoajbdomaaGreatDoor.Hs
namespace Go.Proofs.YtkjolaoajbdomaaGreatDoor.Hs
open Go.RowKit
set_option linter.unusedVariables false
set_option linter.unusedSimpArgs false

/-- the state behind t blocks, from s on. -/
def mdGo (F : Nat → Nat) (s : S4) : Nat → S4
  | 0 => s
  | t + 1 => mdAdd (mdGo F s t) (mdRun (fun g => wrd true F (64 * t + 4 * g)) (mdGo F s t) 64)
theorem mdGo_ok {F : Nat → Nat} {s : S4} (h : s.ok) : ∀ t, (mdGo F s t).ok
  | 0 => h
  | t + 1 => ⟨Nat.mod_lt _ (by omega), Nat.mod_lt _ (by omega), Nat.mod_lt _ (by omega), Nat.mod_lt _ (by omega)⟩

theorem Sw.other {w : World} {b : Nat} {s : S4} (h : Sw w b s) {b' : Nat} (hb : b ≠ b') (i : Nat) (v : Value) : Sw (w.setCell ⟨b', i, none⟩ v) b s := by
  obtain ⟨h0, h1, h2, h3, h4, h5, h6, h7, h8⟩ := h
  have e : ∀ j, (w.setCell ⟨b', i, none⟩ v).cell? ⟨b, j, none⟩ = w.cell? ⟨b, j, none⟩ := fun j => World.cell?_setCell_other _ _ _ _ (fun q => hb (by simpa using (congrArg Addr.block q).symm))
  have g : ∀ j, (w.setCell ⟨b', i, none⟩ v).frozen? ⟨b, j, none⟩ = w.frozen? ⟨b, j, none⟩ := fun j => by rw [World.frozen?_setCell]
  exact ⟨by simpa [World.setCell] using h0, (e 0).trans h1, (e 1).trans h2, (e 2).trans h3, (e 3).trans h4, (g 0).trans h5, (g 1).trans h6, (g 2).trans h7, (g 3).trans h8⟩
theorem Sw.belowX {w : World} {b b' : Nat} {s : S4} (h : Sw w b s) (hb : b ≠ b') (r : S4) : Sw ((((w.setCell ⟨b', 0, none⟩ (.int .u32 r.a)).setCell ⟨b', 1, none⟩ (.int .u32 r.b)).setCell ⟨b', 2, none⟩ (.int .u32 r.c)).setCell ⟨b', 3, none⟩ (.int .u32 r.d)) b s :=
  (((h.other hb 0 _).other hb 1 _).other hb 2 _).other hb 3 _
theorem wrap_in {a : Int} (h : -9223372036854775808 ≤ a) (h' : a ≤ 9223372036854775807) : IntKind.i64.wrap a = a := by
  simp only [IntKind.wrap, IntKind.bits, IntKind.signed]
  simp
  omega
theorem Bs.part {w : World} {b off n : Nat} {f : Nat → Nat} (h : Bs w b off n f) (o m : Nat) (hm : o + m ≤ n) : Bs w b (off + o) m (fun i => f (o + i)) :=
  ⟨h.1, fun i => h.2.1 _, fun i hi => by rw [Nat.add_assoc]; exact h.2.2 (o + i) (by omega)⟩
theorem wrd_part (low : Bool) (f : Nat → Nat) (o a : Nat) : wrd low (fun i => f (o + i)) a = wrd low f (o + a) := by
  unfold wrd
  split <;> simp [wl, wh, Nat.add_assoc]

set_option maxRecDepth 100000 in
set_option maxHeartbeats 4000000 in
theorem md5Blocks_c (s : S4) (b off n cap : Nat) (f : Nat → Nat) (w : World) (G : Gl w) (hs : s.ok) (B : Bs w b off n f) (hn : n ≤ 140737488351296) (hc : n ≤ cap) (hcap : cap ≤ 9223372036854775807) :
    Calls Tryz.prog 71 #[.agg #[.int .u32 s.a, .int .u32 s.b, .int .u32 s.c, .int .u32 s.d], .slice (some ⟨b, off, none⟩) n cap] w fun e w' => e = .returned (.agg (mdGo f s (n / 64)).v) ∧ Below w.heap.size w w' := by
  have WS := Lib.hid (balloc (balloc (brefl w) (.cells #[.int .u32 s.a, .int .u32 s.b, .int .u32 s.c, .int .u32 s.d] 113)) (.cells #[.int .u32 0, .int .u32 0, .int .u32 0, .int .u32 0] 113))
  have GL := Lib.hid (G.below WS.out)
  have BL := Lib.hid (B.below WS.out)
  have S0 := Lib.hid ((Sw.new w s 113).below (balloc (brefl _) (.cells #[.int .u32 0, .int .u32 0, .int .u32 0, .int .u32 0] 113)))
  have R0 := Lib.hid (Sw.new (w.alloc (.cells #[.int .u32 s.a, .int .u32 s.b, .int .u32 s.c, .int .u32 s.d] 113)) ⟨0, 0, 0, 0⟩ 113)
  rw [show (w.alloc (.cells #[.int .u32 s.a, .int .u32 s.b, .int .u32 s.c, .int .u32 s.d] 113)).heap.size = w.heap.size + 1 from by simp] at R0
  replace R0 : Hid (Sw ((w.alloc (.cells #[.int .u32 s.a, .int .u32 s.b, .int .u32 s.c, .int .u32 s.d] 113)).alloc (.cells #[.int .u32 0, .int .u32 0, .int .u32 0, .int .u32 0] 113)) (w.heap.size + 1) ⟨0, 0, 0, 0⟩) := R0
  have GO := Lib.hid (mdGo_ok (F := f) hs)
  have L1 := B.1
  have L3 := G.size
  clear G B
  go_enter Tryz.func71, Tryz.ntmps71
  go_wp2_with fail
  generalize (w.alloc (.cells #[.int .u32 s.a, .int .u32 s.b, .int .u32 s.c, .int .u32 s.d] 113)).alloc (.cells #[.int .u32 0, .int .u32 0, .int .u32 0, .int .u32 0] 113) = W0 at *
  go_loopw [5] (fun i wr => ∃ t m : Nat, m = 64 * t ∧ m ≤ n ∧ i = .int .i64 m ∧ Sw wr w.heap.size (mdGo f s t) ∧ Below w.heap.size W0 wr ∧ Sw wr (w.heap.size + 1) ⟨0, 0, 0, 0⟩) (fun i _ => n - (intOf i).toNat)
  case atStart => exact ⟨0, 0, rfl, by omega, rfl, S0.out, Below.refl _ _, R0.out⟩
  case round =>
    obtain ⟨t, m, hm0, hmn, rfl, sw, hb, rw0⟩ := hrel
    rename World => wr
    have hm := Lib.hid hm0
    clear hm0
    have k0 : (0 : Int) ≤ (m : Int) := by omega
    have k1 : (m : Int) ≤ 140737488351296 := by omega
    have k2 : (n : Int) ≤ 140737488351296 := by omega
    have HB := Lib.hid hb
    have SW := Lib.hid sw
    have RW := Lib.hid rw0
    by_cases c : m + 64 ≤ n
    · have e0 : decide ((m : Int) + 64 ≤ (n : Int)) = true := by rw [decide_eq_true_iff]; omega
      have OK := Lib.hid (GO.out t)
      have BW := Lib.hid ((BL.out.belowB (by omega) hb).part m 64 c)
      have GW := Lib.hid (GL.out.belowB L3 hb)
      have NX : Hid (mdGo f s (t + 1) = mdAdd (mdGo f s t) (mdRun (fun g => wrd true (fun i => f (m + i)) (4 * g)) (mdGo f s t) 64)) := Lib.hid (by
        rw [hm.out]
        show mdAdd _ (mdRun (fun g => wrd true f (64 * t + 4 * g)) _ 64) = _
        congr 2)
      clear sw hb rw0
      generalize mdGo f s t = st at *
      have MW := Lib.hid (fun w2 cp (k : Below wr.heap.size wr w2) => md5Words_c b (off + m) cp (fun i => f (m + i)) w2 (BW.out.below k))
      have MB := Lib.hid (fun w2 (k : Below wr.heap.size wr w2) => md5Block_c st (fun i => wrd true (fun i => f (m + i)) (4 * i)) w2 (GW.out.below k) OK.out (fun i _ => wrd_lt true _ (fun j => BW.out.2.1 j) _))
      generalize mdAdd st (mdRun (fun g => wrd true (fun i => f (m + i)) (4 * g)) st 64) = r at *
      replace MB : Hid (∀ w2, Below wr.heap.size wr w2 → Calls Tryz.prog 94 #[.agg #[.int .u32 st.a, .int .u32 st.b, .int .u32 st.c, .int .u32 st.d], .agg (wc (fun i => wrd true (fun i => f (m + i)) (4 * i)) 16).toArray] w2 fun e w' => e = .returned (.agg #[.int .u32 r.a, .int .u32 r.b, .int .u32 r.c, .int .u32 r.d]) ∧ Below w2.heap.size w2 w') := MB
      have KP := Lib.hid (fun w2 (k : Below wr.heap.size wr w2) => (SW.out.below k))
      obtain ⟨s1, s2, s3, s4, s5, s6, s7, s8, s9⟩ := SW.out
      have W1 : IntKind.i64.wrap ((m : Int) + 64) = (m : Int) + 64 := wrap_in (by omega) (by omega)
      have i1 : (m : Int) + 64 ≤ (n : Int) := by omega
      have i2 : (n : Int) ≤ (cap : Int) := by omega
      have i3 : (cap : Int) ≤ 9223372036854775807 := by omega
      have i4 : (0 : Int) ≤ (m : Int) + 64 := by omega
      have i5 : (m : Int) + 64 ≤ (cap : Int) := by omega
      have i6 : (m : Int) ≤ (m : Int) + 64 := by omega
      have i7 : ((m : Int) + 64).toNat = m + 64 := by omega
      have i8 : (m : Int) < (cap : Int) := by omega
      have i9 : ¬ cap = m := by omega
      have hb0 : Below wr.heap.size wr wr.drew := (brefl wr).drew
      go_wp2_with fail
      go_region_law (first | (go_simp; go_at_call 95; (with_reducible refine (MW.out _ _ (by assumption)).mono ?_); rintro e w' ⟨rfl, hb⟩; replace hb := bstep (a := wr) (by assumption) hb; obtain ⟨_, g1, g2, g3, g4, g5, g6, g7, g8⟩ := KP.out _ hb) | (go_simp; go_at_call 94; (with_reducible refine (MB.out _ (by assumption)).mono ?_); rintro e w' ⟨rfl, hb⟩; replace hb := bstep (a := wr) (by assumption) hb; obtain ⟨_, h1, h2, h3, h4, h5, h6, h7, h8⟩ := KP.out _ hb))
      all_goals
        have HZ := Lib.hid hb
        have HSZ := Lib.hid ((SW.out.below hb).set4 r)
        have HRZ := Lib.hid (RW.out.below hb)
        have HBZ := Lib.hid (HB.out.trans (hb.mono (Nat.le_of_lt SW.out.1)))
        go_wp2_with fail
        go_roundw
        case rel => exact ⟨t + 1, m + 64, by rw [hm.out]; omega, by omega, by go_num, by rw [NX.out]; exact HSZ.out, (((HBZ.out.setCell (Nat.le_refl _) _).setCell (Nat.le_refl _) _).setCell (Nat.le_refl _) _).setCell (Nat.le_refl _) _, HRZ.out.belowX (by omega) r⟩
        case measure => simp [intOf]; omega
    · have e0 : decide ((m : Int) + 64 ≤ (n : Int)) = false := by rw [decide_eq_false_iff_not]; omega
      obtain rfl : t = n / 64 := by have := hm.out; omega
      have FI := Lib.hid (rw0.set4 (mdGo f s (n / 64)))
      have FB := Lib.hid (((((WS.out.trans (hb.mono (Nat.le_refl _))).setCell (p := ⟨w.heap.size + 1, 0, none⟩) (show w.heap.size ≤ w.heap.size + 1 by omega) (.int .u32 (mdGo f s (n / 64)).a)).setCell (p := ⟨w.heap.size + 1, 1, none⟩) (show w.heap.size ≤ w.heap.size + 1 by omega) (.int .u32 (mdGo f s (n / 64)).b)).setCell (p := ⟨w.heap.size + 1, 2, none⟩) (show w.heap.size ≤ w.heap.size + 1 by omega) (.int .u32 (mdGo f s (n / 64)).c)).setCell (p := ⟨w.heap.size + 1, 3, none⟩) (show w.heap.size ≤ w.heap.size + 1 by omega) (.int .u32 (mdGo f s (n / 64)).d))
      obtain ⟨s1, s2, s3, s4, s5, s6, s7, s8, s9⟩ := sw
      obtain ⟨q1, q2, q3, q4, q5, q6, q7, q8, q9⟩ := rw0
      clear hb
      go_wp2_with fail
      refine bodyPost_ret (v := .agg (mdGo f s (n / 64)).v) (results_cell_mid rfl _ _ (w.heap.size + 1) _ _ rfl FI.out.range Tryz.underlying113 rfl (by exact info_a4)) rfl ⟨rfl, FB.out⟩
end Go.Proofs.YtkjolaoajbdomaaGreatDoor.Hs
namespace Go.Proofs.YtkjolaoajbdomaaGreatDoor.Hs
open Go.RowKit
set_option linter.unusedVariables false
set_option linter.unusedSimpArgs false

structure S8 where
  a : Nat
  b : Nat
  c : Nat
  d : Nat
  e : Nat
  f : Nat
  g : Nat
  h : Nat
def bg0 (x : Nat) : Nat := ror x 2 ^^^ ror x 13 ^^^ ror x 22
def bg1 (x : Nat) : Nat := ror x 6 ^^^ ror x 11 ^^^ ror x 25
def chf (e f g : Nat) : Nat := (e &&& f) ^^^ ((4294967295 ^^^ e) &&& g)
def maj (a b c : Nat) : Nat := (a &&& b) ^^^ (a &&& c) ^^^ (b &&& c)
theorem bg0_lt {x : Nat} (hx : x < 4294967296) : bg0 x < 4294967296 := lt_xor (lt_xor (ror_lt hx (by omega) (by omega)) (ror_lt hx (by omega) (by omega))) (ror_lt hx (by omega) (by omega))
theorem bg1_lt {x : Nat} (hx : x < 4294967296) : bg1 x < 4294967296 := lt_xor (lt_xor (ror_lt hx (by omega) (by omega)) (ror_lt hx (by omega) (by omega))) (ror_lt hx (by omega) (by omega))
theorem chf_lt {e f g : Nat} (he : e < 4294967296) : chf e f g < 4294967296 := lt_xor (lt_and he) (lt_and (lt_xor (by omega) he))
theorem maj_lt {a b c : Nat} (ha : a < 4294967296) (hb : b < 4294967296) : maj a b c < 4294967296 := lt_xor (lt_xor (lt_and ha) (lt_and ha)) (lt_and hb)
theorem bg0_eq {x : Nat} (hx : x < 4294967296) : bits BinOp.xor IntKind.u32 (bits BinOp.xor IntKind.u32 (ror x 2 : Int) (ror x 13 : Int)) (ror x 22 : Int) = (bg0 x : Int) := by
  have h1 := ror_lt (n := 2) hx (by omega) (by omega)
  have h2 := ror_lt (n := 13) hx (by omega) (by omega)
  have h3 := ror_lt (n := 22) hx (by omega) (by omega)
  rw [xor_nat _ _ h1 h2, xor_nat _ _ (lt_xor h1 h2) h3]
  rfl
theorem bg1_eq {x : Nat} (hx : x < 4294967296) : bits BinOp.xor IntKind.u32 (bits BinOp.xor IntKind.u32 (ror x 6 : Int) (ror x 11 : Int)) (ror x 25 : Int) = (bg1 x : Int) := by
  have h1 := ror_lt (n := 6) hx (by omega) (by omega)
  have h2 := ror_lt (n := 11) hx (by omega) (by omega)
  have h3 := ror_lt (n := 25) hx (by omega) (by omega)
  rw [xor_nat _ _ h1 h2, xor_nat _ _ (lt_xor h1 h2) h3]
  rfl
theorem chf_eq {e f g : Nat} (he : e < 4294967296) (hf : f < 4294967296) (hg : g < 4294967296) : bits BinOp.xor IntKind.u32 (bits BinOp.and IntKind.u32 (e : Int) (f : Int)) (bits BinOp.and IntKind.u32 (bits BinOp.xor IntKind.u32 IntKind.u32.max (e : Int)) (g : Int)) = (chf e f g : Int) := by
  have M : 4294967295 < 4294967296 := by omega
  rw [max32, and_nat e f he hf, xor_nat _ e M he, and_nat _ g (lt_xor M he) hg, xor_nat _ _ (lt_and he) (lt_and (lt_xor M he))]
  rfl
theorem maj_eq {a b c : Nat} (ha : a < 4294967296) (hb : b < 4294967296) (hc : c < 4294967296) : bits BinOp.xor IntKind.u32 (bits BinOp.xor IntKind.u32 (bits BinOp.and IntKind.u32 (a : Int) (b : Int)) (bits BinOp.and IntKind.u32 (a : Int) (c : Int))) (bits BinOp.and IntKind.u32 (b : Int) (c : Int)) = (maj a b c : Int) := by
  rw [and_nat a b ha hb, and_nat a c ha hc, and_nat b c hb hc, xor_nat _ _ (lt_and ha) (lt_and ha), xor_nat _ _ (lt_xor (lt_and ha) (lt_and ha)) (lt_and hb)]
  rfl
def shaT (M : Nat → Nat) (i : Nat) (s : S8) : Nat := (s.h + bg1 s.e + chf s.e s.f s.g + shaK i + M i) % 4294967296
def shaU (s : S8) : Nat := (bg0 s.a + maj s.a s.b s.c) % 4294967296
/-- one round of SHA-256. -/
def shaOne (M : Nat → Nat) (i : Nat) (s : S8) : S8 := ⟨(shaT M i s + shaU s) % 4294967296, s.a, s.b, s.c, (s.d + shaT M i s) % 4294967296, s.e, s.f, s.g⟩
def shaRun (M : Nat → Nat) (s : S8) : Nat → S8
  | 0 => s
  | k + 1 => shaOne M k (shaRun M s k)
def shaAdd (s r : S8) : S8 := ⟨(s.a + r.a) % 4294967296, (s.b + r.b) % 4294967296, (s.c + r.c) % 4294967296, (s.d + r.d) % 4294967296, (s.e + r.e) % 4294967296, (s.f + r.f) % 4294967296, (s.g + r.g) % 4294967296, (s.h + r.h) % 4294967296⟩
/-- the state behind t blocks, from s on. -/
def shaGo (F : Nat → Nat) (s : S8) : Nat → S8
  | 0 => s
  | t + 1 => shaAdd (shaGo F s t) (shaRun (shaX (fun g => wrd false F (64 * t + 4 * g)) 48) (shaGo F s t) 64)
def S8.ok (s : S8) : Prop := s.a < 4294967296 ∧ s.b < 4294967296 ∧ s.c < 4294967296 ∧ s.d < 4294967296 ∧ s.e < 4294967296 ∧ s.f < 4294967296 ∧ s.g < 4294967296 ∧ s.h < 4294967296
theorem shaOne_ok {M : Nat → Nat} {i : Nat} {s : S8} (h : s.ok) : (shaOne M i s).ok := ⟨Nat.mod_lt _ (by omega), h.1, h.2.1, h.2.2.1, Nat.mod_lt _ (by omega), h.2.2.2.2.1, h.2.2.2.2.2.1, h.2.2.2.2.2.2.1⟩
theorem shaRun_ok {M : Nat → Nat} {s : S8} (h : s.ok) : ∀ k, (shaRun M s k).ok
  | 0 => h
  | k + 1 => shaOne_ok (shaRun_ok h k)
theorem shaAdd_ok (s r : S8) : (shaAdd s r).ok := ⟨Nat.mod_lt _ (by omega), Nat.mod_lt _ (by omega), Nat.mod_lt _ (by omega), Nat.mod_lt _ (by omega), Nat.mod_lt _ (by omega), Nat.mod_lt _ (by omega), Nat.mod_lt _ (by omega), Nat.mod_lt _ (by omega)⟩
theorem shaGo_ok {F : Nat → Nat} {s : S8} (h : s.ok) : ∀ t, (shaGo F s t).ok
  | 0 => h
  | t + 1 => shaAdd_ok _ _
def S8.v (s : S8) : Array Value := #[.int .u32 s.a, .int .u32 s.b, .int .u32 s.c, .int .u32 s.d, .int .u32 s.e, .int .u32 s.f, .int .u32 s.g, .int .u32 s.h]
/-- a state in memory. -/
def Ew (w : World) (b : Nat) (s : S8) : Prop :=
  b < w.heap.size ∧ w.cell? ⟨b, 0, none⟩ = some (.int .u32 s.a) ∧ w.cell? ⟨b, 1, none⟩ = some (.int .u32 s.b) ∧ w.cell? ⟨b, 2, none⟩ = some (.int .u32 s.c) ∧ w.cell? ⟨b, 3, none⟩ = some (.int .u32 s.d) ∧ w.cell? ⟨b, 4, none⟩ = some (.int .u32 s.e) ∧ w.cell? ⟨b, 5, none⟩ = some (.int .u32 s.f) ∧ w.cell? ⟨b, 6, none⟩ = some (.int .u32 s.g) ∧ w.cell? ⟨b, 7, none⟩ = some (.int .u32 s.h) ∧ w.frozen? ⟨b, 0, none⟩ = false ∧ w.frozen? ⟨b, 1, none⟩ = false ∧ w.frozen? ⟨b, 2, none⟩ = false ∧ w.frozen? ⟨b, 3, none⟩ = false ∧ w.frozen? ⟨b, 4, none⟩ = false ∧ w.frozen? ⟨b, 5, none⟩ = false ∧ w.frozen? ⟨b, 6, none⟩ = false ∧ w.frozen? ⟨b, 7, none⟩ = false
theorem Ew.belowB {B : Nat} {w w' : World} {b : Nat} {s : S8} (h : Ew w b s) (hb : b < B) (k : Below B w w') : Ew w' b s := by
  obtain ⟨h0, c0, c1, c2, c3, c4, c5, c6, c7, f0, f1, f2, f3, f4, f5, f6, f7⟩ := h
  exact ⟨Nat.lt_of_lt_of_le h0 k.size, (k.cell (p := ⟨b, 0, none⟩) hb).trans c0, (k.cell (p := ⟨b, 1, none⟩) hb).trans c1, (k.cell (p := ⟨b, 2, none⟩) hb).trans c2, (k.cell (p := ⟨b, 3, none⟩) hb).trans c3, (k.cell (p := ⟨b, 4, none⟩) hb).trans c4, (k.cell (p := ⟨b, 5, none⟩) hb).trans c5, (k.cell (p := ⟨b, 6, none⟩) hb).trans c6, (k.cell (p := ⟨b, 7, none⟩) hb).trans c7, (k.frozen (p := ⟨b, 0, none⟩) hb).trans f0, (k.frozen (p := ⟨b, 1, none⟩) hb).trans f1, (k.frozen (p := ⟨b, 2, none⟩) hb).trans f2, (k.frozen (p := ⟨b, 3, none⟩) hb).trans f3, (k.frozen (p := ⟨b, 4, none⟩) hb).trans f4, (k.frozen (p := ⟨b, 5, none⟩) hb).trans f5, (k.frozen (p := ⟨b, 6, none⟩) hb).trans f6, (k.frozen (p := ⟨b, 7, none⟩) hb).trans f7⟩
theorem Ew.below {w w' : World} {b : Nat} {s : S8} (h : Ew w b s) (k : Below w.heap.size w w') : Ew w' b s := h.belowB h.1 k
theorem Ew.new (w : World) (s : S8) (ty : TypeId) : Ew (w.alloc (.cells #[.int .u32 s.a, .int .u32 s.b, .int .u32 s.c, .int .u32 s.d, .int .u32 s.e, .int .u32 s.f, .int .u32 s.g, .int .u32 s.h] ty)) w.heap.size s :=
  ⟨by simp, by simp [go_sem], by simp [go_sem], by simp [go_sem], by simp [go_sem], by simp [go_sem], by simp [go_sem], by simp [go_sem], by simp [go_sem], by simp [go_sem], by simp [go_sem], by simp [go_sem], by simp [go_sem], by simp [go_sem], by simp [go_sem], by simp [go_sem], by simp [go_sem]⟩
theorem Ew.setr {w : World} {b : Nat} {s : S8} (h : Ew w b s) (r : S8) : Ew ((((((((w.setCell ⟨b, 0, none⟩ (.int .u32 r.a)).setCell ⟨b, 1, none⟩ (.int .u32 r.b)).setCell ⟨b, 2, none⟩ (.int .u32 r.c)).setCell ⟨b, 3, none⟩ (.int .u32 r.d)).setCell ⟨b, 4, none⟩ (.int .u32 r.e)).setCell ⟨b, 5, none⟩ (.int .u32 r.f)).setCell ⟨b, 6, none⟩ (.int .u32 r.g)).setCell ⟨b, 7, none⟩ (.int .u32 r.h)) b r := by
  obtain ⟨h0, c0, c1, c2, c3, c4, c5, c6, c7, f0, f1, f2, f3, f4, f5, f6, f7⟩ := h
  refine ⟨by simpa [World.setCell] using h0, ?_, ?_, ?_, ?_, ?_, ?_, ?_, ?_, by simpa [go_sem] using f0, by simpa [go_sem] using f1, by simpa [go_sem] using f2, by simpa [go_sem] using f3, by simpa [go_sem] using f4, by simpa [go_sem] using f5, by simpa [go_sem] using f6, by simpa [go_sem] using f7⟩ <;> simp [go_sem, c0, c1, c2, c3, c4, c5, c6, c7]
theorem Ew.other {w : World} {b : Nat} {s : S8} (h : Ew w b s) {b' : Nat} (hb : b ≠ b') (i : Nat) (v : Value) : Ew (w.setCell ⟨b', i, none⟩ v) b s := by
  obtain ⟨h0, c0, c1, c2, c3, c4, c5, c6, c7, f0, f1, f2, f3, f4, f5, f6, f7⟩ := h
  have e : ∀ j, (w.setCell ⟨b', i, none⟩ v).cell? ⟨b, j, none⟩ = w.cell? ⟨b, j, none⟩ := fun j => World.cell?_setCell_other _ _ _ _ (fun q => hb (by simpa using (congrArg Addr.block q).symm))
  have g : ∀ j, (w.setCell ⟨b', i, none⟩ v).frozen? ⟨b, j, none⟩ = w.frozen? ⟨b, j, none⟩ := fun j => by rw [World.frozen?_setCell]
  exact ⟨by simpa [World.setCell] using h0, (e 0).trans c0, (e 1).trans c1, (e 2).trans c2, (e 3).trans c3, (e 4).trans c4, (e 5).trans c5, (e 6).trans c6, (e 7).trans c7, (g 0).trans f0, (g 1).trans f1, (g 2).trans f2, (g 3).trans f3, (g 4).trans f4, (g 5).trans f5, (g 6).trans f6, (g 7).trans f7⟩
theorem Ew.otherr {w : World} {b b' : Nat} {s : S8} (h : Ew w b s) (hb : b ≠ b') (r : S8) : Ew ((((((((w.setCell ⟨b', 0, none⟩ (.int .u32 r.a)).setCell ⟨b', 1, none⟩ (.int .u32 r.b)).setCell ⟨b', 2, none⟩ (.int .u32 r.c)).setCell ⟨b', 3, none⟩ (.int .u32 r.d)).setCell ⟨b', 4, none⟩ (.int .u32 r.e)).setCell ⟨b', 5, none⟩ (.int .u32 r.f)).setCell ⟨b', 6, none⟩ (.int .u32 r.g)).setCell ⟨b', 7, none⟩ (.int .u32 r.h)) b s :=
  (((((((h.other hb 0 _).other hb 1 _).other hb 2 _).other hb 3 _).other hb 4 _).other hb 5 _).other hb 6 _).other hb 7 _
theorem below_setr {B : Nat} {w0 w : World} {b : Nat} (h : Below B w0 w) (hb : B ≤ b) (r : S8) : Below B w0 ((((((((w.setCell ⟨b, 0, none⟩ (.int .u32 r.a)).setCell ⟨b, 1, none⟩ (.int .u32 r.b)).setCell ⟨b, 2, none⟩ (.int .u32 r.c)).setCell ⟨b, 3, none⟩ (.int .u32 r.d)).setCell ⟨b, 4, none⟩ (.int .u32 r.e)).setCell ⟨b, 5, none⟩ (.int .u32 r.f)).setCell ⟨b, 6, none⟩ (.int .u32 r.g)).setCell ⟨b, 7, none⟩ (.int .u32 r.h)) :=
  (((((((h.setCell hb _).setCell hb _).setCell hb _).setCell hb _).setCell hb _).setCell hb _).setCell hb _).setCell hb _
theorem Ew.range {w : World} {b : Nat} {s : S8} (h : Ew w b s) : w.rangeAt b 0 [.int .u32 s.a, .int .u32 s.b, .int .u32 s.c, .int .u32 s.d, .int .u32 s.e, .int .u32 s.f, .int .u32 s.g, .int .u32 s.h] := by
  obtain ⟨h0, c0, c1, c2, c3, c4, c5, c6, c7, _⟩ := h
  intro j v hj
  rw [Nat.zero_add]
  match j with
  | 0 => simpa using c0.trans (by simpa using hj)
  | 1 => simpa using c1.trans (by simpa using hj)
  | 2 => simpa using c2.trans (by simpa using hj)
  | 3 => simpa using c3.trans (by simpa using hj)
  | 4 => simpa using c4.trans (by simpa using hj)
  | 5 => simpa using c5.trans (by simpa using hj)
  | 6 => simpa using c6.trans (by simpa using hj)
  | 7 => simpa using c7.trans (by simpa using hj)
  | _ + 8 => simp at hj
end Go.Proofs.YtkjolaoajbdomaaGreatDoor.Hs
namespace Go.Proofs.YtkjolaoajbdomaaGreatDoor.Hs
open Go.RowKit
set_option linter.unusedVariables false
set_option linter.unusedSimpArgs false

theorem shaX_lt {M : Nat → Nat} (h : ∀ i, i < 16 → M i < 4294967296) : ∀ t i, shaX M t i < 4294967296
  | 0, i => by
    show (if i < 16 then M i else 0) < _
    split
    · exact h i (by assumption)
    · omega
  | t + 1, i => by
    show up _ _ _ i < _
    unfold up
    split
    · exact Nat.mod_lt _ (by omega)
    · exact shaX_lt h t i

end Go.Proofs.YtkjolaoajbdomaaGreatDoor.Hs
