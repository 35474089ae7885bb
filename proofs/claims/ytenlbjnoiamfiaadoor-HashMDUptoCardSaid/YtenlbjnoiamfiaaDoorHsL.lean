/-
  SHA-256's schedule in numbers; the contract of hash.sha256Words.
  Conditions: a block of 64 bytes is handed in.
-/
import Derived.Test.YtenlbjnoiamfiaaDoorHsK
namespace Go.Proofs.YtenlbjnoiamfiaaDoor.Hs
open Go.RowKit
set_option linter.unusedVariables false
set_option linter.unusedSimpArgs false

def sg0 (x : Nat) : Nat := ror x 7 ^^^ ror x 18 ^^^ (x / 8)
def sg1 (x : Nat) : Nat := ror x 17 ^^^ ror x 19 ^^^ (x / 1024)
theorem ror_lt {x n : Nat} (hx : x < 4294967296) (h1 : 1 ≤ n) (h2 : n ≤ 31) : ror x n < 4294967296 := (rol_or x (32 - n) hx (by omega) (by omega)).2
theorem sg0_lt {x : Nat} (hx : x < 4294967296) : sg0 x < 4294967296 := lt_xor (lt_xor (ror_lt hx (by omega) (by omega)) (ror_lt hx (by omega) (by omega))) (by omega)
theorem sg1_lt {x : Nat} (hx : x < 4294967296) : sg1 x < 4294967296 := lt_xor (lt_xor (ror_lt hx (by omega) (by omega)) (ror_lt hx (by omega) (by omega))) (by omega)
theorem sg0_eq {x : Nat} (hx : x < 4294967296) : bits BinOp.xor IntKind.u32 (bits BinOp.xor IntKind.u32 (ror x 7 : Int) (ror x 18 : Int)) ((x : Int) / 8) = (sg0 x : Int) := by
  have h7 := ror_lt (n := 7) hx (by omega) (by omega)
  have h18 := ror_lt (n := 18) hx (by omega) (by omega)
  rw [show (x : Int) / 8 = ((x / 8 : Nat) : Int) from by omega, xor_nat _ _ h7 h18, xor_nat _ _ (lt_xor h7 h18) (by omega)]
  rfl
theorem sg1_eq {x : Nat} (hx : x < 4294967296) : bits BinOp.xor IntKind.u32 (bits BinOp.xor IntKind.u32 (ror x 17 : Int) (ror x 19 : Int)) ((x : Int) / 1024) = (sg1 x : Int) := by
  have h7 := ror_lt (n := 17) hx (by omega) (by omega)
  have h18 := ror_lt (n := 19) hx (by omega) (by omega)
  rw [show (x : Int) / 1024 = ((x / 1024 : Nat) : Int) from by omega, xor_nat _ _ h7 h18, xor_nat _ _ (lt_xor h7 h18) (by omega)]
  rfl
def shaN (g : Nat → Nat) (k : Nat) : Nat := (g (k - 16) + sg0 (g (k - 15)) + g (k - 7) + sg1 (g (k - 2))) % 4294967296
/-- the schedule, word by word: 16 and t words are there. -/
def shaX (M : Nat → Nat) : Nat → Nat → Nat
  | 0 => fun i => if i < 16 then M i else 0
  | t + 1 => up (shaX M t) (16 + t) (shaN (shaX M t) (16 + t))
theorem high4 (f : Nat → Nat) (hf : ∀ i, f i < 256) (at' : Nat) :
    bits BinOp.or IntKind.u32 (bits BinOp.or IntKind.u32 (bits BinOp.or IntKind.u32 ((f at' : Int) * 16777216) ((f (at' + 1) : Int) * 65536)) ((f (at' + 2) : Int) * 256)) (f (at' + 3) : Int) = (wrd false f at' : Int) := by
  have h1 := high_step f hf at' 1 (by omega)
  have h2 := high_step f hf at' 2 (by omega)
  have h3 := high_step f hf at' 3 (by omega)
  have b0 := hf at'
  have b1 := hf (at' + 1)
  have b2 := hf (at' + 2)
  have b3 := hf (at' + 3)
  have e1 : (wh f at' 1 : Int) = (f at' : Int) * 16777216 := by simp [wh]
  have m1 : (f (at' + 1) : Int) * 2 ^ (24 - 8 * 1) % 4294967296 = (f (at' + 1) : Int) * 65536 := by omega
  have m2 : (f (at' + 2) : Int) * 2 ^ (24 - 8 * 2) % 4294967296 = (f (at' + 2) : Int) * 256 := by omega
  have m3 : (f (at' + 3) : Int) * 2 ^ (24 - 8 * 3) % 4294967296 = (f (at' + 3) : Int) := by omega
  rw [m1, e1] at h1
  rw [m2] at h2
  rw [m3] at h3
  rw [h1, h2, h3]
  rfl
theorem info_a64 : (Tryd.prog.info? 54).map (·.size) = some 64 := by kernel_rfl

set_option maxRecDepth 100000 in
set_option maxHeartbeats 4000000 in
theorem sha256Words_c (b off cap : Nat) (f : Nat → Nat) (w : World) (B : Bs w b off 64 f) :
    Calls Tryd.prog 36 #[.slice (some ⟨b, off, none⟩) 64 cap] w fun e w' => e = .returned (.agg (wc (shaX (fun i => wrd false f (4 * i)) 48) 64).toArray) ∧ Below w.heap.size w w' := by
  have WS := Lib.hid (balloc (balloc (brefl w) (.cells #[.int .u32 0, .int .u32 0, .int .u32 0, .int .u32 0, .int .u32 0, .int .u32 0, .int .u32 0, .int .u32 0, .int .u32 0, .int .u32 0, .int .u32 0, .int .u32 0, .int .u32 0, .int .u32 0, .int .u32 0, .int .u32 0, .int .u32 0, .int .u32 0, .int .u32 0, .int .u32 0, .int .u32 0, .int .u32 0, .int .u32 0, .int .u32 0, .int .u32 0, .int .u32 0, .int .u32 0, .int .u32 0, .int .u32 0, .int .u32 0, .int .u32 0, .int .u32 0, .int .u32 0, .int .u32 0, .int .u32 0, .int .u32 0, .int .u32 0, .int .u32 0, .int .u32 0, .int .u32 0, .int .u32 0, .int .u32 0, .int .u32 0, .int .u32 0, .int .u32 0, .int .u32 0, .int .u32 0, .int .u32 0, .int .u32 0, .int .u32 0, .int .u32 0, .int .u32 0, .int .u32 0, .int .u32 0, .int .u32 0, .int .u32 0, .int .u32 0, .int .u32 0, .int .u32 0, .int .u32 0, .int .u32 0, .int .u32 0, .int .u32 0, .int .u32 0] 54)) (.cells #[.int .u32 0, .int .u32 0, .int .u32 0, .int .u32 0, .int .u32 0, .int .u32 0, .int .u32 0, .int .u32 0, .int .u32 0, .int .u32 0, .int .u32 0, .int .u32 0, .int .u32 0, .int .u32 0, .int .u32 0, .int .u32 0, .int .u32 0, .int .u32 0, .int .u32 0, .int .u32 0, .int .u32 0, .int .u32 0, .int .u32 0, .int .u32 0, .int .u32 0, .int .u32 0, .int .u32 0, .int .u32 0, .int .u32 0, .int .u32 0, .int .u32 0, .int .u32 0, .int .u32 0, .int .u32 0, .int .u32 0, .int .u32 0, .int .u32 0, .int .u32 0, .int .u32 0, .int .u32 0, .int .u32 0, .int .u32 0, .int .u32 0, .int .u32 0, .int .u32 0, .int .u32 0, .int .u32 0, .int .u32 0, .int .u32 0, .int .u32 0, .int .u32 0, .int .u32 0, .int .u32 0, .int .u32 0, .int .u32 0, .int .u32 0, .int .u32 0, .int .u32 0, .int .u32 0, .int .u32 0, .int .u32 0, .int .u32 0, .int .u32 0, .int .u32 0] 54))
  have HB := Lib.hid (B.below WS.out)
  have R0 : Hid (As ((w.alloc (.cells #[.int .u32 0, .int .u32 0, .int .u32 0, .int .u32 0, .int .u32 0, .int .u32 0, .int .u32 0, .int .u32 0, .int .u32 0, .int .u32 0, .int .u32 0, .int .u32 0, .int .u32 0, .int .u32 0, .int .u32 0, .int .u32 0, .int .u32 0, .int .u32 0, .int .u32 0, .int .u32 0, .int .u32 0, .int .u32 0, .int .u32 0, .int .u32 0, .int .u32 0, .int .u32 0, .int .u32 0, .int .u32 0, .int .u32 0, .int .u32 0, .int .u32 0, .int .u32 0, .int .u32 0, .int .u32 0, .int .u32 0, .int .u32 0, .int .u32 0, .int .u32 0, .int .u32 0, .int .u32 0, .int .u32 0, .int .u32 0, .int .u32 0, .int .u32 0, .int .u32 0, .int .u32 0, .int .u32 0, .int .u32 0, .int .u32 0, .int .u32 0, .int .u32 0, .int .u32 0, .int .u32 0, .int .u32 0, .int .u32 0, .int .u32 0, .int .u32 0, .int .u32 0, .int .u32 0, .int .u32 0, .int .u32 0, .int .u32 0, .int .u32 0, .int .u32 0] 54)).alloc (.cells #[.int .u32 0, .int .u32 0, .int .u32 0, .int .u32 0, .int .u32 0, .int .u32 0, .int .u32 0, .int .u32 0, .int .u32 0, .int .u32 0, .int .u32 0, .int .u32 0, .int .u32 0, .int .u32 0, .int .u32 0, .int .u32 0, .int .u32 0, .int .u32 0, .int .u32 0, .int .u32 0, .int .u32 0, .int .u32 0, .int .u32 0, .int .u32 0, .int .u32 0, .int .u32 0, .int .u32 0, .int .u32 0, .int .u32 0, .int .u32 0, .int .u32 0, .int .u32 0, .int .u32 0, .int .u32 0, .int .u32 0, .int .u32 0, .int .u32 0, .int .u32 0, .int .u32 0, .int .u32 0, .int .u32 0, .int .u32 0, .int .u32 0, .int .u32 0, .int .u32 0, .int .u32 0, .int .u32 0, .int .u32 0, .int .u32 0, .int .u32 0, .int .u32 0, .int .u32 0, .int .u32 0, .int .u32 0, .int .u32 0, .int .u32 0, .int .u32 0, .int .u32 0, .int .u32 0, .int .u32 0, .int .u32 0, .int .u32 0, .int .u32 0, .int .u32 0] 54)) w.heap.size 64 (fun _ => 0)) := Lib.hid ((As.new w 64 54).below (balloc (brefl _) _))
  have A0 : Hid (As ((w.alloc (.cells #[.int .u32 0, .int .u32 0, .int .u32 0, .int .u32 0, .int .u32 0, .int .u32 0, .int .u32 0, .int .u32 0, .int .u32 0, .int .u32 0, .int .u32 0, .int .u32 0, .int .u32 0, .int .u32 0, .int .u32 0, .int .u32 0, .int .u32 0, .int .u32 0, .int .u32 0, .int .u32 0, .int .u32 0, .int .u32 0, .int .u32 0, .int .u32 0, .int .u32 0, .int .u32 0, .int .u32 0, .int .u32 0, .int .u32 0, .int .u32 0, .int .u32 0, .int .u32 0, .int .u32 0, .int .u32 0, .int .u32 0, .int .u32 0, .int .u32 0, .int .u32 0, .int .u32 0, .int .u32 0, .int .u32 0, .int .u32 0, .int .u32 0, .int .u32 0, .int .u32 0, .int .u32 0, .int .u32 0, .int .u32 0, .int .u32 0, .int .u32 0, .int .u32 0, .int .u32 0, .int .u32 0, .int .u32 0, .int .u32 0, .int .u32 0, .int .u32 0, .int .u32 0, .int .u32 0, .int .u32 0, .int .u32 0, .int .u32 0, .int .u32 0, .int .u32 0] 54)).alloc (.cells #[.int .u32 0, .int .u32 0, .int .u32 0, .int .u32 0, .int .u32 0, .int .u32 0, .int .u32 0, .int .u32 0, .int .u32 0, .int .u32 0, .int .u32 0, .int .u32 0, .int .u32 0, .int .u32 0, .int .u32 0, .int .u32 0, .int .u32 0, .int .u32 0, .int .u32 0, .int .u32 0, .int .u32 0, .int .u32 0, .int .u32 0, .int .u32 0, .int .u32 0, .int .u32 0, .int .u32 0, .int .u32 0, .int .u32 0, .int .u32 0, .int .u32 0, .int .u32 0, .int .u32 0, .int .u32 0, .int .u32 0, .int .u32 0, .int .u32 0, .int .u32 0, .int .u32 0, .int .u32 0, .int .u32 0, .int .u32 0, .int .u32 0, .int .u32 0, .int .u32 0, .int .u32 0, .int .u32 0, .int .u32 0, .int .u32 0, .int .u32 0, .int .u32 0, .int .u32 0, .int .u32 0, .int .u32 0, .int .u32 0, .int .u32 0, .int .u32 0, .int .u32 0, .int .u32 0, .int .u32 0, .int .u32 0, .int .u32 0, .int .u32 0, .int .u32 0] 54)) (w.heap.size + 1) 64 (fun _ => 0)) := Lib.hid (As.new2 w 64 54 _)
  have L1 := B.1
  clear B
  go_enter Tryd.func36, Tryd.ntmps36
  go_wp2_with fail
  generalize (w.alloc (.cells #[.int .u32 0, .int .u32 0, .int .u32 0, .int .u32 0, .int .u32 0, .int .u32 0, .int .u32 0, .int .u32 0, .int .u32 0, .int .u32 0, .int .u32 0, .int .u32 0, .int .u32 0, .int .u32 0, .int .u32 0, .int .u32 0, .int .u32 0, .int .u32 0, .int .u32 0, .int .u32 0, .int .u32 0, .int .u32 0, .int .u32 0, .int .u32 0, .int .u32 0, .int .u32 0, .int .u32 0, .int .u32 0, .int .u32 0, .int .u32 0, .int .u32 0, .int .u32 0, .int .u32 0, .int .u32 0, .int .u32 0, .int .u32 0, .int .u32 0, .int .u32 0, .int .u32 0, .int .u32 0, .int .u32 0, .int .u32 0, .int .u32 0, .int .u32 0, .int .u32 0, .int .u32 0, .int .u32 0, .int .u32 0, .int .u32 0, .int .u32 0, .int .u32 0, .int .u32 0, .int .u32 0, .int .u32 0, .int .u32 0, .int .u32 0, .int .u32 0, .int .u32 0, .int .u32 0, .int .u32 0, .int .u32 0, .int .u32 0, .int .u32 0, .int .u32 0] 54)).alloc (.cells #[.int .u32 0, .int .u32 0, .int .u32 0, .int .u32 0, .int .u32 0, .int .u32 0, .int .u32 0, .int .u32 0, .int .u32 0, .int .u32 0, .int .u32 0, .int .u32 0, .int .u32 0, .int .u32 0, .int .u32 0, .int .u32 0, .int .u32 0, .int .u32 0, .int .u32 0, .int .u32 0, .int .u32 0, .int .u32 0, .int .u32 0, .int .u32 0, .int .u32 0, .int .u32 0, .int .u32 0, .int .u32 0, .int .u32 0, .int .u32 0, .int .u32 0, .int .u32 0, .int .u32 0, .int .u32 0, .int .u32 0, .int .u32 0, .int .u32 0, .int .u32 0, .int .u32 0, .int .u32 0, .int .u32 0, .int .u32 0, .int .u32 0, .int .u32 0, .int .u32 0, .int .u32 0, .int .u32 0, .int .u32 0, .int .u32 0, .int .u32 0, .int .u32 0, .int .u32 0, .int .u32 0, .int .u32 0, .int .u32 0, .int .u32 0, .int .u32 0, .int .u32 0, .int .u32 0, .int .u32 0, .int .u32 0, .int .u32 0, .int .u32 0, .int .u32 0] 54) = W0 at *
  go_loopw [11] (fun i wr => ∃ k : Nat, k ≤ 16 ∧ i = .int .i64 k ∧ As wr (w.heap.size + 1) 64 (fun i => if i < k then wrd false f (4 * i) else 0) ∧ Below (w.heap.size + 1) W0 wr) (fun i _ => 16 - (intOf i).toNat)
  case atStart => exact ⟨0, by omega, rfl, A0.out.eq (by simp), Below.refl _ _⟩
  case round =>
    clear A0
    obtain ⟨k, hk, rfl, ar, hb⟩ := hrel
    rename World => wr
    have AR := Lib.hid ar
    have BB := Lib.hid hb
    have BS := Lib.hid (HB.out.belowB (by omega) hb)
    clear ar hb
    by_cases c : k < 16
    · have e0 : decide ((k : Int) < 16) = true := by rw [decide_eq_true_iff]; omega
      have LO := Lib.hid (high4 f BS.out.2.1 (4 * k))
      have g0 := BS.out.at (i := 4 * k) (by omega)
      have g1 := BS.out.at (i := 4 * k + 1) (by omega)
      have g2 := BS.out.at (i := 4 * k + 2) (by omega)
      have g3 := BS.out.at (i := 4 * k + 3) (by omega)
      have f0 := BS.out.2.1 (4 * k)
      have f1 := BS.out.2.1 (4 * k + 1)
      have f2 := BS.out.2.1 (4 * k + 2)
      have f3 := BS.out.2.1 (4 * k + 3)
      obtain ⟨a1, a2⟩ := AR.out.2.2 k (by omega)
      have VL := wrd_lt false f BS.out.2.1 (4 * k)
      have ST := Lib.hid (AR.out.set k (wrd false f (4 * k)) (by omega) VL)
      generalize f (4 * k) = x0 at *
      generalize f (4 * k + 1) = x1 at *
      generalize f (4 * k + 2) = x2 at *
      generalize f (4 * k + 3) = x3 at *
      go_wp2_with fail
      go_region
      rw [LO.out]
      go_wp2_with fail
      go_roundw
      case rel => exact ⟨k + 1, by omega, by go_num, (ST.out.below (bdrew1 _ _)).eq (fun i hi => by unfold up; by_cases e : i = k <;> by_cases e' : i < k <;> simp [e, e'] <;> omega), (BB.out.setCell (Nat.le_refl _) _).trans (bdrew1 _ _)⟩
      case measure => simp [intOf]; omega
    · have e0 : decide ((k : Int) < 16) = false := by rw [decide_eq_false_iff_not]; omega
      obtain rfl : k = 16 := by omega
      have AW : Hid (As wr (w.heap.size + 1) 64 (shaX (fun i => wrd false f (4 * i)) 0)) := AR
      clear AR BS HB
      rw [show ((16 : Nat) : Int) = 16 from rfl]
      go_wp2_with fail
      clear e0
      go_loopw [6] (fun i w5 => ∃ t : Nat, t ≤ 48 ∧ i = .int .i64 ((16 + t : Nat) : Int) ∧ As w5 (w.heap.size + 1) 64 (shaX (fun i => wrd false f (4 * i)) t) ∧ Below (w.heap.size + 1) wr w5) (fun i _ => 64 - (intOf i).toNat)
      case atStart => exact ⟨0, by omega, rfl, AW.out, Below.refl _ _⟩
      case round =>
        clear AW
        obtain ⟨t, ht, rfl, ar, hb⟩ := hrel
        rename World => w5
        have AR := Lib.hid ar
        have B5 := Lib.hid hb
        clear ar hb
        obtain ⟨k, hk⟩ : ∃ k, 16 + t = k := ⟨_, rfl⟩
        rw [hk]
        by_cases c : t < 48
        · have k16 : 16 ≤ k := by omega
          have k64 : k < 64 := by omega
          have e0 : decide ((k : Int) < 64) = true := by rw [decide_eq_true_iff]; omega
          have NX : Hid (shaX (fun i => wrd false f (4 * i)) (t + 1) = up (shaX (fun i => wrd false f (4 * i)) t) k (shaN (shaX (fun i => wrd false f (4 * i)) t) k)) := Lib.hid (by rw [← hk]; rfl)
          have NV : Hid (shaN (shaX (fun i => wrd false f (4 * i)) t) k = (shaX (fun i => wrd false f (4 * i)) t (k - 16) + sg0 (shaX (fun i => wrd false f (4 * i)) t (k - 15)) + shaX (fun i => wrd false f (4 * i)) t (k - 7) + sg1 (shaX (fun i => wrd false f (4 * i)) t (k - 2))) % 4294967296) := rfl
          have HK := Lib.hid hk
          clear hk
          generalize shaX (fun i => wrd false f (4 * i)) t = g at *
          obtain ⟨c16, _⟩ := AR.out.2.2 (k - 16) (by omega)
          obtain ⟨c15, _⟩ := AR.out.2.2 (k - 15) (by omega)
          obtain ⟨c7, _⟩ := AR.out.2.2 (k - 7) (by omega)
          obtain ⟨c2, _⟩ := AR.out.2.2 (k - 2) (by omega)
          obtain ⟨ck, dk⟩ := AR.out.2.2 k (by omega)
          have l16 := AR.out.2.1 (k - 16) (by omega)
          have l15 := AR.out.2.1 (k - 15) (by omega)
          have l7 := AR.out.2.1 (k - 7) (by omega)
          have l2 := AR.out.2.1 (k - 2) (by omega)
          have ST := Lib.hid (AR.out.set k (shaN g k) k64 (by rw [NV.out]; exact Nat.mod_lt _ (by omega)))
          generalize g (k - 16) = x16 at *
          generalize g (k - 15) = x15 at *
          generalize g (k - 7) = x7 at *
          generalize g (k - 2) = x2 at *
          go_wp2_with fail
          go_region
          have X0 := sg0_eq l15
          have X1 := sg1_eq l2
          have y0 := sg0_lt l15
          have y1 := sg1_lt l2
          have RR := Lib.hid (fun x n w (h : x < 4294967296) (h1 : 1 ≤ n) (h2 : n ≤ 31) => rotateRight_c x n w h h1 h2)
          go_wp2_with fail
          refine (RR.out x15 7 _ l15 (by omega) (by omega)).mono ?_
          rintro e w' ⟨rfl, rfl⟩
          go_wp2_with fail
          refine (RR.out x15 18 _ l15 (by omega) (by omega)).mono ?_
          rintro e w' ⟨rfl, rfl⟩
          go_wp2_with fail
          refine (RR.out x2 17 _ l2 (by omega) (by omega)).mono ?_
          rintro e w' ⟨rfl, rfl⟩
          go_wp2_with fail
          refine (RR.out x2 19 _ l2 (by omega) (by omega)).mono ?_
          rintro e w' ⟨rfl, rfl⟩
          go_wp2_with fail
          go_region
          rw [show ((x16 : Int) + (sg0 x15 : Int) + (x7 : Int) + (sg1 x2 : Int)) % 4294967296 = ((shaN g k : Nat) : Int) from by rw [NV.out]; simp]
          go_wp2_with fail
          go_roundw
          case rel => exact ⟨t + 1, by omega, by rw [← Nat.add_assoc, HK.out]; go_num, by rw [NX.out]; exact ST.out.below ((bdrew1 _ _).trans (bdrew1 _ _)), ((B5.out.setCell (Nat.le_refl _) _).trans (bdrew1 _ _)).trans (bdrew1 _ _)⟩
          case measure => have := HK.out; simp [intOf]; omega
        · have e0 : decide ((k : Int) < 64) = false := by rw [decide_eq_false_iff_not]; omega
          obtain rfl : t = 48 := by omega
          have RW := Lib.hid ((R0.out.belowB (by omega) BB.out).belowB (by omega) B5.out)
          have VL : ∀ i, i < 64 → shaX (fun i => wrd false f (4 * i)) 48 i < 4294967296 := AR.out.2.1
          have FI := Lib.hid (As.mk_cells RW.out.1 RW.out.there VL)
          have FB := Lib.hid (belowCells (B := w.heap.size) w.heap.size (Nat.le_refl _) (wc (shaX (fun i => wrd false f (4 * i)) 48) 64) 0 w5 ((WS.out.trans (BB.out.mono (by omega))).trans (B5.out.mono (by omega))))
          have SE := run_store_wc (P := Tryd.prog) RW.out.there (shaX (fun i => wrd false f (4 * i)) 48)
          clear hk
          clear VL
          go_wp2_with (refine wpList_load_mid rfl 54 _ rfl _ 0 rfl (wc (shaX (fun i => wrd false f (4 * i)) 48) 64) _ AR.out.range Tryd.underlying54 rfl (by rw [wc_len]; exact info_a64) ?_)
          refine bodyPost_ret (v := .agg (wc (shaX (fun i => wrd false f (4 * i)) 48) 64).toArray) (results_cell_mid rfl _ _ w.heap.size _ _ rfl FI.out.range Tryd.underlying54 rfl (by rw [wc_len]; exact info_a64)) rfl ⟨rfl, FB.out⟩
end Go.Proofs.YtenlbjnoiamfiaaDoor.Hs
