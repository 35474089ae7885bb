/-
  Bytes that lie in memory, and the contract of sundialref04.word: four bytes from a place on, as a word.
  Conditions: the four bytes are there.
-/
import Derived.Test.YtenlbjnoiamfiaaDoorHsB
namespace Go.Proofs.YtenlbjnoiamfiaaDoor.Hs
open Go.RowKit
set_option linter.unusedVariables false
set_option linter.unusedSimpArgs false

/-- n bytes begin at b, off: byte i is f i. -/
def Bs (w : World) (b off n : Nat) (f : Nat → Nat) : Prop :=
  b < w.heap.size ∧ (∀ i, f i < 256) ∧ ∀ i, i < n → w.cell? ⟨b, off + i, none⟩ = some (.int .u8 (f i))
theorem Bs.below {w w' : World} {b off n : Nat} {f : Nat → Nat} (h : Bs w b off n f) (k : Below w.heap.size w w') : Bs w' b off n f :=
  ⟨Nat.lt_of_lt_of_le h.1 k.size, h.2.1, fun i hi => (k.cell (p := ⟨b, off + i, none⟩) h.1).trans (h.2.2 i hi)⟩

/-- the first k of four bytes, as far as they make the word. -/
def wl (f : Nat → Nat) (at' : Nat) : Nat → Nat
  | 0 => 0
  | k + 1 => wl f at' k + f (at' + k) * 2 ^ (8 * k)
def wh (f : Nat → Nat) (at' : Nat) : Nat → Nat
  | 0 => 0
  | k + 1 => wh f at' k + f (at' + k) * 2 ^ (24 - 8 * k)
def wrd (low : Bool) (f : Nat → Nat) (at' : Nat) : Nat := if low then wl f at' 4 else wh f at' 4
theorem wl_lt (f : Nat → Nat) (hf : ∀ i, f i < 256) (at' : Nat) : ∀ k, wl f at' k < 2 ^ (8 * k)
  | 0 => by simp [wl]
  | k + 1 => by
    have a := wl_lt f hf at' k
    have b := hf (at' + k)
    have c : f (at' + k) * 2 ^ (8 * k) ≤ 255 * 2 ^ (8 * k) := Nat.mul_le_mul_right _ (by omega)
    simp only [wl]
    rw [show 8 * (k + 1) = 8 * k + 8 from by omega, Nat.pow_add]
    omega
theorem wh_mul (f : Nat → Nat) (at' : Nat) : ∀ k, k ≤ 4 → ∃ q, wh f at' k = 2 ^ (32 - 8 * k) * q
  | 0, _ => ⟨0, by simp [wh]⟩
  | k + 1, h => by
    obtain ⟨q, e⟩ := wh_mul f at' k (by omega)
    refine ⟨2 ^ 8 * q + f (at' + k), ?_⟩
    simp only [wh]
    rw [e, Nat.mul_add, ← Nat.mul_assoc, ← Nat.pow_add, show 32 - 8 * (k + 1) + 8 = 32 - 8 * k from by omega, Nat.mul_comm (f _), show 32 - 8 * (k + 1) = 24 - 8 * k from by omega]
theorem wh_lt (f : Nat → Nat) (hf : ∀ i, f i < 256) (at' : Nat) : ∀ k, k ≤ 4 → wh f at' k + 2 ^ (32 - 8 * k) ≤ 4294967296
  | 0, _ => by simp [wh]
  | k + 1, h => by
    have a := wh_lt f hf at' k (by omega)
    have b := hf (at' + k)
    have c : f (at' + k) * 2 ^ (24 - 8 * k) ≤ 255 * 2 ^ (24 - 8 * k) := Nat.mul_le_mul_right _ (by omega)
    simp only [wh]
    rw [show 32 - 8 * k = (24 - 8 * k) + 8 from by omega, Nat.pow_add] at a
    rw [show 32 - 8 * (k + 1) = 24 - 8 * k from by omega]
    omega
theorem wrd_lt (low : Bool) (f : Nat → Nat) (hf : ∀ i, f i < 256) (at' : Nat) : wrd low f at' < 4294967296 := by
  have a := wl_lt f hf at' 4
  have b := wh_lt f hf at' 4 (by omega)
  unfold wrd
  split <;> simp at * <;> omega
theorem low_step (f : Nat → Nat) (hf : ∀ i, f i < 256) (at' k : Nat) (hk : k < 4) :
    bits BinOp.or IntKind.u32 (wl f at' k : Int) ((f (at' + k) : Int) * 2 ^ (8 * k) % 4294967296) = (wl f at' (k + 1) : Int) := by
  have a := wl_lt f hf at' k
  have b := wl_lt f hf at' (k + 1)
  have b' : wl f at' (k + 1) < 4294967296 := Nat.lt_of_lt_of_le b (by rw [show (4294967296 : Nat) = 2 ^ 32 from rfl]; exact Nat.pow_le_pow_right (by omega) (by omega))
  simp only [wl] at b' ⊢
  have e : (f (at' + k) : Int) * 2 ^ (8 * k) % 4294967296 = ((2 ^ (8 * k) * f (at' + k) : Nat) : Int) := by
    rw [Nat.mul_comm (2 ^ (8 * k))]
    have : f (at' + k) * 2 ^ (8 * k) < 4294967296 := by omega
    rw [show (f (at' + k) : Int) * 2 ^ (8 * k) = ((f (at' + k) * 2 ^ (8 * k) : Nat) : Int) from by simp]
    omega
  rw [e, or_add' (8 * k) (f (at' + k)) (wl f at' k) a (by rw [Nat.mul_comm]; omega), Nat.mul_comm, Nat.add_comm]
theorem high_step (f : Nat → Nat) (hf : ∀ i, f i < 256) (at' k : Nat) (hk : k < 4) :
    bits BinOp.or IntKind.u32 (wh f at' k : Int) ((f (at' + k) : Int) * 2 ^ (24 - 8 * k) % 4294967296) = (wh f at' (k + 1) : Int) := by
  obtain ⟨q, eq⟩ := wh_mul f at' k (by omega)
  have a := wh_lt f hf at' k (by omega)
  have b := hf (at' + k)
  have c : f (at' + k) * 2 ^ (24 - 8 * k) < 2 ^ (32 - 8 * k) := by
    rw [show 32 - 8 * k = 8 + (24 - 8 * k) from by omega, Nat.pow_add]
    exact Nat.mul_lt_mul_of_pos_right b (Nat.pow_pos (by omega))
  have e : (f (at' + k) : Int) * 2 ^ (24 - 8 * k) % 4294967296 = ((f (at' + k) * 2 ^ (24 - 8 * k) : Nat) : Int) := by
    rw [show (f (at' + k) : Int) * 2 ^ (24 - 8 * k) = ((f (at' + k) * 2 ^ (24 - 8 * k) : Nat) : Int) from by simp]
    omega
  simp only [wh]
  rw [e, eq] at *
  rw [or_add (32 - 8 * k) q _ c (by omega)]

set_option maxRecDepth 100000 in
set_option maxHeartbeats 1000000 in
theorem rword_low (b off n cap at' : Nat) (f : Nat → Nat) (w : World) (B : Bs w b off n f) (h : at' + 4 ≤ n) (hn : n ≤ 9223372036854775807) :
    Calls Tryd.prog 24 #[.slice (some ⟨b, off, none⟩) n cap, .int .i64 at', .bool true] w fun e w' => e = .returned (.int .u32 (wrd true f at')) ∧ w' = w := by
  have HB := Lib.hid B
  clear B
  have n1 : (at' : Int) + 4 ≤ (n : Int) := by omega
  have n2 : (n : Int) ≤ 9223372036854775807 := by omega
  go_enter Tryd.func24, Tryd.ntmps24
  go_wp2_with fail
  go_loop [7, 8] (fun s i => ∃ k : Nat, k ≤ 4 ∧ i = .int .i64 k ∧ s = .int .u32 (wl f at' k)) (fun _ i => 4 - (intOf i).toNat)
  case atStart => exact ⟨0, by omega, rfl, rfl⟩
  case round =>
    obtain ⟨k, hk, rfl, rfl⟩ := hrel
    by_cases c : k < 4
    · have e0 : decide ((k : Int) < 4) = true := by rw [decide_eq_true_iff]; omega
      have S := Lib.hid (low_step f HB.out.2.1 at' k c)
      have g := HB.out.2.2 (at' + k) (by omega)
      have g0 := HB.out.2.1 (at' + k)
      have k0 : (0 : Int) ≤ (k : Int) := by omega
      have k3 : (k : Int) ≤ 3 := by omega
      have x0 : (f (at' + k) : Int) < 256 := by omega
      have x1 : (0 : Int) ≤ (f (at' + k) : Int) := by omega
      go_wp2_with fail
      go_round
      case rel => exact ⟨k + 1, by omega, by go_num, by rw [← S.out]⟩
      case measure => simp [intOf]; omega
    · have e0 : decide ((k : Int) < 4) = false := by rw [decide_eq_false_iff_not]; omega
      obtain rfl : k = 4 := by omega
      go_wp2_with fail
      go_ret
      exact ⟨rfl, rfl⟩

set_option maxRecDepth 100000 in
set_option maxHeartbeats 1000000 in
theorem rword_high (b off n cap at' : Nat) (f : Nat → Nat) (w : World) (B : Bs w b off n f) (h : at' + 4 ≤ n) (hn : n ≤ 9223372036854775807) :
    Calls Tryd.prog 24 #[.slice (some ⟨b, off, none⟩) n cap, .int .i64 at', .bool false] w fun e w' => e = .returned (.int .u32 (wrd false f at')) ∧ w' = w := by
  have HB := Lib.hid B
  clear B
  have n1 : (at' : Int) + 4 ≤ (n : Int) := by omega
  have n2 : (n : Int) ≤ 9223372036854775807 := by omega
  go_enter Tryd.func24, Tryd.ntmps24
  go_wp2_with fail
  go_loop [7, 8] (fun s i => ∃ k : Nat, k ≤ 4 ∧ i = .int .i64 k ∧ s = .int .u32 (wh f at' k)) (fun _ i => 4 - (intOf i).toNat)
  case atStart => exact ⟨0, by omega, rfl, rfl⟩
  case round =>
    obtain ⟨k, hk, rfl, rfl⟩ := hrel
    by_cases c : k < 4
    · have e0 : decide ((k : Int) < 4) = true := by rw [decide_eq_true_iff]; omega
      have S := Lib.hid (high_step f HB.out.2.1 at' k c)
      have g := HB.out.2.2 (at' + k) (by omega)
      have g0 := HB.out.2.1 (at' + k)
      have k0 : (0 : Int) ≤ (k : Int) := by omega
      have k3 : (k : Int) ≤ 3 := by omega
      have x0 : (f (at' + k) : Int) < 256 := by omega
      have x1 : (0 : Int) ≤ (f (at' + k) : Int) := by omega
      go_wp2_with fail
      go_round
      case rel => exact ⟨k + 1, by omega, by go_num, by rw [← S.out]⟩
      case measure => simp [intOf]; omega
    · have e0 : decide ((k : Int) < 4) = false := by rw [decide_eq_false_iff_not]; omega
      obtain rfl : k = 4 := by omega
      go_wp2_with fail
      go_ret
      exact ⟨rfl, rfl⟩
end Go.Proofs.YtenlbjnoiamfiaaDoor.Hs
