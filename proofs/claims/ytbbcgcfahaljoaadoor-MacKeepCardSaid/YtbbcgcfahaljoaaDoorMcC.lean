/-
  The contracts of slices.IndexFunc at keys and of mac.place.
  Conditions: none.
-/
import Derived.Test.YtbbcgcfahaljoaaDoorMcA
import Derived.Deep.LoopGhost
import Derived.Lib.SliceRun
namespace Go.Proofs.YtbbcgcfahaljoaaDoor.Mc
open Go.ChangeShapes Go.WideShapes Go.ChangeAt Go.RowKit Go.Joins Hs
set_option linter.unusedVariables false
set_option linter.unusedSimpArgs false

set_option maxRecDepth 100000 in
set_option maxHeartbeats 2000000 in
/-- the closure of place. -/
theorem pred_c (k : KD) (x : Int) (B : Nat) (w : World) (hB : B < w.heap.size) (hc : w.cell? ⟨B, 0, none⟩ = some (.int .u32 x)) :
    Calls Tryd.prog 32 #[k.val, .pointer (some ⟨B, 0, none⟩)] w fun e w' => e = .returned (.bool (k.id == x)) ∧ Below w.heap.size w w' := by
  obtain ⟨id, kind, v, l, f⟩ := k
  have hne : B ≠ w.heap.size := by omega
  have BB := Lib.hid (balloc (brefl w) (.cells #[.int .u32 id, .int .i64 kind, v] 28))
  show Calls Tryd.prog 32 #[.agg #[.int .u32 id, .int .i64 kind, v], .pointer (some ⟨B, 0, none⟩)] w _
  go_enter Tryd.func32, Tryd.ntmps32
  go_wp2_with fail
  go_ret
  exact ⟨rfl, BB.out⟩

set_option maxRecDepth 100000 in
set_option maxHeartbeats 4000000 in
theorem index_c (a : Option Addr) (n cap : Nat) (K : Nat → KD) (x : Int) (B : Nat) (w : World) (hn : n ≤ cap) (hcap : cap ≤ 9223372036854775807)
    (hR : 0 < n → ∃ b off, a = some ⟨b, off, none⟩ ∧ b < w.heap.size ∧ ∀ j, j < n → KAt w b (off + j * 3) (K j)) (hB : B < w.heap.size) (hc : w.cell? ⟨B, 0, none⟩ = some (.int .u32 x)) :
    Calls Tryd.prog 31 #[.slice a n cap, .func (.func 32) #[] #[.pointer (some ⟨B, 0, none⟩)]] w fun e w' =>
      e = .returned (.int .i64 (if fi K x n < n then (fi K x n : Int) else -1)) ∧ Below w.heap.size w w' := by
  have HR := Lib.hid hR
  have HC := Lib.hid hc
  clear hR hc
  obtain ⟨r, HQ⟩ : ∃ r, Hid (r = (if fi K x n < n then (fi K x n : Int) else -1)) := ⟨_, Lib.hid rfl⟩
  rw [← HQ.out]
  have h1 : (n : Int) ≤ (cap : Int) := by omega
  have h2 : (cap : Int) ≤ 9223372036854775807 := by omega
  go_enter Tryd.func31, Tryd.ntmps31
  go_wp2_with fail
  go_loopw [5, 8] (fun _ i wr => ∃ k : Nat, k ≤ n ∧ i = .int .i64 k ∧ (∀ j, j < k → (K j).id ≠ x) ∧ Below w.heap.size w wr) (fun _ i _ => n - (intOf i).toNat)
  case atStart => exact ⟨0, Nat.zero_le _, rfl, fun j hj => absurd hj (Nat.not_lt_zero _), brefl w⟩
  case round =>
    obtain ⟨k, hk, rfl, hno, hb⟩ := hrel
    rename World => wr
    have NO := Lib.hid hno
    have BB := Lib.hid hb
    clear hno hb
    by_cases c : k < n
    · have e0 : decide ((k : Int) < (n : Int)) = true := by rw [decide_eq_true_iff]; omega
      obtain ⟨b, off, rfl, hbl, hK⟩ := HR.out (by omega)
      obtain ⟨g0, g1, g2⟩ := (hK k c).below hbl BB.out
      have k1 : (k : Int) < (n : Int) := by omega
      have BL : b < wr.heap.size := Nat.lt_of_lt_of_le hbl BB.out.size
      have CC := pred_c (K k) x B wr (Nat.lt_of_lt_of_le hB BB.out.size) ((BB.out.cell (p := ⟨B, 0, none⟩) hB).trans HC.out)
      have CH := Lib.hid CC
      clear hK CC
      generalize hy : K k = y at *
      have HY := Lib.hid hy
      clear hy
      obtain ⟨id, kind, v, l, f⟩ := y
      simp only at g0 g1 g2
      go_wp2_with fail
      obtain ⟨w2, hw2⟩ : ∃ w2 : World, w2 = wr := ⟨_, rfl⟩
      by_cases hx : id = x
      · have ex : (id == x) = true := by simpa using hx
        have FI : Hid (fi K x n = k) := Lib.hid (fi_hit (by rw [HY.out]; exact hx) NO.out n c)
        refine CH.out.mono ?_
        rintro e w3 ⟨rfl, hb⟩
        have B3 := Lib.hid (BB.out.trans (hb.mono BB.out.size))
        clear hb
        simp only
        rw [ex]
        go_wp2_with fail
        go_ret
        exact ⟨by rw [HQ.out, FI.out, if_pos c]; rfl, B3.out⟩
      · have ex : (id == x) = false := by simpa using hx
        refine CH.out.mono ?_
        rintro e w3 ⟨rfl, hb⟩
        have B3 := Lib.hid (BB.out.trans (hb.mono BB.out.size))
        clear hb
        simp only
        rw [ex]
        go_wp2_with fail
        go_roundw
        case rel =>
          refine ⟨k + 1, by omega, by go_num, fun j hj => ?_, B3.out⟩
          by_cases e : j = k
          · subst e; rw [HY.out]; exact hx
          · exact NO.out j (by omega)
        case measure => simp [intOf]; omega
    · have e0 : decide ((k : Int) < (n : Int)) = false := by rw [decide_eq_false_iff_not]; omega
      obtain rfl : k = n := by omega
      have FI : Hid (fi K x k = k) := Lib.hid (fi_miss k NO.out)
      go_wp2_with fail
      go_ret
      exact ⟨by rw [HQ.out, FI.out, if_neg (Nat.lt_irrefl _)]; rfl, BB.out⟩

/-- where the key with that number stands, or -1. -/
def pl (K : Nat → KD) (x : Int) (n : Nat) : Int := if fi K x n < n then (fi K x n : Int) else -1
set_option maxRecDepth 100000 in
set_option maxHeartbeats 1000000 in
theorem place_c (a : Option Addr) (n cap : Nat) (K : Nat → KD) (x : Int) (w : World) (hn : n ≤ cap) (hcap : cap ≤ 9223372036854775807)
    (hR : 0 < n → ∃ b off, a = some ⟨b, off, none⟩ ∧ b < w.heap.size ∧ ∀ j, j < n → KAt w b (off + j * 3) (K j)) :
    Calls Tryd.prog 20 #[.slice a n cap, .int .u32 x] w fun e w' => e = .returned (.int .i64 (pl K x n)) ∧ Below w.heap.size w w' := by
  have B0 := Lib.hid (balloc (brefl w) (.cells #[.int .u32 x] 23))
  have IC := Lib.hid (index_c a n cap K x w.heap.size (w.alloc (.cells #[.int .u32 x] 23)) hn hcap
    (fun h => by obtain ⟨b, off, ea, hb, hk⟩ := hR h; exact ⟨b, off, ea, Nat.lt_of_lt_of_le hb B0.out.size, fun j hj => (hk j hj).below hb B0.out⟩) (by simp) (by simp))
  clear hR
  unfold pl
  generalize (if fi K x n < n then (fi K x n : Int) else -1) = r at IC ⊢
  go_enter Tryd.func20, Tryd.ntmps20
  go_wp2_with fail
  refine IC.out.mono ?_
  rintro e w2 ⟨rfl, hb⟩
  have B2 := Lib.hid (B0.out.trans (hb.mono B0.out.size))
  clear hb
  go_wp2_with fail
  go_ret
  exact ⟨rfl, B2.out⟩
end Go.Proofs.YtbbcgcfahaljoaaDoor.Mc
