/-
  The contracts of sundialref05.moved and mixed.
  Conditions: a row of sixteen bytes is handed in.
-/
import Derived.Test.YtfefkakdhaecpaaAeC
namespace Go.Proofs.Ytfefkakdhaecpaa.Ae
open Go.RowKit By
set_option linter.unusedVariables false
set_option linter.unusedSimpArgs false

theorem own_below {w w' : World} {base : Nat} {v : Value} {l : List Nat} (h : Own w base v l) (k : Below w.heap.size w w') : Own w' base v l :=
  ⟨h.1, h.2.elim Or.inl (fun ⟨g, cap, cur, hv, hg, hh, r⟩ => Or.inr ⟨g, cap, cur, hv, hg, (k.block g (Array.getElem?_eq_some_iff.1 hh).1).trans hh, r⟩)⟩
/-- each byte through S, the rows moved. -/
def mv (s : Nat → Nat) (i : Nat) : Nat := sbox (s (i % 4 + 4 * ((i / 4 + i % 4) % 4)))
theorem mv_lt (s : Nat → Nat) (i : Nat) : mv s i < 256 := sbox_lt _

set_option maxRecDepth 100000 in
set_option maxHeartbeats 4000000 in
theorem rmoved_c (b o n cap : Nat) (f : Nat → Nat) (w : World) (B : Bs w b o 16 f) (h : 16 ≤ n) (m : n ≤ 9223372036854775807) :
    Calls Try.prog 30 #[.slice (some ⟨b, o, none⟩) n cap] w fun e w' => (∃ v, e = .returned v ∧ Own w' w.heap.size v (bl (mv f) 16)) ∧ Below w.heap.size w w' := by
  have HB := Lib.hid B
  have SB := Lib.hid (fun x w (hx : x < 256) => rsub_c x w hx)
  clear B
  have i1 : (16 : Int) ≤ (n : Int) := by omega
  have i3 : (n : Int) ≤ 9223372036854775807 := by omega
  go_enter Try.func30, Try.ntmps30
  go_wp2_with fail
  go_loopw [3, 4] (fun v i wr => ∃ k : Nat, k ≤ 16 ∧ i = .int .i64 k ∧ Own wr w.heap.size v (bl (mv f) k) ∧ Below w.heap.size w wr) (fun _ i _ => 16 - (intOf i).toNat)
  case atStart => exact ⟨0, by omega, rfl, Own.nil _ _, Below.refl _ _⟩
  case round =>
    obtain ⟨k, hk, rfl, own, hb⟩ := hrel
    rename World => wr
    by_cases c : k < 16
    · have e0 : decide ((k : Int) < 16) = true := by rw [decide_eq_true_iff]; omega
      have il : k % 4 + 4 * ((k / 4 + k % 4) % 4) < 16 := by omega
      have g1 := (HB.out.below hb).2.2 _ il
      have f1 := HB.out.2.1 (k % 4 + 4 * ((k / 4 + k % 4) % 4))
      have MV : Hid (mv f k = sbox (f (k % 4 + 4 * ((k / 4 + k % 4) % 4)))) := rfl
      have OW := Lib.hid own
      have B0 := Lib.hid hb
      clear own hb
      have d1 : (k : Int).tmod 4 = ((k % 4 : Nat) : Int) := by rw [Int.tmod_eq_emod_of_nonneg (by omega)]; omega
      have d2 : (k : Int).tdiv 4 = ((k / 4 : Nat) : Int) := by rw [Int.tdiv_eq_ediv_of_nonneg (by omega)]; omega
      have d3 : (((k / 4 : Nat) : Int) + ((k % 4 : Nat) : Int)).tmod 4 = (((k / 4 + k % 4) % 4 : Nat) : Int) := by rw [Int.tmod_eq_emod_of_nonneg (by omega)]; omega
      have r1 : k % 4 ≤ 3 := by omega
      have r2 : k / 4 ≤ 3 := by omega
      have r3 : (k / 4 + k % 4) % 4 ≤ 3 := by omega
      have c0 : (0 : Int) ≤ (k : Int) := by omega
      have c1 : (k : Int) < 16 := by omega
      generalize f (k % 4 + 4 * ((k / 4 + k % 4) % 4)) = x at *
      generalize (k / 4 + k % 4) % 4 = q at *
      generalize k / 4 = cc at *
      generalize k % 4 = rr at *
      go_wp2_with fail
      refine (SB.out x _ f1).mono ?_
      rintro e w1 ⟨rfl, hb⟩
      have B1 := Lib.hid (B0.out.trans (hb.mono B0.out.size))
      obtain ⟨v2, w2, hr, ho, hb2, hs2⟩ := app1 (own_below OW.out hb) (sbox x) B1.out.size (by rw [bl_len]; omega) 22
      have HR := Lib.hid hr
      have HO : Hid (Own w2 w.heap.size v2 (bl (mv f) (k + 1))) := Lib.hid (by rw [bl_succ, MV.out]; exact ho)
      have B2 := Lib.hid (B1.out.trans hb2)
      clear hr ho hb2 hs2 hb
      go_wp2_with (at_builtin; refine wpList_append_eq rfl _ _ 22 rfl _ _ v2 w2 rfl rfl HR.out ?_)
      go_roundw
      case rel => exact ⟨k + 1, by omega, by go_num, HO.out, B2.out⟩
      case measure => simp [intOf]; omega
    · have e0 : decide ((k : Int) < 16) = false := by rw [decide_eq_false_iff_not]; omega
      obtain rfl : k = 16 := by omega
      have HO := Lib.hid own
      have HB2 := Lib.hid hb
      clear own hb
      go_wp2_with fail
      go_ret
      exact ⟨⟨_, rfl, HO.out⟩, HB2.out⟩

def row (j : Nat) : Nat := [2, 3, 1, 1].getD j 0
theorem row_lt : ∀ j, j < 4 → row j < 256 := by decide
/-- the columns: byte i, with k of the four products taken in. -/
def mxs (s : Nat → Nat) (i : Nat) : Nat → Nat
  | 0 => 0
  | k + 1 => mxs s i k ^^^ gm (s (4 * (i / 4) + k)) (row ((k + 4 - i % 4) % 4))
def mx (s : Nat → Nat) (i : Nat) : Nat := mxs s i 4
theorem mxs_lt {s : Nat → Nat} (hs : ∀ i, s i < 256) (i : Nat) : ∀ k, mxs s i k < 256
  | 0 => by simp [mxs]
  | k + 1 => lt_xor8 (mxs_lt hs i k) (gm_lt (hs _))
theorem mx_lt {s : Nat → Nat} (hs : ∀ i, s i < 256) (i : Nat) : mx s i < 256 := mxs_lt hs i 4
theorem row_cells (w : World) (j : Nat) (hj : j < 4) : (w.alloc (.cells #[.int .u8 2, .int .u8 3, .int .u8 1, .int .u8 1] 5)).cell? ⟨w.heap.size, j, none⟩ = some (.int .u8 (row j)) := by
  rw [World.cell?_alloc_mark w _ _ (0, 0) j]
  match j, hj with
  | 0, _ => rfl
  | 1, _ => rfl
  | 2, _ => rfl
  | 3, _ => rfl

set_option maxRecDepth 100000 in
set_option maxHeartbeats 4000000 in
theorem rmixed_c (b o n cap : Nat) (f : Nat → Nat) (w : World) (B : Bs w b o 16 f) (h : 16 ≤ n) (m : n ≤ 9223372036854775807) :
    Calls Try.prog 31 #[.slice (some ⟨b, o, none⟩) n cap] w fun e w' => (∃ v, e = .returned v ∧ Own w' w.heap.size v (bl (mx f) 16)) ∧ Below w.heap.size w w' := by
  have TM := Lib.hid (fun x y w (hx : x < 256) (hy : y < 256) => rtimes_c x y w hx hy)
  have W1 := Lib.hid (balloc (brefl w) (.cells #[.int .u8 2, .int .u8 3, .int .u8 1, .int .u8 1] 5))
  have HB := Lib.hid (B.below W1.out)
  have RC := Lib.hid (row_cells w)
  have SZ : w.heap.size < (w.alloc (.cells #[.int .u8 2, .int .u8 3, .int .u8 1, .int .u8 1] 5)).heap.size := by simp
  clear B
  have i1 : (16 : Int) ≤ (n : Int) := by omega
  have i3 : (n : Int) ≤ 9223372036854775807 := by omega
  go_enter Try.func31, Try.ntmps31
  go_wp2_with fail
  generalize w.alloc (.cells #[.int .u8 2, .int .u8 3, .int .u8 1, .int .u8 1] 5) = W0 at *
  go_loopw [4, 5] (fun v i wr => ∃ c : Nat, c ≤ 4 ∧ i = .int .i64 c ∧ Own wr W0.heap.size v (bl (mx f) (4 * c)) ∧ Below W0.heap.size W0 wr) (fun _ i _ => 4 - (intOf i).toNat)
  case atStart => exact ⟨0, by omega, rfl, Own.nil _ _, Below.refl _ _⟩
  case round =>
    obtain ⟨c, hc, rfl, own, hb⟩ := hrel
    rename World => wr
    have OW := Lib.hid own
    have B0 := Lib.hid hb
    clear own hb
    by_cases cc : c < 4
    · have e0 : decide ((c : Int) < 4) = true := by rw [decide_eq_true_iff]; omega
      go_wp2_with fail
      clear e0
      go_loopw [4, 6] (fun v i w2 => ∃ r : Nat, r ≤ 4 ∧ i = .int .i64 r ∧ Own w2 W0.heap.size v (bl (mx f) (4 * c + r)) ∧ Below W0.heap.size W0 w2) (fun _ i _ => 4 - (intOf i).toNat)
      case atStart => exact ⟨0, by omega, rfl, OW.out, B0.out⟩
      case round =>
        clear OW B0
        obtain ⟨r, hr, rfl, own, hb⟩ := hrel
        rename World => w2
        have OW := Lib.hid own
        have B0 := Lib.hid hb
        clear own hb
        by_cases cr : r < 4
        · have e0 : decide ((r : Int) < 4) = true := by rw [decide_eq_true_iff]; omega
          go_wp2_with fail
          clear e0
          go_loopw [7, 8] (fun x i w3 => ∃ k q : Nat, k ≤ 4 ∧ i = .int .i64 k ∧ x = .int .u8 (mxs f (4 * c + r) k) ∧ w3 = w2.drewN q) (fun _ i _ => 4 - (intOf i).toNat)
          case atStart => exact ⟨0, 0, by omega, rfl, rfl, rfl⟩
          case round =>
            obtain ⟨k, q, hk, rfl, rfl, hw3⟩ := hrel
            rename World => w3
            have D3 : Below w2.heap.size w2 w3 := by rw [hw3]; exact bdrew (brefl w2) q
            have HW3 := Lib.hid hw3
            clear hw3
            by_cases ck : k < 4
            · have e0 : decide ((k : Int) < 4) = true := by rw [decide_eq_true_iff]; omega
              have B3 := Lib.hid (B0.out.trans (D3.mono B0.out.size))
              have g1 := (HB.out.below B3.out).2.2 (4 * c + k) (by omega)
              have f1 := HB.out.2.1 (4 * c + k)
              have ql : (k + 4 - r) % 4 < 4 := by omega
              have g2 : w3.cell? ⟨w.heap.size, (k + 4 - r) % 4, none⟩ = some (.int .u8 (row ((k + 4 - r) % 4))) := (B3.out.cell (p := ⟨w.heap.size, (k + 4 - r) % 4, none⟩) SZ).trans (RC.out _ ql)
              have rl := row_lt _ ql
              have NX : Hid (mxs f (4 * c + r) (k + 1) = mxs f (4 * c + r) k ^^^ gm (f (4 * c + k)) (row ((k + 4 - r) % 4))) := Lib.hid (by
                show mxs f (4 * c + r) k ^^^ gm (f (4 * ((4 * c + r) / 4) + k)) (row ((k + 4 - (4 * c + r) % 4) % 4)) = _
                rw [show (4 * c + r) / 4 = c from by omega, show (4 * c + r) % 4 = r from by omega])
              have ml := mxs_lt HB.out.2.1 (4 * c + r) k
              have d1 : ((k : Int) - (r : Int) + 4).tmod 4 = (((k + 4 - r) % 4 : Nat) : Int) := by rw [Int.tmod_eq_emod_of_nonneg (by omega)]; omega
              have TC := Lib.hid (fun w => TM.out (f (4 * c + k)) (row ((k + 4 - r) % 4)) w f1 rl)
              have XO := xor8 (mxs f (4 * c + r) k) (gm (f (4 * c + k)) (row ((k + 4 - r) % 4))) ml (gm_lt f1)
              rw [← NX.out] at XO
              obtain ⟨z, hz⟩ : ∃ z, mxs f (4 * c + r) (k + 1) = z := ⟨_, rfl⟩
              rw [hz] at XO
              have HZ := Lib.hid hz
              clear hz NX
              generalize gm (f (4 * c + k)) (row ((k + 4 - r) % 4)) = p at *
              generalize mxs f (4 * c + r) k = x at *
              generalize f (4 * c + k) = y at *
              generalize row ((k + 4 - r) % 4) = rw' at *
              generalize (k + 4 - r) % 4 = s at *
              have W1 : IntKind.i64.wrap (4 * (c : Int) + (k : Int)) = 4 * (c : Int) + (k : Int) := wrap_in (by omega) (by omega)
              have W2 : IntKind.i64.wrap (4 * (c : Int)) = 4 * (c : Int) := wrap_in (by omega) (by omega)
              have W3 : IntKind.i64.wrap ((k : Int) - (r : Int)) = (k : Int) - (r : Int) := wrap_in (by omega) (by omega)
              have W4 : IntKind.i64.wrap ((k : Int) - (r : Int) + 4) = (k : Int) - (r : Int) + 4 := wrap_in (by omega) (by omega)
              have c0 : (0 : Int) ≤ (c : Int) := by omega
              have c1 : (c : Int) ≤ 3 := by omega
              have r0 : (0 : Int) ≤ (r : Int) := by omega
              have r1 : (r : Int) ≤ 3 := by omega
              have k0 : (0 : Int) ≤ (k : Int) := by omega
              have k1 : (k : Int) ≤ 3 := by omega
              have s1 : (s : Int) < 4 := by omega
              have in1 : 4 * (c : Int) + (k : Int) < (n : Int) := by omega
              go_wp2_with fail
              go_quiet ((go_at_call 33; with_reducible exact Calls.quiet_of_same (TC.out _)))
              go_wp2_with fail
              go_roundw
              case rel => exact ⟨k + 1, q + nq, by omega, by go_num, by rw [HZ.out], by rw [HW3.out]; simp⟩
              case measure => simp [intOf]; omega
            · have e0 : decide ((k : Int) < 4) = false := by rw [decide_eq_false_iff_not]; omega
              obtain rfl : k = 4 := by omega
              have MX : mxs f (4 * c + r) 4 = mx f (4 * c + r) := rfl
              rw [MX]
              obtain ⟨v4, w4, hr4, ho, hb4, hs4⟩ := app1 (own_below OW.out D3) (mx f (4 * c + r)) (Nat.le_trans B0.out.size D3.size) (by rw [bl_len]; omega) 22
              have HR := Lib.hid hr4
              have HO : Hid (Own w4 W0.heap.size v4 (bl (mx f) (4 * c + (r + 1)))) := Lib.hid (by rw [← Nat.add_assoc, bl_succ]; exact ho)
              have B4 := Lib.hid ((B0.out.trans (D3.mono B0.out.size)).trans hb4)
              clear hr4 ho hb4 hs4 D3
              go_wp2_with (at_builtin; refine wpList_append_eq rfl _ _ 22 rfl _ _ v4 w4 rfl rfl HR.out ?_)
              go_roundw
              case rel => exact ⟨r + 1, by omega, by go_num, HO.out, B4.out⟩
              case measure => simp [intOf]; omega
        · have e0 : decide ((r : Int) < 4) = false := by rw [decide_eq_false_iff_not]; omega
          obtain rfl : r = 4 := by omega
          go_wp2_with fail
          go_roundw
          case rel => exact ⟨c + 1, by omega, by go_num, by rw [Nat.mul_add]; exact OW.out, B0.out⟩
          case measure => simp [intOf]; omega
    · have e0 : decide ((c : Int) < 4) = false := by rw [decide_eq_false_iff_not]; omega
      obtain rfl : c = 4 := by omega
      have OZ := Lib.hid (OW.out.le W1.out.size)
      have BZ := Lib.hid (W1.out.trans (B0.out.mono W1.out.size))
      go_wp2_with fail
      go_ret
      exact ⟨⟨_, rfl, OZ.out⟩, BZ.out⟩
end Go.Proofs.Ytfefkakdhaecpaa.Ae
