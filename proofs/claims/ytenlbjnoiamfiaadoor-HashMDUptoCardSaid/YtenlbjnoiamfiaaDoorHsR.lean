/-
  The contract of hash.unfinished; the words of the count of bits.
  Conditions: no more than 2^47 - 4096 bytes.
-/
import Derived.Test.YtenlbjnoiamfiaaDoorHsQ
import Derived.Laws.MakeOwn
namespace Go.Proofs.YtenlbjnoiamfiaaDoor.Hs
open Go.RowKit
set_option linter.unusedVariables false
set_option linter.unusedSimpArgs false

theorem mk_own (w : World) (c : Nat) (hc : c ≤ 281474976710656) : ∃ w1, (Instr.makeSlice 22 (.int .i64 0) (.int .i64 (c : Int))).run Tryd.prog w = .ok (.slice (some ⟨w.heap.size, 0, none⟩) 0 c) w1 ∧ Own w1 w.heap.size (.slice (some ⟨w.heap.size, 0, none⟩) 0 c) [] ∧ Below w.heap.size w w1 := by
  obtain ⟨i, hi, hz, hs, hby⟩ := info_parts info_u8
  obtain ⟨w1, h1, h2, h3⟩ := run_make_own (P := Tryd.prog) w w.heap.size 22 5 i (.int .u8 0) 1 Tryd.underlying22 hi hz hs .i64 .i64 c (by rw [hby]; omega) (by unfold maxLen; omega) (Nat.le_refl _)
  exact ⟨w1, h1, h2, (Below.refl _ _).grown h3 (Nat.le_refl _) (fun k hk => by cases hk)⟩

set_option maxRecDepth 100000 in
set_option maxHeartbeats 2000000 in
theorem unfin_c (b off k r cap : Nat) (f : Nat → Nat) (w : World) (hk : k % 64 = 0) (hr : r < 64) (hn : k + r ≤ 140737488351232) (hc : k + r ≤ cap) (hcap : cap ≤ 9223372036854775807) (B : Bs w b off (k + r) f) :
    Calls Tryd.prog 20 #[.slice (some ⟨b, off, none⟩) (k + r) cap] w fun e w' => (∃ v, e = .returned v ∧ Own w' w.heap.size v (bl (fun i => f (k + i)) r ++ [128] ++ List.replicate (zz r) 0)) ∧ Below w.heap.size w w' := by
  obtain ⟨w1, r1, o1, b1⟩ := mk_own w 128 (by omega)
  rw [show ((128 : Nat) : Int) = 128 from rfl] at r1
  have B1 := B.below b1
  have s1 := b1.size
  obtain ⟨v2, w2, r2, o2, b2, s2⟩ : ∃ v2 w2, (Builtin.append_ #[22, 22] 22 #[.slice (some ⟨w.heap.size, 0, none⟩) 0 128, .slice (if cap = k then some ⟨b, off, none⟩ else some ⟨b, off + k, none⟩) r (cap - k)]).run Tryd.prog w1 = .ok v2 w2 ∧ Own w2 w.heap.size v2 ([] ++ bl (fun i => f (k + i)) r) ∧ Below w.heap.size w1 w2 ∧ w1.heap.size ≤ w2.heap.size := by
    by_cases ck : cap = k
    · rw [if_pos ck]
      obtain rfl : r = 0 := by omega
      exact appB o1 (b := b) (off := off) (n := 0) (f := fun i => f (k + i)) ⟨B1.1, fun i => B1.2.1 _, fun i hi => absurd hi (by omega)⟩ _ s1 (by simp) _
    · rw [if_neg ck]
      exact appB o1 (B1.part k r (Nat.le_refl _)) _ s1 (by simp; omega) _
  rw [List.nil_append] at o2
  obtain ⟨v3, w3, r3, o3, b3, s3⟩ := app1 o2 128 (Nat.le_trans s1 s2) (by rw [bl_len]; omega) 22
  have O3 := Lib.hid o3
  have B3 := Lib.hid ((b1.trans b2).trans b3)
  have S3 := Lib.hid (Nat.le_trans (Nat.le_trans s1 s2) s3)
  have Z := Lib.hid (zz_at r)
  have HB := Lib.hid B
  clear o1 b1 s1 B1 o2 b2 s2 o3 b3 s3 B
  rw [show ((128 : Nat) : Int) = 128 from rfl] at r3
  have HR2 := Lib.hid r2
  have HR3 := Lib.hid r3
  have HK := Lib.hid hk
  have n0 : (0 : Int) ≤ (k : Int) := by omega
  have n1 : (0 : Int) ≤ (r : Int) := by omega
  have n2 : (k : Int) + (r : Int) ≤ 140737488351232 := by omega
  have n3 : (k : Int) + (r : Int) ≤ (cap : Int) := by omega
  have n4 : (cap : Int) ≤ 9223372036854775807 := by omega
  have q0 : ((k : Int) + (r : Int)).tmod 64 = (r : Int) := by rw [Int.tmod_eq_emod_of_nonneg (by omega)]; omega
  clear r2 r3 hk
  go_enter Tryd.func20, Tryd.ntmps20
  go_wp2_with (first | (at_builtin; refine wpList_append_eq rfl _ _ 22 rfl _ _ v2 w2 rfl rfl HR2.out ?_) | (at_builtin; refine wpList_append_eq rfl _ _ 22 rfl _ _ v3 w3 rfl rfl HR3.out ?_))
  all_goals
    clear HR2 HR3 r1 q0
    go_loopw [3] (fun v wr => ∃ t : Nat, t ≤ zz r ∧ Own wr w.heap.size v (bl (fun i => f (k + i)) r ++ [128] ++ List.replicate t 0) ∧ Below w.heap.size w wr ∧ w.heap.size ≤ wr.heap.size) (fun v _ => r + 1 + zz r - sl v)
    case atStart => exact ⟨0, Nat.zero_le _, by simpa using O3.out, B3.out, S3.out⟩
    case round =>
      obtain ⟨t, ht, ho, hb, hs⟩ := hrel
      have le : (bl (fun i => f (k + i)) r ++ [128] ++ List.replicate t 0).length = r + 1 + t := plen _ r t
      have tz : t ≤ 63 := Nat.le_trans ht Z.out.2
      obtain ⟨v4, w4, r4, o4, b4, s4⟩ := app1 ho 0 hs (by rw [le]; omega) 22
      obtain ⟨g, cp, rfl, g1, g2, g3⟩ := ho.form (by rw [le]; omega)
      rw [le] at r4 g3 ho
      rw [le]
      have O4 : Hid (Own w4 w.heap.size v4 (bl (fun i => f (k + i)) r ++ [128] ++ List.replicate (t + 1) 0)) := Lib.hid (by rw [List.replicate_succ']; simpa using o4)
      have HO := Lib.hid ho
      have HBB := Lib.hid hb
      have B4 := Lib.hid (bstepB hb b4)
      have S4 := Lib.hid (Nat.le_trans hs s4)
      clear o4 b4 s4 ho hb hs
      have q : ((r : Int) + 1 + (t : Int)).tmod 64 = (((r + 1 + t) % 64 : Nat) : Int) := by rw [Int.tmod_eq_emod_of_nonneg (by omega)]; omega
      by_cases c : t < zz r
      · have tt : ((((r + 1 + t) % 64 : Nat) : Int) != 56) = true := by have := zz_ahead c; simp; omega
        rw [show ((0 : Nat) : Int) = 0 from rfl] at r4
        have LV : Hid (sl v4 = r + 1 + (t + 1)) := Lib.hid (by obtain ⟨g', c', e', _⟩ := O4.out.form (by rw [plen]; omega); rw [e', plen]; rfl)
        go_wp2_with (first | (at_builtin; refine wpList_append_eq rfl _ _ 22 rfl _ _ v4 w4 rfl rfl r4 ?_))
        go_roundw
        case rel => exact ⟨t + 1, by omega, O4.out, B4.out, S4.out⟩
        case measure => rw [LV.out]; simp [sl]; omega
      · obtain rfl : t = zz r := by omega
        have tt : ((r : Int) + 1 + (zz r : Int)).tmod 64 = 56 := by have := Z.out.1; rw [Int.tmod_eq_emod_of_nonneg (by omega)]; omega
        clear q
        clear r4 O4 B4 S4
        go_wp2_with fail
        go_ret
        exact ⟨⟨_, rfl, HO.out⟩, HBB.out⟩
/-- what stands behind the last whole block, and its padding. -/
def ends (f : Nat → Nat) (n : Nat) : List Nat := bl (fun i => f (n / 64 * 64 + i)) (n % 64) ++ [128] ++ List.replicate (zz n) 0
theorem ends_len (f : Nat → Nat) (n : Nat) : (ends f n).length = n % 64 + 1 + zz n := by rw [ends, plen]
theorem zz_mod (n : Nat) : zz (n % 64) = zz n := by unfold zz; omega
theorem unfinished_c (b off n cap : Nat) (f : Nat → Nat) (w : World) (hn : n ≤ 140737488351232) (hc : n ≤ cap) (hcap : cap ≤ 9223372036854775807) (B : Bs w b off n f) :
    Calls Tryd.prog 20 #[.slice (some ⟨b, off, none⟩) n cap] w fun e w' => (∃ v, e = .returned v ∧ Own w' w.heap.size v (ends f n)) ∧ Below w.heap.size w w' := by
  have e : n / 64 * 64 + n % 64 = n := by omega
  have h := unfin_c b off (n / 64 * 64) (n % 64) cap f w (by omega) (by omega) (by omega) (by omega) hcap (by rw [e]; exact B)
  rw [e, zz_mod] at h
  exact h
theorem bits_low (n : Nat) : wb true (8 * n % 4294967296) 4 ++ wb true (8 * n / 4294967296 % 4294967296) 4 = lb true n 8 := by
  simp only [wb_low, lb, List.range_succ, List.range_zero, List.map_append, List.map_cons, List.map_nil, lbAt, List.nil_append, List.cons_append]
  simp
  omega
theorem bits_high (n : Nat) : wb false (8 * n / 4294967296 % 4294967296) 4 ++ wb false (8 * n % 4294967296) 4 = lb false n 8 := by
  simp only [wb_high, lb, List.range_succ, List.range_zero, List.map_append, List.map_cons, List.map_nil, lbAt, List.nil_append, List.cons_append]
  simp
  omega
end Go.Proofs.YtenlbjnoiamfiaaDoor.Hs
